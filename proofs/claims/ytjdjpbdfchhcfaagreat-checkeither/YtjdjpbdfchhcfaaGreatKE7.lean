/- tenonref01.own at dicts and records: the fields' number and names. -/
import Derived.Test.YtjdjpbdfchhcfaaGreatKE2
import Derived.Test.YtjdjpbdfchhcfaaGreatKE3
namespace Go.Proofs.YtjdjpbdfchhcfaaGreat
open Go.RowKit

theorem leS_empty {n : ByteArray} (h : Sp.isNm n = true) : Sp.leS n ByteArray.empty = false := by
  have h1 := isNm_len h
  have h2 : n.toList ≠ [] := by
    have := toList_ne (s := n) (by omega)
    intro e; rw [e] at this; simp at this
  unfold Sp.leS
  have he : ByteArray.empty.toList = [] := by rw [ByteArray.toList_eq]; rfl
  rw [he]
  cases hl : n.toList with
  | nil => exact absurd hl h2
  | cons x l => rfl

def NmLoop (w : World) (B : Nat → Prop) (fs : TmF) (af : Option Addr) (j : Nat) (l : TmF) (s : ByteArray) : Prop :=
  l.len + j = fs.len ∧ l.In w B af j ∧ Sp.named ByteArray.empty fs.names = Sp.named s l.names ∧ (j = 0 → s = ByteArray.empty) ∧ (0 < j → ∃ g o, af = some ⟨g, o, none⟩ ∧ B g ∧ w.cell? ⟨g, o + (j - 1) * 12, none⟩ = some (.string s))

section
variable (k : Int) (b : Bool) (i : Int) (f : Nat) (tx : ByteArray) (ab : Option Addr) (nb cb : Nat) (rf : Int) (al : Option Addr) (nl cl : Nat) (af : Option Addr) (cf : Nat) (c : ByteArray) (vr p n : Int) (w : World)
set_option maxRecDepth 100000 in
set_option maxHeartbeats 2000000 in
theorem own_fields (hk : k = 9 ∨ (k = 10 ∧ Sp.headR c vr = 0)) (h : Sp.ent k p n = 0) (hs : c.size ≤ maxLen) (B : Nat → Prop) (hB : Sub B w) (fs : TmF) (hf : fs.In w B af 0) (hlen : fs.len ≤ 140737488355328) :
    Calls Tryz.prog 81 #[.agg (tcells k b i f tx (.slice ab nb cb) rf (.slice al nl cl) (.slice af fs.len cf) c vr), .int .i64 p, .int .i64 n] w fun e w' => e = .returned (.int .i64 (Sp.fieldsR fs.names)) ∧ Below w.heap.size w w' := by
  unfold tcells
  obtain ⟨_, _, a3, a4⟩ := Sp.ent_zero h
  have hk' : k = 9 ∨ (k = 10 ∧ Sp.isNm c = true ∧ 1 ≤ vr ∧ vr ≤ 1000) := by
    rcases hk with hk | ⟨hk, hh⟩
    · exact .inl hk
    · refine .inr ⟨hk, ?_⟩
      unfold Sp.headR at hh
      split at hh
      · omega
      · split at hh
        · omega
        · exact ⟨by simpa using ‹¬ Sp.isNm c = false›, by omega, by omega⟩
  clear hk h
  by_cases hl : 4096 < fs.len
  · have H : Hid (Sp.fieldsR fs.names = 2) := by show _ = _; unfold Sp.fieldsR; rw [if_pos (by rw [TmF.names_len]; exact hl)]
    clear hf
    rcases hk' with rfl | ⟨rfl, hnm, hv0, hv1⟩
    all_goals
      go_enter Tryz.func81, Tryz.ntmps81
      go_wp2_with (go_at_call 92; refine (Name_any _ _ hs).mono ?_; rintro e w' ⟨rfl, rfl⟩)
      go_ret
      exact ⟨ret_int H.out.symm, (Below.refl _ _).alloc (Nat.le_refl _) _⟩
  · have HS : Hid (NmLoop w B fs af 0 fs ByteArray.empty) := ⟨rfl, hf, rfl, fun _ => rfl, fun h => absurd h (by omega)⟩
    clear hf
    rcases hk' with rfl | ⟨rfl, hnm, hv0, hv1⟩
    all_goals
      go_enter Tryz.func81, Tryz.ntmps81
      go_wp2_with (go_at_call 92; refine (Name_any _ _ hs).mono ?_; rintro e w' ⟨rfl, rfl⟩)
      go_loopw [7] (fun x wr => ∃ (j : Nat) (l : TmF) (s : ByteArray), x = .int .i64 j ∧ Hid (NmLoop w B fs af j l s) ∧ j ≤ fs.len ∧ wr.cell? ⟨w.heap.size, 8, none⟩ = some (.slice af fs.len cf) ∧ Hid (Below w.heap.size w wr)) (fun x _ => fs.len - (intOf x).toNat)
      case atStart => exact ⟨0, fs, _, rfl, HS, by omega, by simp, (Below.refl _ _).alloc (Nat.le_refl _) _⟩
      case round =>
        obtain ⟨j, l, s, rfl, HR, hj, hc8, HB⟩ := hrel
        cases l with
        | nil =>
          have h1 : fs.len ≤ j := by have := HR.out.1; simp [TmF.len] at this; omega
          have H : Hid (Sp.fieldsR fs.names = 0) := by
            show _ = _; unfold Sp.fieldsR; rw [if_neg (by rw [TmF.names_len]; exact hl), HR.out.2.2.1]; simp [TmF.names, Sp.named]
          go_wp2_with fail
          go_ret
          exact ⟨ret_int H.out.symm, HB.out⟩
        | cons nm t l =>
          obtain ⟨hlen', hin, hnamed, hz, hprev⟩ := HR.out
          simp only [TmF.In] at hin
          obtain ⟨g, o, cs, rfl, hgB, c0, hn0, _, _, hin'⟩ := hin
          have hg := hB _ hgB
          have hlt : j < fs.len := by simp [TmF.len] at hlen'; omega
          have d0 : wr.cell? ⟨g, o + j * 12, none⟩ = some (.string nm) := by rw [HB.out.cell (p := ⟨g, o + j * 12, none⟩) (by show g < _; omega)]; exact c0
          have hnl : nm.size ≤ maxLen := by unfold maxLen; omega
          have HN : Hid (Sp.isNm nm = true ∧ Sp.leS nm s = false → NmLoop w B fs (some ⟨g, o, none⟩) (j + 1) l nm) := fun ⟨a, b⟩ => ⟨by simp [TmF.len] at hlen'; omega, hin', by rw [hnamed]; simp [TmF.names, Sp.named, a, b], fun h => by omega, fun _ => ⟨g, o, rfl, hgB, by simpa using c0⟩⟩
          have H8 : Hid (Sp.isNm nm = false ∨ Sp.leS nm s = true → Sp.fieldsR fs.names = 8) := by
            intro hor; unfold Sp.fieldsR; rw [if_neg (by rw [TmF.names_len]; exact hl), hnamed]
            rcases hor with a | a <;> simp [TmF.names, Sp.named, a]
          have HZ : Hid (j = 0 → s = ByteArray.empty) := hz
          have HP : Hid (0 < j → wr.cell? ⟨g, o + (j - 1) * 12, none⟩ = some (.string s)) := by
            intro hj0; obtain ⟨g', o', e, _, hc⟩ := hprev hj0
            simp only [Option.some.injEq, Addr.mk.injEq, and_true] at e
            obtain ⟨rfl, rfl⟩ := e
            rw [HB.out.cell (p := ⟨g, o + (j - 1) * 12, none⟩) (by show g < _; omega)]; exact hc
          clear hlen' hin' hnamed hz hprev c0 HR
          cases hnm' : Sp.isNm nm with
          | false =>
            have H := H8.out (.inl hnm')
            have H : Hid _ := H
            go_wp2_with fail
            go_quiet ((go_at_call 92; exact Calls.quiet_of_same ((Name_any _ _ hnl).mono (fun e w' h => ⟨h.1, h.2.symm⟩))))
            go_wp2_with fail
            go_ret
            exact ⟨ret_int H.out.symm, HB.out.trans (below_drewN' _ _ _)⟩
          | true =>
            by_cases hj0 : j = 0
            · have hs0 := HZ.out hj0
              have hle : Sp.leS nm s = false := by rw [hs0]; exact leS_empty hnm'
              have HN1 : Hid (NmLoop w B fs (some ⟨g, o, none⟩) (j + 1) l nm) := HN.out ⟨hnm', hle⟩
              have hd : decide (0 < (j : Int)) = false := by simp; omega
              have hd2 : decide (0 < j) = false := by simp; omega
              clear hs0 hle HN HP HZ H8 hj0
              go_wp2_with fail
              go_quiet ((go_at_call 92; exact Calls.quiet_of_same ((Name_any _ _ hnl).mono (fun e w' h => ⟨h.1, h.2.symm⟩))))
              go_wp2_with fail
              go_roundw
              case rel => exact ⟨j + 1, l, nm, by go_num, HN1, by omega, by simpa using hc8, HB.out.trans (below_drewN' _ _ _)⟩
              case measure => simp [intOf]; omega
            · have hp := HP.out (by omega)
              have hd : decide (0 < (j : Int)) = true := by simp; omega
              have hd2 : decide (0 < j) = true := by simp; omega
              have hd3 : ((j : Int) - 1).toNat = j - 1 := by omega
              have hd4 : 0 ≤ (j : Int) - 1 ∧ (j : Int) - 1 < fs.len := by omega
              cases hle : Sp.leS nm s with
              | true =>
                have H := H8.out (.inr hle)
                have H : Hid _ := H
                unfold Sp.leS at hle
                go_wp2_with fail
                go_quiet ((go_at_call 92; exact Calls.quiet_of_same ((Name_any _ _ hnl).mono (fun e w' h => ⟨h.1, h.2.symm⟩))))
                go_wp2_with fail
                go_ret
                exact ⟨ret_int H.out.symm, HB.out.trans (below_drewN' _ _ _)⟩
              | false =>
                have HN1 : Hid (NmLoop w B fs (some ⟨g, o, none⟩) (j + 1) l nm) := HN.out ⟨hnm', hle⟩
                unfold Sp.leS at hle
                go_wp2_with fail
                go_quiet ((go_at_call 92; exact Calls.quiet_of_same ((Name_any _ _ hnl).mono (fun e w' h => ⟨h.1, h.2.symm⟩))))
                go_wp2_with fail
                go_roundw
                case rel => exact ⟨j + 1, l, nm, by go_num, HN1, by omega, by simpa using hc8, HB.out.trans (below_drewN' _ _ _)⟩
                case measure => simp [intOf]; omega
end
end Go.Proofs.YtjdjpbdfchhcfaaGreat

