/- The Go walk through a value (package value: fieldsRule, walk.list, walk.dict, walk.value) comes to the plain walk through its term. -/
import Derived.Test.YtflcchemkbkinaaName
namespace Go.Proofs.Ytflcchemkbkinaa
open Go.RowKit

set_option maxRecDepth 100000 in
set_option maxHeartbeats 400000 in
theorem dict1_any (n : ByteArray) (v : Value) (w : World) :
    Calls Try.prog 83 #[.agg #[.string n, v]] w fun e w' => e = .returned (.string n) ∧ Below w.heap.size w w' := by
  go_enter Try.func83, Try.ntmps83
  go_wp2
  go_ret
  exact ⟨rfl, (Below.refl _ _).alloc (Nat.le_refl _) _⟩

theorem isNm_len {n : ByteArray} (h : Sp.isNm n = true) : 1 ≤ n.size := by
  simp [Sp.isNm] at h; omega

set_option maxRecDepth 100000 in
set_option maxHeartbeats 400000 in
theorem fieldsRule_any (fs : TmF) (a : Option Addr) (cap B : Nat) (w : World) (hB : B ≤ w.heap.size) (h : fs.V w (Lo B) a 0) (hlen : fs.len ≤ maxLen) :
    Calls Try.prog 82 #[.slice a fs.len cap, .func (.func 83) #[] #[]] w fun e w' => e = .returned (.int .i64 (Sp.fieldsR fs.names)) ∧ Below w.heap.size w w' := by
  unfold maxLen at hlen
  by_cases hl : 4096 < fs.len
  · have hr : Sp.len (fs.len : Int) 4096 = 2 := by unfold Sp.len; rw [if_neg (by omega)]
    have H : Hid (Sp.fieldsR fs.names = 2) := by show _ = _; unfold Sp.fieldsR; rw [if_pos (by rw [TmF.names_len]; exact hl)]
    go_enter Try.func82, Try.ntmps82
    go_wp2_with (go_at_call 45; refine (lengthRule_any _ _ _).mono ?_; rintro e w' ⟨rfl, rfl⟩)
    go_ret
    exact ⟨ret_int H.out.symm, Below.refl _ _⟩
  · have hr : Sp.len (fs.len : Int) 4096 = 0 := by unfold Sp.len; rw [if_pos (by omega)]
    go_enter Try.func82, Try.ntmps82
    go_wp2_with (go_at_call 45; refine (lengthRule_any _ _ _).mono ?_; rintro e w' ⟨rfl, rfl⟩)
    go_loopw [6, 18] (fun ah i wr => ∃ (k : Nat) (l : TmF) (s : ByteArray), ah = .string s ∧ i = .int .i64 k ∧ l.len + k = fs.len ∧ l.V w (Lo B) a k ∧ Hid (Sp.named ByteArray.empty fs.names = Sp.named s l.names) ∧ Below w.heap.size w wr) (fun _ i _ => fs.len - (intOf i).toNat)
    case atStart => exact ⟨0, fs, _, rfl, rfl, rfl, h, rfl, Below.refl _ _⟩
    case round =>
      obtain ⟨k, l, s, rfl, rfl, hk, hv, HN, hb⟩ := hrel
      cases l with
      | nil =>
        have h1 : fs.len ≤ k := by simp [TmF.len] at hk; omega
        have HK : Hid (TmF.nil.len + k = fs.len) := hk
        have H : Hid (Sp.fieldsR fs.names = 0) := by
          show _ = _; unfold Sp.fieldsR; rw [if_neg (by rw [TmF.names_len]; exact hl), HN.out]; simp [TmF.names, Sp.named]
        clear hk HN hv h
        go_wp2_with fail
        go_ret
        exact ⟨ret_int H.out.symm, hb⟩
      | cons n t l =>
        have HV : Hid (TmF.V w (Lo B) (.cons n t l) a k) := hv
        simp only [TmF.V] at hv
        obtain ⟨g, o, v, rfl, hg, c0, c1, hn, ht, hv'⟩ := hv
        have hg : g < B := hg
        have hlt : k < fs.len := by simp [TmF.len] at hk; omega
        have HK : Hid (l.len + (k + 1) = fs.len) := by show _ = _; simp [TmF.len] at hk; omega
        have d0 : wr.cell? ⟨g, o + k * 2, none⟩ = some (.string n) := by rw [hb.cell (p := ⟨g, o + k * 2, none⟩) (by show g < _; omega)]; exact c0
        have d1 : wr.cell? ⟨g, o + k * 2 + 1, none⟩ = some v := by rw [hb.cell (p := ⟨g, o + k * 2 + 1, none⟩) (by show g < _; omega)]; exact c1
        have HB : Hid (Below w.heap.size w wr) := hb
        have HT : Hid (TmF.V w (Lo B) l (some ⟨g, o, none⟩) (k + 1)) := hv'
        have hgr : g < wr.heap.size := by have := hb.size; omega
        have hsh := t.V_shape v ht
        clear hk hv' ht c0 c1 h hb HV
        cases hnm : Sp.isNm n with
        | false =>
          have H : Hid (Sp.fieldsR fs.names = 8) := by
            show _ = _; unfold Sp.fieldsR; rw [if_neg (by rw [TmF.names_len]; exact hl), HN.out]; simp [TmF.names, Sp.named, hnm]
          rcases hsh with rfl | ⟨T, x, rfl⟩
          all_goals
            go_wp2_with (first | (go_at_call 83; refine (dict1_any _ _ _).mono ?_; rintro e w1 ⟨rfl, hb1⟩) | (go_at_call 77; refine (isName_any _ _ hn).mono ?_; rintro e w' ⟨rfl, rfl⟩))
            go_ret
            exact ⟨ret_int H.out.symm, (HB.out.alloc HB.out.size _).trans (hb1.mono (by simp; have := HB.out.size; omega))⟩
        | true =>
          cases hle : Sp.leS n s with
          | true =>
            have H : Hid (Sp.fieldsR fs.names = 8) := by
              show _ = _; unfold Sp.fieldsR; rw [if_neg (by rw [TmF.names_len]; exact hl), HN.out]; simp [TmF.names, Sp.named, hnm, hle]
            unfold Sp.leS at hle
            rcases hsh with rfl | ⟨T, x, rfl⟩
            all_goals
              go_wp2_with (first | (go_at_call 83; refine (dict1_any _ _ _).mono ?_; rintro e w1 ⟨rfl, hb1⟩) | (go_at_call 77; refine (isName_any _ _ hn).mono ?_; rintro e w' ⟨rfl, rfl⟩))
              go_ret
              exact ⟨ret_int H.out.symm, (HB.out.alloc HB.out.size _).trans (hb1.mono (by simp; have := HB.out.size; omega))⟩
          | false =>
            have H : Hid (Sp.named ByteArray.empty fs.names = Sp.named n l.names) := by
              show _ = _; rw [HN.out]; simp [TmF.names, Sp.named, hnm, hle]
            unfold Sp.leS at hle
            rcases hsh with rfl | ⟨T, x, rfl⟩
            all_goals
              go_wp2_with (first | (go_at_call 83; refine (dict1_any _ _ _).mono ?_; rintro e w1 ⟨rfl, hb1⟩) | (go_at_call 77; refine (isName_any _ _ hn).mono ?_; rintro e w' ⟨rfl, rfl⟩))
              go_roundw
              case rel => exact ⟨k + 1, l, n, rfl, by go_num, HK.out, HT.out, H, (HB.out.alloc HB.out.size _).trans (hb1.mono (by simp; have := HB.out.size; omega))⟩
              case measure => simp [intOf]; omega
end Go.Proofs.Ytflcchemkbkinaa
