/- value.copyOf at a list. -/
import Derived.Test.YtbaadndogikphaaVOfG
import Derived.Test.YtbaadndogikphaaTOfG
import Derived.Test.YtbaadndogikphaaOrdV
namespace Go.Proofs.Ytbaadndogikphaa
open Go.RowKit

def CopC (N : Nat) : Prop := ∀ (t : Tm), t.sz ≤ N → ∀ (v : Value) (B : Nat → Prop) (w : World), t.V w B v → Sub B w → t.Ok →
  Calls Try.prog 43 #[v] w fun e w' => ∃ v', e = .returned v' ∧ Below w.heap.size w w' ∧ t.V w' (Fr w w') v'
theorem CopC.at {N : Nat} (HC : CopC N) {t : Tm} (hN : t.sz ≤ N) {v : Value} {B : Nat → Prop} {w : World} (h : t.V w B v) (hB : Sub B w) (ho : t.Ok) :
    ∀ W, Below w.heap.size w W → Calls Try.prog 43 #[v] W fun e w' => ∃ v', e = .returned v' ∧ Below W.heap.size W w' ∧ t.V w' (Fr W w') v' ∧ (v' = .nilIface ∨ ∃ T x, v' = .iface T x) := by
  intro W hW
  refine (HC t hN v B W (t.V_same (hB.same hW) (fun _ h => h) v h) (hB.later hW) ho).mono ?_
  rintro e w' ⟨v', rfl, hb, hv⟩
  exact ⟨v', rfl, hb, hv, t.V_shape v' hv⟩

set_option maxRecDepth 100000 in
set_option maxHeartbeats 2000000 in
theorem cof_8 (N : Nat) (HC : CopC N) (al : Option Addr) (L : TmL) (cl : Nat) (w : World) (hN : L.sz ≤ N) (B : Nat → Prop) (hB : Sub B w) (hL : L.V w B al 0) (hlen : L.len ≤ 4096) (ho : L.Ok) :
    Calls Try.prog 43 #[.iface 63 (.slice al L.len cl)] w fun e w' => ∃ a cap, e = .returned (.iface 63 (.slice a L.len cap)) ∧ Below w.heap.size w w' ∧ L.LV w' (Fr w w') a cap := by
  obtain ⟨i0, hi, hz0, hz1, hz2⟩ := info_parts Try.infoI
  have HCH : Hid (CopC N) := HC
  clear HC
  obtain ⟨M, hM⟩ : ∃ M, M = madeCells (Value.nilIface).cells (((L.len : Nat) : Int).toNat * i0.size) := ⟨_, rfl⟩
  have hMs : M.size = L.len := by rw [hM, size_madeCells, hz1]; simp
  have hmake : ∀ W : World, (Instr.makeSlice 63 (.int .i64 (L.len : Int)) (.int .i64 (L.len : Int))).run Try.prog W = .ok (.slice (some ⟨W.heap.size, 0, none⟩) L.len L.len) (W.alloc (.cells M 20)) := fun W => by
    have h := run_make (P := Try.prog) W 63 20 i0 .nilIface Try.undL hi hz0 .i64 .i64 (L.len : Int) (L.len : Int) (by omega) (by omega) (by rw [hz2]; omega) (by omega)
    rw [← hM] at h; simpa using h
  clear hM hi hz0 hz1 hz2
  have H0 : Hid (RW 20 w (w.alloc (.cells M 20)) w.heap.size L.len [] ∧ VPre (w.alloc (.cells M 20)) (Own w.heap.size (w.alloc (.cells M 20)) w.heap.size) L [] L ∧ L.V w B al 0 ∧ L.Ok) := by
    have h := RW.made (w := w) (w0 := w) (Below.refl _ _) M 20
    rw [hMs] at h
    exact ⟨h, (VPre_nil _ _).2 rfl, hL, ho⟩
  clear hL ho
  go_enter Try.func43, Try.ntmps43
  go_wp2_with fail
  go_loopw [32] (fun x wr => ∃ (k : Nat) (l : TmL) (xs : List Value), x = .int .i64 k ∧ l.len + k = L.len ∧ l.sz ≤ N ∧ xs.length = k ∧ Hid (RW 20 w wr (w.heap.size) L.len xs ∧ VPre wr (Own w.heap.size wr (w.heap.size)) L xs l ∧ l.V w B al k ∧ l.Ok)) (fun x _ => L.len - (intOf x).toNat)
  case atStart => exact ⟨0, L, [], rfl, rfl, hN, rfl, H0.out⟩
  case round =>
    obtain ⟨k, l, xs, rfl, hl, hlN, hxs, HR⟩ := hrel
    cases l with
    | nil =>
      have h1 : L.len ≤ k := by simp [TmL.len] at hl; omega
      clear hl
      go_wp2_with fail
      go_ret
      exact ⟨_, _, rfl, HR.out.1.bel, HR.out.2.1.fin HR.out.1 (by unfold maxLen; omega)⟩
    | cons t l =>
      obtain ⟨hrw, hpre, hsrc, hok⟩ := HR.out
      simp only [TmL.V] at hsrc
      obtain ⟨g1, o1, v1, rfl, hg1, hc, ht, hl'⟩ := hsrc
      have hk1 : k < L.len := by simp only [TmL.len] at hl; omega
      have HL : Hid (l.len + (k + 1) = L.len) := by show _ = _; simp only [TmL.len] at hl; omega
      have htN : t.sz ≤ N ∧ l.sz ≤ N := by simp [TmL.sz] at hlN; omega
      have hs : Same B w wr := hB.same hrw.bel
      have HO := HCH.out.at htN.1 (t.V_same hs (fun _ h => h) v1 ht) (hB.later hrw.bel) hok.head.1
      have HO : Hid _ := HO
      have e0 : wr.cell? ⟨g1, o1 + k, none⟩ = some v1 := by rw [hs.cell (p := ⟨g1, o1 + k, none⟩) hg1]; exact hc
      have HN : Hid (l.V w B (some ⟨g1, o1, none⟩) (k + 1) ∧ l.Ok) := ⟨hl', hok.head.2⟩
      clear hl hlN hc ht hl' hok hs hrw hpre
      have HS : Hid (∀ w1, Below wr.heap.size wr w1 → (∃ u, w1.cell? ⟨w.heap.size, k, none⟩ = some u) ∧ w1.frozen? ⟨w.heap.size, k, none⟩ = false) := fun w1 h => (HR.out.1.call h).own k hk1
      have hi0 : (0 : Int) ≤ (k : Int) := Int.natCast_nonneg _
      have hi1 : (k : Int) < (L.len : Int) := by omega
      go_wp2_with fail
      refine (HO.out _ (Below.refl _ _)).mono ?_
      rintro e w1 ⟨v, rfl, hb1, hv, hsh⟩
      have hb1' : Below wr.heap.size wr w1 := hb1
      obtain ⟨⟨u, hu⟩, hf⟩ := HS.out w1 hb1'
      have HV : Hid (t.V w1 (Fr wr w1) v) := hv
      have HB1 : Hid (Below wr.heap.size wr w1) := hb1'
      have HNew : Hid (RW 20 w (w1.setCell ⟨w.heap.size, k, none⟩ v) (w.heap.size) L.len (xs ++ [v]) ∧ VPre (w1.setCell ⟨w.heap.size, k, none⟩ v) (Own w.heap.size (w1.setCell ⟨w.heap.size, k, none⟩ v) (w.heap.size)) L (xs ++ [v]) l) := by
        have h1 := (HR.out.1.call HB1.out).set [v] (by simp; omega)
        rw [hxs] at h1
        exact ⟨h1, VPre.step (o := k) HR.out.2.1 HB1.out HV.out HR.out.1.lt [v]⟩
      clear hb1 hb1' hv
      rcases hsh with rfl | ⟨T, x, rfl⟩
      all_goals
        go_wp2_with fail
        go_roundw
        case rel => exact ⟨k + 1, l, _, by go_num, HL.out, htN.2, by simp [hxs], HNew.out.1, HNew.out.2, HN.out.1, HN.out.2⟩
        case measure => simp [intOf]; omega
end Go.Proofs.Ytbaadndogikphaa

/- value.copyDict. -/
namespace Go.Proofs.Ytbaadndogikphaa
open Go.RowKit

set_option maxRecDepth 100000 in
set_option maxHeartbeats 2000000 in
theorem copyDict_any (N : Nat) (HC : CopC N) (al : Option Addr) (L : TmF) (cl : Nat) (w : World) (hN : L.sz ≤ N) (B : Nat → Prop) (hB : Sub B w) (hL : L.V w B al 0) (hlen : L.len ≤ 4096) (hnm : L.Nm) (ho : L.Ok) :
    Calls Try.prog 78 #[.slice al L.len cl] w fun e w' => ∃ a cap, e = .returned (.slice a L.len cap) ∧ Below w.heap.size w w' ∧ L.LV w' (Fr w w') a cap := by
  obtain ⟨i0, hi, hz0, hz1, hz2⟩ := info_parts Try.infoFd
  have HCH : Hid (CopC N) := HC
  clear HC
  obtain ⟨M, hM⟩ : ∃ M, M = madeCells (Value.agg #[.string ByteArray.empty, .nilIface]).cells (((L.len : Nat) : Int).toNat * i0.size) := ⟨_, rfl⟩
  have hMs : M.size = L.len * 2 := by rw [hM, size_madeCells, hz1]; simp
  have hmake : ∀ W : World, (Instr.makeSlice 62 (.int .i64 (L.len : Int)) (.int .i64 (L.len : Int))).run Try.prog W = .ok (.slice (some ⟨W.heap.size, 0, none⟩) L.len L.len) (W.alloc (.cells M 60)) := fun W => by
    have h := run_make (P := Try.prog) W 62 60 i0 _ Try.undD hi hz0 .i64 .i64 (L.len : Int) (L.len : Int) (by omega) (by omega) (by rw [hz2]; omega) (by omega)
    rw [← hM] at h; simpa using h
  clear hM hi hz0 hz1 hz2
  have H0 : Hid (RW 60 w (w.alloc (.cells M 60)) w.heap.size (L.len * 2) [] ∧ FPre (w.alloc (.cells M 60)) (Own w.heap.size (w.alloc (.cells M 60)) w.heap.size) L [] L ∧ L.V w B al 0 ∧ L.Ok ∧ L.Nm) := by
    have h := RW.made (w := w) (w0 := w) (Below.refl _ _) M 60
    rw [hMs] at h
    exact ⟨h, (FPre_nil _ _).2 rfl, hL, ho, hnm⟩
  clear hL ho hnm
  go_enter Try.func78, Try.ntmps78
  go_wp2_with fail
  go_loopw [11] (fun x wr => ∃ (k : Nat) (l : TmF) (xs : List Value), x = .int .i64 k ∧ l.len + k = L.len ∧ l.sz ≤ N ∧ xs.length = k * 2 ∧ Hid (RW 60 w wr w.heap.size (L.len * 2) xs ∧ FPre wr (Own w.heap.size wr w.heap.size) L xs l ∧ l.V w B al k ∧ l.Ok ∧ l.Nm)) (fun x _ => L.len - (intOf x).toNat)
  case atStart => exact ⟨0, L, [], rfl, rfl, hN, rfl, H0.out⟩
  case round =>
    obtain ⟨k, l, xs, rfl, hl, hlN, hxs, HR⟩ := hrel
    cases l with
    | nil =>
      have h1 : L.len ≤ k := by simp [TmF.len] at hl; omega
      clear hl
      go_wp2_with fail
      go_ret
      exact ⟨_, _, rfl, HR.out.1.bel, HR.out.2.1.fin HR.out.1 (by unfold maxLen; omega)⟩
    | cons n t l =>
      obtain ⟨hrw, hpre, hsrc, hok, hnm⟩ := HR.out
      simp only [TmF.V] at hsrc
      obtain ⟨g1, o1, v1, rfl, hg1, hnc, hvc, _, ht, hl'⟩ := hsrc
      have hk1 : k < L.len := by simp only [TmF.len] at hl; omega
      have HL : Hid (l.len + (k + 1) = L.len) := by show _ = _; simp only [TmF.len] at hl; omega
      have htN : t.sz ≤ N ∧ l.sz ≤ N := by simp [TmF.sz] at hlN; omega
      have hs : Same B w wr := hB.same hrw.bel
      have HO := HCH.out.at htN.1 (t.V_same hs (fun _ h => h) v1 ht) (hB.later hrw.bel) hok.head.1
      have HO : Hid _ := HO
      have en : wr.cell? ⟨g1, o1 + k * 2, none⟩ = some (.string n) := by rw [hs.cell (p := ⟨g1, o1 + k * 2, none⟩) hg1]; exact hnc
      have ev : wr.cell? ⟨g1, o1 + k * 2 + 1, none⟩ = some v1 := by rw [hs.cell (p := ⟨g1, o1 + k * 2 + 1, none⟩) hg1]; exact hvc
      have HN : Hid (l.V w B (some ⟨g1, o1, none⟩) (k + 1) ∧ l.Ok ∧ l.Nm) := ⟨hl', hok.head.2, hnm.head.2⟩
      have hn32 : n.size ≤ 140737488355328 := by have := hnm.head.1; omega
      clear hl hlN hl' hok hs hrw hpre hnc hvc hnm
      have HS : Hid (∀ w1, Below wr.heap.size wr w1 → ((∃ u, w1.cell? ⟨w.heap.size, k * 2, none⟩ = some u) ∧ w1.frozen? ⟨w.heap.size, k * 2, none⟩ = false) ∧ (∃ u, w1.cell? ⟨w.heap.size, k * 2 + 1, none⟩ = some u) ∧ w1.frozen? ⟨w.heap.size, k * 2 + 1, none⟩ = false) := fun w1 h => ⟨(HR.out.1.call h).own (k * 2) (by omega), (HR.out.1.call h).own (k * 2 + 1) (by omega)⟩
      have hi0 : (0 : Int) ≤ (k : Int) := Int.natCast_nonneg _
      have hi1 : (k : Int) < (L.len : Int) := by omega
      have HX : Hid (∀ W, Below (wr.alloc (.cells #[.string n, v1] 60)).heap.size (wr.alloc (.cells #[.string n, v1] 60)) W → (W.cell? ⟨wr.heap.size, 0, none⟩ = some (.string n) ∧ W.cell? ⟨wr.heap.size, 1, none⟩ = some v1) ∧ Below wr.heap.size wr W) := fun W h => by
        have hh := fun j => cell_of_row W wr.heap.size j _ _ _ (show W.heap[wr.heap.size]? = some (.cells #[.string n, v1] 60 (0, 0)) by rw [h.block wr.heap.size (by simp)]; exact heap_alloc_new wr _)
        exact ⟨⟨hh 0, hh 1⟩, ((Below.refl _ _).alloc (Nat.le_refl _) _).trans (h.mono (by simp))⟩
      have hfar : wr.heap.size ≠ w.heap.size := by have := HR.out.1.lt.2; omega
      have hsh0 := t.V_shape v1 ht
      have HNew : Hid (∀ w2 v, Below wr.heap.size wr w2 → t.V w2 (Fr wr w2) v → RW 60 w (setN w2 w.heap.size (k * 2) [.string n, v]) w.heap.size (L.len * 2) (xs ++ [.string n, v]) ∧ FPre (setN w2 w.heap.size (k * 2) [.string n, v]) (Own w.heap.size (setN w2 w.heap.size (k * 2) [.string n, v]) w.heap.size) L (xs ++ [.string n, v]) l) := fun w2 v hb hv => by
        have h1 := (HR.out.1.call hb).set [.string n, v] (by simp; omega)
        rw [hxs] at h1
        exact ⟨h1, FPre.step (o := k * 2) HR.out.2.1 (by unfold maxLen; omega) hb hv HR.out.1.lt _⟩
      clear ht
      by_cases hkd : t.kind = 1
      · rcases hsh0 with rfl | ⟨T, x, rfl⟩
        · go_wp2_with fail
          go_region_held3 (fun W => W.cell? ⟨wr.heap.size, 0, none⟩ = some (.string n) ∧ W.cell? ⟨wr.heap.size, 1, none⟩ = some .nilIface)
            (first | (refine ⟨?_, ?_⟩ <;> ((repeat rw [cell_far hfar]); first | with_reducible exact (HX.out w2 HB2.out).1.1 | with_reducible exact (HX.out w2 HB2.out).1.2)) | with_reducible exact (HX.out w1 HB1.out).1 | with_reducible exact (HX.out _ (Below.refl _ _)).1 | with_reducible exact (HX.out _ (Below.refl _ _).drew).1)
            ((first
              | (go_at_call 57; refine (sClone_any n _ hn32).mono ?_; rintro e w1 ⟨rfl, hb1⟩; have HB1 : Hid (Below (wr.alloc (.cells #[.string n, .nilIface] 60)).heap.size (wr.alloc (.cells #[.string n, .nilIface] 60)) w1) := below_to (Below.refl _ _).drew hb1; clear hb1)
              | (go_at_call 43; refine (HO.out _ ?_).mono ?_; exact (HX.out _ HB1.out).2; rintro e w2 ⟨v, rfl, hb2, hv, hsh⟩; have HV : Hid (t.V w2 (Fr wr w2) v) := t.V_same (Same.refl _ _) (fun k hk => ⟨Nat.le_trans (HX.out _ HB1.out).2.size hk.1, hk.2⟩) v hv; obtain rfl := Tm.V_nil hkd hv; have HB2 : Hid (Below (wr.alloc (.cells #[.string n, .nilIface] 60)).heap.size (wr.alloc (.cells #[.string n, .nilIface] 60)) w2) := below_to HB1.out hb2; obtain ⟨⟨⟨u0, hu0⟩, hf0⟩, ⟨u1, hu1⟩, hf1⟩ := HS.out w2 (HX.out _ HB2.out).2)))
          have HNw := HNew.out w2 _ (HX.out _ HB2.out).2 HV.out
          go_wp2_with fail
          go_roundw
          case rel => exact ⟨k + 1, l, _, by go_num, HL.out, htN.2, by simp [hxs]; omega, HNw.1, HNw.2, HN.out.1, HN.out.2.1, HN.out.2.2⟩
          case measure => simp [intOf]; omega
        · go_wp2_with fail
          go_region_held3 (fun W => W.cell? ⟨wr.heap.size, 0, none⟩ = some (.string n) ∧ W.cell? ⟨wr.heap.size, 1, none⟩ = some (.iface T x))
            (first | (refine ⟨?_, ?_⟩ <;> ((repeat rw [cell_far hfar]); first | with_reducible exact (HX.out w2 HB2.out).1.1 | with_reducible exact (HX.out w2 HB2.out).1.2)) | with_reducible exact (HX.out w1 HB1.out).1 | with_reducible exact (HX.out _ (Below.refl _ _)).1 | with_reducible exact (HX.out _ (Below.refl _ _).drew).1)
            ((first
              | (go_at_call 57; refine (sClone_any n _ hn32).mono ?_; rintro e w1 ⟨rfl, hb1⟩; have HB1 : Hid (Below (wr.alloc (.cells #[.string n, (.iface T x)] 60)).heap.size (wr.alloc (.cells #[.string n, (.iface T x)] 60)) w1) := below_to (Below.refl _ _).drew hb1; clear hb1)
              | (go_at_call 43; refine (HO.out _ ?_).mono ?_; exact (HX.out _ HB1.out).2; rintro e w2 ⟨v, rfl, hb2, hv, hsh⟩; have HV : Hid (t.V w2 (Fr wr w2) v) := t.V_same (Same.refl _ _) (fun k hk => ⟨Nat.le_trans (HX.out _ HB1.out).2.size hk.1, hk.2⟩) v hv; obtain rfl := Tm.V_nil hkd hv; have HB2 : Hid (Below (wr.alloc (.cells #[.string n, (.iface T x)] 60)).heap.size (wr.alloc (.cells #[.string n, (.iface T x)] 60)) w2) := below_to HB1.out hb2; obtain ⟨⟨⟨u0, hu0⟩, hf0⟩, ⟨u1, hu1⟩, hf1⟩ := HS.out w2 (HX.out _ HB2.out).2)))
          have HNw := HNew.out w2 _ (HX.out _ HB2.out).2 HV.out
          go_wp2_with fail
          go_roundw
          case rel => exact ⟨k + 1, l, _, by go_num, HL.out, htN.2, by simp [hxs]; omega, HNw.1, HNw.2, HN.out.1, HN.out.2.1, HN.out.2.2⟩
          case measure => simp [intOf]; omega
      · rcases hsh0 with rfl | ⟨T, x, rfl⟩
        · go_wp2_with fail
          go_region_held3 (fun W => W.cell? ⟨wr.heap.size, 0, none⟩ = some (.string n) ∧ W.cell? ⟨wr.heap.size, 1, none⟩ = some .nilIface)
            (first | (refine ⟨?_, ?_⟩ <;> ((repeat rw [cell_far hfar]); first | with_reducible exact (HX.out w2 HB2.out).1.1 | with_reducible exact (HX.out w2 HB2.out).1.2)) | with_reducible exact (HX.out w1 HB1.out).1 | with_reducible exact (HX.out _ (Below.refl _ _)).1 | with_reducible exact (HX.out _ (Below.refl _ _).drew).1)
            ((first
              | (go_at_call 57; refine (sClone_any n _ hn32).mono ?_; rintro e w1 ⟨rfl, hb1⟩; have HB1 : Hid (Below (wr.alloc (.cells #[.string n, .nilIface] 60)).heap.size (wr.alloc (.cells #[.string n, .nilIface] 60)) w1) := below_to (Below.refl _ _).drew hb1; clear hb1)
              | (go_at_call 43; refine (HO.out _ ?_).mono ?_; exact (HX.out _ HB1.out).2; rintro e w2 ⟨v, rfl, hb2, hv, hsh⟩; have HV : Hid (t.V w2 (Fr wr w2) v) := t.V_same (Same.refl _ _) (fun k hk => ⟨Nat.le_trans (HX.out _ HB1.out).2.size hk.1, hk.2⟩) v hv; obtain ⟨T2, x2, rfl⟩ := Tm.V_iface hkd hv; have HB2 : Hid (Below (wr.alloc (.cells #[.string n, .nilIface] 60)).heap.size (wr.alloc (.cells #[.string n, .nilIface] 60)) w2) := below_to HB1.out hb2; obtain ⟨⟨⟨u0, hu0⟩, hf0⟩, ⟨u1, hu1⟩, hf1⟩ := HS.out w2 (HX.out _ HB2.out).2)))
          have HNw := HNew.out w2 _ (HX.out _ HB2.out).2 HV.out
          go_wp2_with fail
          go_roundw
          case rel => exact ⟨k + 1, l, _, by go_num, HL.out, htN.2, by simp [hxs]; omega, HNw.1, HNw.2, HN.out.1, HN.out.2.1, HN.out.2.2⟩
          case measure => simp [intOf]; omega
        · go_wp2_with fail
          go_region_held3 (fun W => W.cell? ⟨wr.heap.size, 0, none⟩ = some (.string n) ∧ W.cell? ⟨wr.heap.size, 1, none⟩ = some (.iface T x))
            (first | (refine ⟨?_, ?_⟩ <;> ((repeat rw [cell_far hfar]); first | with_reducible exact (HX.out w2 HB2.out).1.1 | with_reducible exact (HX.out w2 HB2.out).1.2)) | with_reducible exact (HX.out w1 HB1.out).1 | with_reducible exact (HX.out _ (Below.refl _ _)).1 | with_reducible exact (HX.out _ (Below.refl _ _).drew).1)
            ((first
              | (go_at_call 57; refine (sClone_any n _ hn32).mono ?_; rintro e w1 ⟨rfl, hb1⟩; have HB1 : Hid (Below (wr.alloc (.cells #[.string n, (.iface T x)] 60)).heap.size (wr.alloc (.cells #[.string n, (.iface T x)] 60)) w1) := below_to (Below.refl _ _).drew hb1; clear hb1)
              | (go_at_call 43; refine (HO.out _ ?_).mono ?_; exact (HX.out _ HB1.out).2; rintro e w2 ⟨v, rfl, hb2, hv, hsh⟩; have HV : Hid (t.V w2 (Fr wr w2) v) := t.V_same (Same.refl _ _) (fun k hk => ⟨Nat.le_trans (HX.out _ HB1.out).2.size hk.1, hk.2⟩) v hv; obtain ⟨T2, x2, rfl⟩ := Tm.V_iface hkd hv; have HB2 : Hid (Below (wr.alloc (.cells #[.string n, (.iface T x)] 60)).heap.size (wr.alloc (.cells #[.string n, (.iface T x)] 60)) w2) := below_to HB1.out hb2; obtain ⟨⟨⟨u0, hu0⟩, hf0⟩, ⟨u1, hu1⟩, hf1⟩ := HS.out w2 (HX.out _ HB2.out).2)))
          have HNw := HNew.out w2 _ (HX.out _ HB2.out).2 HV.out
          go_wp2_with fail
          go_roundw
          case rel => exact ⟨k + 1, l, _, by go_num, HL.out, htN.2, by simp [hxs]; omega, HNw.1, HNw.2, HN.out.1, HN.out.2.1, HN.out.2.2⟩
          case measure => simp [intOf]; omega
end Go.Proofs.Ytbaadndogikphaa

/- value.copyOf, whole; value.Copy. -/
namespace Go.Proofs.Ytbaadndogikphaa
open Go.RowKit

set_option maxRecDepth 100000 in
set_option maxHeartbeats 400000 in
theorem cof_1 (w : World) : Calls Try.prog 43 #[.nilIface] w fun e w' => e = .returned (.nilIface) ∧ Below w.heap.size w w' := by
  go_enter Try.func43, Try.ntmps43
  go_wp2_with fail
  go_ret
  exact ⟨rfl, Below.refl _ _⟩
set_option maxRecDepth 100000 in
set_option maxHeartbeats 400000 in
theorem cof_2 (b : Bool) (w : World) : Calls Try.prog 43 #[.iface 4 (.bool b)] w fun e w' => e = .returned (.iface 4 (.bool b)) ∧ Below w.heap.size w w' := by
  go_enter Try.func43, Try.ntmps43
  go_wp2_with fail
  go_ret
  exact ⟨rfl, Below.refl _ _⟩
set_option maxRecDepth 100000 in
set_option maxHeartbeats 400000 in
theorem cof_3 (i : Int) (w : World) : Calls Try.prog 43 #[.iface 2 (.int .i64 i)] w fun e w' => e = .returned (.iface 2 (.int .i64 i)) ∧ Below w.heap.size w w' := by
  go_enter Try.func43, Try.ntmps43
  go_wp2_with fail
  go_ret
  exact ⟨rfl, Below.refl _ _⟩
set_option maxRecDepth 100000 in
set_option maxHeartbeats 400000 in
theorem cof_4 (f : Nat) (w : World) : Calls Try.prog 43 #[.iface 22 (.float .f64 f)] w fun e w' => e = .returned (.iface 22 (.float .f64 f)) ∧ Below w.heap.size w w' := by
  go_enter Try.func43, Try.ntmps43
  go_wp2_with fail
  go_ret
  exact ⟨rfl, Below.refl _ _⟩
set_option maxRecDepth 100000 in
set_option maxHeartbeats 400000 in
theorem cof_7 (rf : Int) (w : World) : Calls Try.prog 43 #[.iface 25 (.int .u64 rf)] w fun e w' => e = .returned (.iface 25 (.int .u64 rf)) ∧ Below w.heap.size w w' := by
  go_enter Try.func43, Try.ntmps43
  go_wp2_with fail
  go_ret
  exact ⟨rfl, Below.refl _ _⟩
set_option maxRecDepth 100000 in
set_option maxHeartbeats 400000 in
theorem cof_5 (s : ByteArray) (w : World) (hs : s.size ≤ 140737488355328) : Calls Try.prog 43 #[.iface 9 (.string s)] w fun e w' => e = .returned (.iface 9 (.string s)) ∧ Below w.heap.size w w' := by
  go_enter Try.func43, Try.ntmps43
  go_wp2_with (go_at_call 57; refine (sClone_any s _ hs).mono ?_; rintro e w1 ⟨rfl, hb1⟩)
  go_ret
  exact ⟨rfl, hb1⟩
set_option maxRecDepth 100000 in
set_option maxHeartbeats 400000 in
theorem cof_6 (ab : Option Addr) (L : ByteArray) (cb : Nat) (B : Nat → Prop) (w : World) (hB : Sub B w) (hl : BytesAt w B ab L) (hs : L.size ≤ 140737488355328) : Calls Try.prog 43 #[.iface 23 (.slice ab L.size cb)] w fun e w' => ∃ a cap, e = .returned (.iface 23 (.slice a L.size cap)) ∧ Below w.heap.size w w' ∧ BytesLV w' (Fr w w') a L cap := by
  have HC : Hid (Calls Try.prog 58 #[.slice ab L.size cb] w fun e w' => ∃ a cap, e = .returned (.slice a L.size cap) ∧ Below w.heap.size w w' ∧ BytesLV w' (Fr w w') a L cap) := bClone_any L ab cb B w hB hl hs
  clear hl
  go_enter Try.func43, Try.ntmps43
  go_wp2_with (go_at_call 58; refine HC.out.mono ?_; rintro e w1 ⟨a, cap, rfl, hb1, hl1⟩)
  go_ret
  exact ⟨_, _, rfl, hb1, hl1⟩
set_option maxRecDepth 100000 in
set_option maxHeartbeats 400000 in
theorem cof_9 (al : Option Addr) (L : TmF) (cl : Nat) (w : World) (h : Calls Try.prog 78 #[.slice al L.len cl] w fun e w' => ∃ a cap, e = .returned (.slice a L.len cap) ∧ Below w.heap.size w w' ∧ L.LV w' (Fr w w') a cap) :
    Calls Try.prog 43 #[.iface 62 (.slice al L.len cl)] w fun e w' => ∃ a cap, e = .returned (.iface 62 (.slice a L.len cap)) ∧ Below w.heap.size w w' ∧ L.LV w' (Fr w w') a cap := by
  have HC : Hid (Calls Try.prog 78 #[.slice al L.len cl] w fun e w' => ∃ a cap, e = .returned (.slice a L.len cap) ∧ Below w.heap.size w w' ∧ L.LV w' (Fr w w') a cap) := h
  clear h
  go_enter Try.func43, Try.ntmps43
  go_wp2_with (go_at_call 78; refine HC.out.mono ?_; rintro e w1 ⟨a, cap, rfl, hb1, hl1⟩)
  go_ret
  exact ⟨_, _, rfl, hb1, hl1⟩
set_option maxRecDepth 100000 in
set_option maxHeartbeats 1000000 in
theorem cof_10 (g : Nat) (s : ByteArray) (vr : Int) (al : Option Addr) (L : TmF) (cl : Nat) (w : World) (hg : g < w.heap.size) (c0 : w.cell? ⟨g, 0, none⟩ = some (.string s)) (c1 : w.cell? ⟨g, 1, none⟩ = some (.int .i64 vr)) (c2 : w.cell? ⟨g, 2, none⟩ = some (.slice al L.len cl)) (hs : s.size ≤ 140737488355328)
    (h : ∀ W, Below w.heap.size w W → Calls Try.prog 78 #[.slice al L.len cl] W fun e w' => ∃ a cap, e = .returned (.slice a L.len cap) ∧ Below W.heap.size W w' ∧ L.LV w' (Fr W w') a cap) :
    Calls Try.prog 43 #[.iface 55 (.pointer (some ⟨g, 0, none⟩))] w fun e w' => ∃ g' a cap, e = .returned (.iface 55 (.pointer (some ⟨g', 0, none⟩))) ∧ Below w.heap.size w w' ∧ Fr w w' g' ∧ w'.cell? ⟨g', 0, none⟩ = some (.string s) ∧ w'.cell? ⟨g', 1, none⟩ = some (.int .i64 vr) ∧ w'.cell? ⟨g', 2, none⟩ = some (.slice a L.len cap) ∧ L.RV w' (Fr w w') g' a cap := by
  have HD : Hid _ := h
  have HX : Hid (∀ W, Below w.heap.size w W → W.cell? ⟨g, 0, none⟩ = some (.string s) ∧ W.cell? ⟨g, 1, none⟩ = some (.int .i64 vr) ∧ W.cell? ⟨g, 2, none⟩ = some (.slice al L.len cl)) := fun W hW => ⟨by rw [hW.cell (p := ⟨g, 0, none⟩) hg]; exact c0, by rw [hW.cell (p := ⟨g, 1, none⟩) hg]; exact c1, by rw [hW.cell (p := ⟨g, 2, none⟩) hg]; exact c2⟩
  go_enter Try.func43, Try.ntmps43
  go_wp2_with fail
  clear h
  go_region_held3 (fun W => W.cell? ⟨g, 0, none⟩ = some (.string s) ∧ W.cell? ⟨g, 1, none⟩ = some (.int .i64 vr) ∧ W.cell? ⟨g, 2, none⟩ = some (.slice al L.len cl))
    (first | with_reducible exact HX.out _ HB2.out | with_reducible exact HX.out _ (HB2.out.alloc HB2.out.size _) | with_reducible exact HX.out _ HB1.out | with_reducible exact HX.out _ (Below.refl _ _) | with_reducible exact HX.out _ (Below.refl _ _).drew)
    ((first
      | (go_at_call 57; refine (sClone_any s _ hs).mono ?_; rintro e w1 ⟨rfl, hb1⟩; have HB1 : Hid (Below w.heap.size w w1) := below_to (Below.refl _ _).drew hb1; clear hb1)
      | (go_at_call 78; refine (HD.out _ ?_).mono ?_; exact HB1.out; rintro e w2 ⟨a, cap, rfl, hb2, hv⟩; have HB2 : Hid (Below w.heap.size w w2) := below_to HB1.out hb2; have HV : Hid (L.LV w2 (Fr w w2) a cap) := L.LV_same (Same.refl _ _) (fun k hk => ⟨Nat.le_trans HB1.out.size hk.1, hk.2⟩) a cap hv; clear hb2 hv)))
  go_wp2_with fail
  go_ret
  have hz := HB2.out.size
  refine ⟨w2.heap.size, a, cap, rfl, HB2.out.alloc (by omega) _, ⟨by omega, by simp⟩, by simp, by simp, by simp, ⟨_, heap_alloc_new _ _⟩, L.LV_same (B' := Fr w (w2.alloc _)) (fun k hk => Below.heap_alloc _ _ _ hk.2) (fun k hk => ⟨hk.1, by have := hk.2; simp; omega⟩) a cap HV.out⟩

set_option maxHeartbeats 1000000 in
theorem copyOf_any (N : Nat) : CopC N := by
  induction N with
  | zero => intro t ht; cases t; simp [Tm.sz] at ht
  | succ N ih =>
    intro t hN v B w hv hB ho
    cases t with
    | mk k b i f tx by' rf l fs c vr =>
      have hlN : l.sz ≤ N ∧ fs.sz ≤ N := by simp [Tm.sz] at hN; omega
      obtain ⟨p1, p2, p3, p4⟩ := ho.parts
      obtain ⟨q1, q2, q3, q4, q5⟩ := ho.bounds
      simp only [Tm.V] at hv
      obtain ⟨h1, h2, h3, h4, h5, h6, h7, h8, h9, h10, h11, h12⟩ := hv
      have HF : ∀ (hk : k = 9 ∨ k = 10) (al : Option Addr) (cl : Nat), fs.V w B al 0 → ∀ W, Below w.heap.size w W → Calls Try.prog 78 #[.slice al fs.len cl] W fun e w' => ∃ a cap, e = .returned (.slice a fs.len cap) ∧ Below W.heap.size W w' ∧ fs.LV w' (Fr W w') a cap := fun hk al cl hfs W hW =>
        copyDict_any N ih al fs cl W hlN.2 B (hB.later hW) (fs.V_same (hB.same hW) (fun _ h => h) al 0 hfs) (TmF.nm (q4 hk)).1 (TmF.nm (q4 hk)).2 (p4 hk)
      by_cases k1 : k = 1
      · subst k1; rw [h1 rfl]; refine (cof_1 w).mono ?_
        rintro e w' ⟨rfl, hb⟩; exact ⟨_, rfl, hb, by simp [Tm.V]⟩
      by_cases k2 : k = 2
      · subst k2; rw [h2 rfl]; refine (cof_2 b w).mono ?_
        rintro e w' ⟨rfl, hb⟩; exact ⟨_, rfl, hb, by simp [Tm.V]⟩
      by_cases k3 : k = 3
      · subst k3; rw [h3 rfl]; refine (cof_3 i w).mono ?_
        rintro e w' ⟨rfl, hb⟩; exact ⟨_, rfl, hb, by simp [Tm.V]⟩
      by_cases k4 : k = 4
      · subst k4; rw [(h4 rfl).1]; refine (cof_4 f w).mono ?_
        have hf := (h4 rfl).2
        rintro e w' ⟨rfl, hb⟩; exact ⟨_, rfl, hb, by simp [Tm.V, hf]⟩
      by_cases k5 : k = 5
      · subst k5; rw [(h5 rfl).1]; refine (cof_5 tx w (by have := q1 rfl; omega)).mono ?_
        have hf := (h5 rfl).2
        rintro e w' ⟨rfl, hb⟩; exact ⟨_, rfl, hb, by simp [Tm.V, hf]⟩
      by_cases k6 : k = 6
      · subst k6
        obtain ⟨a, cap, rfl, -, hby⟩ := h6 rfl
        refine (cof_6 a by' cap B w hB hby (by have := q2 rfl; omega)).mono ?_
        rintro e w' ⟨a', cap', rfl, hb, hv⟩; exact ⟨_, rfl, hb, Tm.V_of6 hv⟩
      by_cases k7 : k = 7
      · subst k7; rw [h7 rfl]; refine (cof_7 rf w).mono ?_
        rintro e w' ⟨rfl, hb⟩; exact ⟨_, rfl, hb, by simp [Tm.V]⟩
      by_cases k8 : k = 8
      · subst k8
        obtain ⟨a, cap, rfl, ⟨hm, -⟩, hl⟩ := h8 rfl
        refine (cof_8 N ih a l cap w hlN.1 B hB hl (q3 rfl) (p3 rfl)).mono ?_
        rintro e w' ⟨a', cap', rfl, hb, hv⟩; exact ⟨_, rfl, hb, Tm.V_of8 hv⟩
      by_cases k9 : k = 9
      · subst k9
        obtain ⟨a, cap, rfl, ⟨hm, -⟩, hl⟩ := h9 rfl
        refine (cof_9 a fs cap w (HF (.inl rfl) a cap hl w (Below.refl _ _))).mono ?_
        rintro e w' ⟨a', cap', rfl, hb, hv⟩; exact ⟨_, rfl, hb, Tm.V_of9 hv⟩
      have k10 : k = 10 := by clear h1 h2 h3 h4 h5 h6 h7 h8 h9 h10 h11 h12 HF; omega
      subst k10
      obtain ⟨g, a, cap, rfl, hg, c0, c1, c2, ⟨hcl, -⟩, ⟨hm, -⟩, hl⟩ := h10 rfl
      have hcs := head_len (q5 rfl)
      refine (cof_10 g c vr a fs cap w (hB g hg) c0 c1 c2 (by omega) (HF (.inr rfl) a cap hl)).mono ?_
      rintro e w' ⟨g', a', cap', rfl, hb, hg', d0, d1, d2, hv⟩
      exact ⟨_, rfl, hb, Tm.V_of10 hg' d0 d1 d2 hcl hv⟩

set_option maxRecDepth 100000 in
set_option maxHeartbeats 400000 in
theorem Copy_err (t : Tm) (v : Value) (B : Nat) (w : World) (hB : B ≤ w.heap.size) (h : t.V w (Lo B) v) (he : t.all.e ≠ 0) :
    Calls Try.prog 27 #[v] w fun e w' => e = .returned (.tuple #[.nilIface, .int .i64 t.all.e]) ∧ Below w.heap.size w w' := by
  have he' := ne_bool he
  have HC : Hid (Calls Try.prog 10 #[v] w fun e w' => e = .returned (.tuple #[.int .i64 t.cAt, .int .i64 t.all.e]) ∧ Below w.heap.size w w') := Check_any t v B w hB h
  clear he h
  go_enter Try.func27, Try.ntmps27
  go_wp2_with (go_at_call 10; refine HC.out.mono ?_; rintro e w1 ⟨rfl, hb1⟩)
  go_ret2
  exact ⟨rfl, hb1⟩
set_option maxRecDepth 100000 in
set_option maxHeartbeats 400000 in
theorem Copy_ok (t : Tm) (v : Value) (B : Nat) (w : World) (hB : B ≤ w.heap.size) (h : t.V w (Lo B) v) (he : t.all.e = 0) :
    Calls Try.prog 27 #[v] w fun e w' => ∃ v', e = .returned (.tuple #[v', .int .i64 0]) ∧ Below w.heap.size w w' ∧ t.V w' (Fr w w') v' := by
  have HC : Hid (Calls Try.prog 10 #[v] w fun e w' => e = .returned (.tuple #[.int .i64 t.cAt, .int .i64 0]) ∧ Below w.heap.size w w') := by
    have := Check_any t v B w hB h; rw [he] at this; exact this
  have HV : Hid (∀ W, Below w.heap.size w W → Calls Try.prog 43 #[v] W fun e w' => ∃ v', e = .returned v' ∧ Below W.heap.size W w' ∧ t.V w' (Fr W w') v') := fun W hW =>
    copyOf_any t.sz t (Nat.le_refl _) v (Lo B) W (t.V_same (Same.of_below hW hB) (fun _ h => h) v h) (Sub.lo (Nat.le_trans hB hW.size)) (Tm.ok_all he)
  clear he h
  go_enter Try.func27, Try.ntmps27
  go_wp2_with (first
    | (go_at_call 10; refine HC.out.mono ?_; rintro e w1 ⟨rfl, hb1⟩; have HB1 : Hid _ := hb1; clear hb1)
    | (go_at_call 43; refine (HV.out _ HB1.out).mono ?_; rintro e w2 ⟨v', rfl, hb2, hv2⟩; have HB2 : Hid _ := hb2; have HV2 : Hid _ := hv2; clear hb2 hv2))
  go_ret2
  exact ⟨v', rfl, below_to HB1.out HB2.out, t.V_same (Same.refl _ _) (fun k hk => ⟨Nat.le_trans HB1.out.size hk.1, hk.2⟩) v' HV2.out⟩
end Go.Proofs.Ytbaadndogikphaa
