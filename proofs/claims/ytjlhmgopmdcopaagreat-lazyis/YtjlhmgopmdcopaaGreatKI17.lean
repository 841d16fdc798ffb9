/- value.copyDict. -/
import Derived.Test.YtjlhmgopmdcopaaGreatKI15
import Derived.Test.YtjlhmgopmdcopaaGreatKI16
namespace Go.Proofs.YtjlhmgopmdcopaaGreat
open Go.RowKit

set_option maxRecDepth 100000 in
set_option maxHeartbeats 2000000 in
theorem copyDict_any (N : Nat) (HC : CopC N) (al : Option Addr) (L : TmF) (cl : Nat) (w : World) (hN : L.sz ≤ N) (B : Nat → Prop) (hB : Sub B w) (hL : L.V w B al 0) (hlen : L.len ≤ 4096) (hnm : L.Nm) (ho : L.Ok) :
    Calls Tryz.prog 105 #[.slice al L.len cl] w fun e w' => ∃ a cap, e = .returned (.slice a L.len cap) ∧ Below w.heap.size w w' ∧ L.LV w' (Fr w w') a cap := by
  obtain ⟨i0, hi, hz0, hz1, hz2⟩ := info_parts Tryz.infoFd
  have HCH : Hid (CopC N) := HC
  clear HC
  obtain ⟨M, hM⟩ : ∃ M, M = madeCells (Value.agg #[.string ByteArray.empty, .nilIface]).cells (((L.len : Nat) : Int).toNat * i0.size) := ⟨_, rfl⟩
  have hMs : M.size = L.len * 2 := by rw [hM, size_madeCells, hz1]; simp
  have hmake : ∀ W : World, (Instr.makeSlice 57 (.int .i64 (L.len : Int)) (.int .i64 (L.len : Int))).run Tryz.prog W = .ok (.slice (some ⟨W.heap.size, 0, none⟩) L.len L.len) (W.alloc (.cells M 55)) := fun W => by
    have h := run_make (P := Tryz.prog) W 57 55 i0 _ Tryz.undD hi hz0 .i64 .i64 (L.len : Int) (L.len : Int) (by omega) (by omega) (by rw [hz2]; omega) (by omega)
    rw [← hM] at h; simpa using h
  clear hM hi hz0 hz1 hz2
  have H0 : Hid (RW 55 w (w.alloc (.cells M 55)) w.heap.size (L.len * 2) [] ∧ FPre (w.alloc (.cells M 55)) (Own w.heap.size (w.alloc (.cells M 55)) w.heap.size) L [] L ∧ L.V w B al 0 ∧ L.Ok ∧ L.Nm) := by
    have h := RW.made (w := w) (w0 := w) (Below.refl _ _) M 55
    rw [hMs] at h
    exact ⟨h, (FPre_nil _ _).2 rfl, hL, ho, hnm⟩
  clear hL ho hnm
  go_enter Tryz.func105, Tryz.ntmps105
  go_wp2_with fail
  go_loopw [11] (fun x wr => ∃ (k : Nat) (l : TmF) (xs : List Value), x = .int .i64 k ∧ l.len + k = L.len ∧ l.sz ≤ N ∧ xs.length = k * 2 ∧ Hid (RW 55 w wr w.heap.size (L.len * 2) xs ∧ FPre wr (Own w.heap.size wr w.heap.size) L xs l ∧ l.V w B al k ∧ l.Ok ∧ l.Nm)) (fun x _ => L.len - (intOf x).toNat)
  case atStart => exact ⟨0, L, [], rfl, rfl, hN, rfl, H0.out⟩
  case round =>
    obtain ⟨k, l, xs, rfl, hl, hlN, hxs, HR⟩ := hrel
    cases l with
    | nil =>
      have h1 : L.len ≤ k := by simp [TmF.len] at hl; omega
      clear hl
      go_wp2_with fail
      go_ret
      exact ⟨_, _, rfl, HR.out.1.bel, HR.out.2.1.fin HR.out.1 (by unfold maxLen; omega)⟩
    | cons n t l =>
      obtain ⟨hrw, hpre, hsrc, hok, hnm⟩ := HR.out
      simp only [TmF.V] at hsrc
      obtain ⟨g1, o1, v1, rfl, hg1, hnc, hvc, _, ht, hl'⟩ := hsrc
      have hk1 : k < L.len := by simp only [TmF.len] at hl; omega
      have HL : Hid (l.len + (k + 1) = L.len) := by show _ = _; simp only [TmF.len] at hl; omega
      have htN : t.sz ≤ N ∧ l.sz ≤ N := by simp [TmF.sz] at hlN; omega
      have hs : Same B w wr := hB.same hrw.bel
      have HO := HCH.out.at htN.1 (t.V_same hs (fun _ h => h) v1 ht) (hB.later hrw.bel) hok.head.1
      have HO : Hid _ := HO
      have en : wr.cell? ⟨g1, o1 + k * 2, none⟩ = some (.string n) := by rw [hs.cell (p := ⟨g1, o1 + k * 2, none⟩) hg1]; exact hnc
      have ev : wr.cell? ⟨g1, o1 + k * 2 + 1, none⟩ = some v1 := by rw [hs.cell (p := ⟨g1, o1 + k * 2 + 1, none⟩) hg1]; exact hvc
      have HN : Hid (l.V w B (some ⟨g1, o1, none⟩) (k + 1) ∧ l.Ok ∧ l.Nm) := ⟨hl', hok.head.2, hnm.head.2⟩
      have hn32 : n.size ≤ 140737488355328 := by have := hnm.head.1; omega
      clear hl hlN hl' hok hs hrw hpre hnc hvc hnm
      have HS : Hid (∀ w1, Below wr.heap.size wr w1 → ((∃ u, w1.cell? ⟨w.heap.size, k * 2, none⟩ = some u) ∧ w1.frozen? ⟨w.heap.size, k * 2, none⟩ = false) ∧ (∃ u, w1.cell? ⟨w.heap.size, k * 2 + 1, none⟩ = some u) ∧ w1.frozen? ⟨w.heap.size, k * 2 + 1, none⟩ = false) := fun w1 h => ⟨(HR.out.1.call h).own (k * 2) (by omega), (HR.out.1.call h).own (k * 2 + 1) (by omega)⟩
      have hi0 : (0 : Int) ≤ (k : Int) := Int.natCast_nonneg _
      have hi1 : (k : Int) < (L.len : Int) := by omega
      have HX : Hid (∀ W, Below (wr.alloc (.cells #[.string n, v1] 55)).heap.size (wr.alloc (.cells #[.string n, v1] 55)) W → (W.cell? ⟨wr.heap.size, 0, none⟩ = some (.string n) ∧ W.cell? ⟨wr.heap.size, 1, none⟩ = some v1) ∧ Below wr.heap.size wr W) := fun W h => by
        have hh := fun j => cell_of_row W wr.heap.size j _ _ _ (show W.heap[wr.heap.size]? = some (.cells #[.string n, v1] 55 (0, 0)) by rw [h.block wr.heap.size (by simp)]; exact heap_alloc_new wr _)
        exact ⟨⟨hh 0, hh 1⟩, ((Below.refl _ _).alloc (Nat.le_refl _) _).trans (h.mono (by simp))⟩
      have hfar : wr.heap.size ≠ w.heap.size := by have := HR.out.1.lt.2; omega
      have hsh0 := t.V_shape v1 ht
      have HNew : Hid (∀ w2 v, Below wr.heap.size wr w2 → t.V w2 (Fr wr w2) v → RW 55 w (setN w2 w.heap.size (k * 2) [.string n, v]) w.heap.size (L.len * 2) (xs ++ [.string n, v]) ∧ FPre (setN w2 w.heap.size (k * 2) [.string n, v]) (Own w.heap.size (setN w2 w.heap.size (k * 2) [.string n, v]) w.heap.size) L (xs ++ [.string n, v]) l) := fun w2 v hb hv => by
        have h1 := (HR.out.1.call hb).set [.string n, v] (by simp; omega)
        rw [hxs] at h1
        exact ⟨h1, FPre.step (o := k * 2) HR.out.2.1 (by unfold maxLen; omega) hb hv HR.out.1.lt _⟩
      clear ht
      by_cases hkd : t.kind = 1
      · rcases hsh0 with rfl | ⟨T, x, rfl⟩
        · go_wp2_with fail
          go_region_held3 (fun W => W.cell? ⟨wr.heap.size, 0, none⟩ = some (.string n) ∧ W.cell? ⟨wr.heap.size, 1, none⟩ = some .nilIface)
            (first | (refine ⟨?_, ?_⟩ <;> ((repeat rw [cell_far hfar]); first | with_reducible exact (HX.out w2 HB2.out).1.1 | with_reducible exact (HX.out w2 HB2.out).1.2)) | with_reducible exact (HX.out w1 HB1.out).1 | with_reducible exact (HX.out _ (Below.refl _ _)).1 | with_reducible exact (HX.out _ (Below.refl _ _).drew).1)
            ((first
              | (go_at_call 94; refine (sClone_any n _ hn32).mono ?_; rintro e w1 ⟨rfl, hb1⟩; have HB1 : Hid (Below (wr.alloc (.cells #[.string n, .nilIface] 55)).heap.size (wr.alloc (.cells #[.string n, .nilIface] 55)) w1) := below_to (Below.refl _ _).drew hb1; clear hb1)
              | (go_at_call 91; refine (HO.out _ ?_).mono ?_; exact (HX.out _ HB1.out).2; rintro e w2 ⟨v, rfl, hb2, hv, hsh⟩; have HV : Hid (t.V w2 (Fr wr w2) v) := t.V_same (Same.refl _ _) (fun k hk => ⟨Nat.le_trans (HX.out _ HB1.out).2.size hk.1, hk.2⟩) v hv; obtain rfl := Tm.V_nil hkd hv; have HB2 : Hid (Below (wr.alloc (.cells #[.string n, .nilIface] 55)).heap.size (wr.alloc (.cells #[.string n, .nilIface] 55)) w2) := below_to HB1.out hb2; obtain ⟨⟨⟨u0, hu0⟩, hf0⟩, ⟨u1, hu1⟩, hf1⟩ := HS.out w2 (HX.out _ HB2.out).2)))
          have HNw := HNew.out w2 _ (HX.out _ HB2.out).2 HV.out
          go_wp2_with fail
          go_roundw
          case rel => exact ⟨k + 1, l, _, by go_num, HL.out, htN.2, by simp [hxs]; omega, HNw.1, HNw.2, HN.out.1, HN.out.2.1, HN.out.2.2⟩
          case measure => simp [intOf]; omega
        · go_wp2_with fail
          go_region_held3 (fun W => W.cell? ⟨wr.heap.size, 0, none⟩ = some (.string n) ∧ W.cell? ⟨wr.heap.size, 1, none⟩ = some (.iface T x))
            (first | (refine ⟨?_, ?_⟩ <;> ((repeat rw [cell_far hfar]); first | with_reducible exact (HX.out w2 HB2.out).1.1 | with_reducible exact (HX.out w2 HB2.out).1.2)) | with_reducible exact (HX.out w1 HB1.out).1 | with_reducible exact (HX.out _ (Below.refl _ _)).1 | with_reducible exact (HX.out _ (Below.refl _ _).drew).1)
            ((first
              | (go_at_call 94; refine (sClone_any n _ hn32).mono ?_; rintro e w1 ⟨rfl, hb1⟩; have HB1 : Hid (Below (wr.alloc (.cells #[.string n, (.iface T x)] 55)).heap.size (wr.alloc (.cells #[.string n, (.iface T x)] 55)) w1) := below_to (Below.refl _ _).drew hb1; clear hb1)
              | (go_at_call 91; refine (HO.out _ ?_).mono ?_; exact (HX.out _ HB1.out).2; rintro e w2 ⟨v, rfl, hb2, hv, hsh⟩; have HV : Hid (t.V w2 (Fr wr w2) v) := t.V_same (Same.refl _ _) (fun k hk => ⟨Nat.le_trans (HX.out _ HB1.out).2.size hk.1, hk.2⟩) v hv; obtain rfl := Tm.V_nil hkd hv; have HB2 : Hid (Below (wr.alloc (.cells #[.string n, (.iface T x)] 55)).heap.size (wr.alloc (.cells #[.string n, (.iface T x)] 55)) w2) := below_to HB1.out hb2; obtain ⟨⟨⟨u0, hu0⟩, hf0⟩, ⟨u1, hu1⟩, hf1⟩ := HS.out w2 (HX.out _ HB2.out).2)))
          have HNw := HNew.out w2 _ (HX.out _ HB2.out).2 HV.out
          go_wp2_with fail
          go_roundw
          case rel => exact ⟨k + 1, l, _, by go_num, HL.out, htN.2, by simp [hxs]; omega, HNw.1, HNw.2, HN.out.1, HN.out.2.1, HN.out.2.2⟩
          case measure => simp [intOf]; omega
      · rcases hsh0 with rfl | ⟨T, x, rfl⟩
        · go_wp2_with fail
          go_region_held3 (fun W => W.cell? ⟨wr.heap.size, 0, none⟩ = some (.string n) ∧ W.cell? ⟨wr.heap.size, 1, none⟩ = some .nilIface)
            (first | (refine ⟨?_, ?_⟩ <;> ((repeat rw [cell_far hfar]); first | with_reducible exact (HX.out w2 HB2.out).1.1 | with_reducible exact (HX.out w2 HB2.out).1.2)) | with_reducible exact (HX.out w1 HB1.out).1 | with_reducible exact (HX.out _ (Below.refl _ _)).1 | with_reducible exact (HX.out _ (Below.refl _ _).drew).1)
            ((first
              | (go_at_call 94; refine (sClone_any n _ hn32).mono ?_; rintro e w1 ⟨rfl, hb1⟩; have HB1 : Hid (Below (wr.alloc (.cells #[.string n, .nilIface] 55)).heap.size (wr.alloc (.cells #[.string n, .nilIface] 55)) w1) := below_to (Below.refl _ _).drew hb1; clear hb1)
              | (go_at_call 91; refine (HO.out _ ?_).mono ?_; exact (HX.out _ HB1.out).2; rintro e w2 ⟨v, rfl, hb2, hv, hsh⟩; have HV : Hid (t.V w2 (Fr wr w2) v) := t.V_same (Same.refl _ _) (fun k hk => ⟨Nat.le_trans (HX.out _ HB1.out).2.size hk.1, hk.2⟩) v hv; obtain ⟨T2, x2, rfl⟩ := Tm.V_iface hkd hv; have HB2 : Hid (Below (wr.alloc (.cells #[.string n, .nilIface] 55)).heap.size (wr.alloc (.cells #[.string n, .nilIface] 55)) w2) := below_to HB1.out hb2; obtain ⟨⟨⟨u0, hu0⟩, hf0⟩, ⟨u1, hu1⟩, hf1⟩ := HS.out w2 (HX.out _ HB2.out).2)))
          have HNw := HNew.out w2 _ (HX.out _ HB2.out).2 HV.out
          go_wp2_with fail
          go_roundw
          case rel => exact ⟨k + 1, l, _, by go_num, HL.out, htN.2, by simp [hxs]; omega, HNw.1, HNw.2, HN.out.1, HN.out.2.1, HN.out.2.2⟩
          case measure => simp [intOf]; omega
        · go_wp2_with fail
          go_region_held3 (fun W => W.cell? ⟨wr.heap.size, 0, none⟩ = some (.string n) ∧ W.cell? ⟨wr.heap.size, 1, none⟩ = some (.iface T x))
            (first | (refine ⟨?_, ?_⟩ <;> ((repeat rw [cell_far hfar]); first | with_reducible exact (HX.out w2 HB2.out).1.1 | with_reducible exact (HX.out w2 HB2.out).1.2)) | with_reducible exact (HX.out w1 HB1.out).1 | with_reducible exact (HX.out _ (Below.refl _ _)).1 | with_reducible exact (HX.out _ (Below.refl _ _).drew).1)
            ((first
              | (go_at_call 94; refine (sClone_any n _ hn32).mono ?_; rintro e w1 ⟨rfl, hb1⟩; have HB1 : Hid (Below (wr.alloc (.cells #[.string n, (.iface T x)] 55)).heap.size (wr.alloc (.cells #[.string n, (.iface T x)] 55)) w1) := below_to (Below.refl _ _).drew hb1; clear hb1)
              | (go_at_call 91; refine (HO.out _ ?_).mono ?_; exact (HX.out _ HB1.out).2; rintro e w2 ⟨v, rfl, hb2, hv, hsh⟩; have HV : Hid (t.V w2 (Fr wr w2) v) := t.V_same (Same.refl _ _) (fun k hk => ⟨Nat.le_trans (HX.out _ HB1.out).2.size hk.1, hk.2⟩) v hv; obtain ⟨T2, x2, rfl⟩ := Tm.V_iface hkd hv; have HB2 : Hid (Below (wr.alloc (.cells #[.string n, (.iface T x)] 55)).heap.size (wr.alloc (.cells #[.string n, (.iface T x)] 55)) w2) := below_to HB1.out hb2; obtain ⟨⟨⟨u0, hu0⟩, hf0⟩, ⟨u1, hu1⟩, hf1⟩ := HS.out w2 (HX.out _ HB2.out).2)))
          have HNw := HNew.out w2 _ (HX.out _ HB2.out).2 HV.out
          go_wp2_with fail
          go_roundw
          case rel => exact ⟨k + 1, l, _, by go_num, HL.out, htN.2, by simp [hxs]; omega, HNw.1, HNw.2, HN.out.1, HN.out.2.1, HN.out.2.2⟩
          case measure => simp [intOf]; omega
end Go.Proofs.YtjlhmgopmdcopaaGreat

