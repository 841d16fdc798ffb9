/- value.entriesOf: the entries of a dict that can be, in new memory. -/
import Derived.Test.YtkomcebknllaiaaK29
namespace Go.Proofs.Ytkomcebknllaiaa
open Go.RowKit

theorem cell_far {w : World} {g o : Nat} {p : Addr} (h : p.block ≠ g) (v : Value) : (w.setCell ⟨g, o, none⟩ v).cell? p = w.cell? p := World.cell?_setCell_other _ _ _ _ (by intro e; exact h (by rw [← e]))

theorem RW.twelve {w wr : World} {g n : Nat} {xs : List Value} (h : RW 84 w wr g n xs) (o : Nat) (ho : o + 12 ≤ n) :
    ((∃ u, wr.cell? ⟨g, o, none⟩ = some u) ∧ wr.frozen? ⟨g, o, none⟩ = false) ∧ ((∃ u, wr.cell? ⟨g, o + 1, none⟩ = some u) ∧ wr.frozen? ⟨g, o + 1, none⟩ = false) ∧ ((∃ u, wr.cell? ⟨g, o + 2, none⟩ = some u) ∧ wr.frozen? ⟨g, o + 2, none⟩ = false) ∧ ((∃ u, wr.cell? ⟨g, o + 3, none⟩ = some u) ∧ wr.frozen? ⟨g, o + 3, none⟩ = false) ∧ ((∃ u, wr.cell? ⟨g, o + 4, none⟩ = some u) ∧ wr.frozen? ⟨g, o + 4, none⟩ = false) ∧ ((∃ u, wr.cell? ⟨g, o + 5, none⟩ = some u) ∧ wr.frozen? ⟨g, o + 5, none⟩ = false) ∧ ((∃ u, wr.cell? ⟨g, o + 6, none⟩ = some u) ∧ wr.frozen? ⟨g, o + 6, none⟩ = false) ∧ ((∃ u, wr.cell? ⟨g, o + 7, none⟩ = some u) ∧ wr.frozen? ⟨g, o + 7, none⟩ = false) ∧ ((∃ u, wr.cell? ⟨g, o + 8, none⟩ = some u) ∧ wr.frozen? ⟨g, o + 8, none⟩ = false) ∧ ((∃ u, wr.cell? ⟨g, o + 9, none⟩ = some u) ∧ wr.frozen? ⟨g, o + 9, none⟩ = false) ∧ ((∃ u, wr.cell? ⟨g, o + 10, none⟩ = some u) ∧ wr.frozen? ⟨g, o + 10, none⟩ = false) ∧ ((∃ u, wr.cell? ⟨g, o + 11, none⟩ = some u) ∧ wr.frozen? ⟨g, o + 11, none⟩ = false) :=
  ⟨h.own o (by omega), h.own (o + 1) (by omega), h.own (o + 2) (by omega), h.own (o + 3) (by omega), h.own (o + 4) (by omega), h.own (o + 5) (by omega), h.own (o + 6) (by omega), h.own (o + 7) (by omega), h.own (o + 8) (by omega), h.own (o + 9) (by omega), h.own (o + 10) (by omega), h.own (o + 11) (by omega)⟩
theorem Try.infoEn : (Try.prog.info? 84).map (fun i => (i.zero, i.size, i.bytes)) = some (some (.agg #[.string ByteArray.empty, .int .i64 0, .bool false, .int .i64 0, .float .f64 0, .string ByteArray.empty, .slice none 0 0, .int .u64 0, .slice none 0 0, .slice none 0 0, .string ByteArray.empty, .int .i64 0]), 12, 168) := by kernel_rfl
theorem Try.undEs : Try.prog.underlying 27 = some (.slice 84) := by kernel_rfl

set_option maxRecDepth 100000 in
set_option maxHeartbeats 4000000 in
theorem entriesOf_any (N : Nat) (HC : TOfC N) (al : Option Addr) (L : TmF) (cl : Nat) (w : World) (hN : L.sz ≤ N) (B : Nat → Prop) (hB : Sub B w) (hL : L.V w B al 0) (hlen : L.len ≤ 4096) (hnm : L.Nm) (ho : L.Ok) (hbd : L.Bdd) :
    Calls Try.prog 66 #[.slice al L.len cl] w fun e w' => ∃ a cap, e = .returned (.slice a L.len cap) ∧ Below w.heap.size w w' ∧ L.clean.In w' (FrS w w') a 0 := by
  obtain ⟨i0, hi, hz0, hz1, hz2⟩ := info_parts Try.infoEn
  have HCH : Hid (TOfC N) := HC
  clear HC
  obtain ⟨M, hM⟩ : ∃ M, M = madeCells (Value.agg #[.string ByteArray.empty, .int .i64 0, .bool false, .int .i64 0, .float .f64 0, .string ByteArray.empty, .slice none 0 0, .int .u64 0, .slice none 0 0, .slice none 0 0, .string ByteArray.empty, .int .i64 0]).cells (((L.len : Nat) : Int).toNat * i0.size) := ⟨_, rfl⟩
  have hMs : M.size = L.len * 12 := by rw [hM, size_madeCells, hz1]; simp
  have hmake : ∀ W : World, (Instr.makeSlice 27 (.int .i64 (L.len : Int)) (.int .i64 (L.len : Int))).run Try.prog W = .ok (.slice (some ⟨W.heap.size, 0, none⟩) L.len L.len) (W.alloc (.cells M 84)) := fun W => by
    have h := run_make (P := Try.prog) W 27 84 i0 _ Try.undEs hi hz0 .i64 .i64 (L.len : Int) (L.len : Int) (by omega) (by omega) (by rw [hz2]; omega) (by omega)
    rw [← hM] at h; simpa using h
  clear hM hi hz0 hz1 hz2
  have H0 : Hid (RW 84 w (w.alloc (.cells M 84)) w.heap.size (L.len * 12) (ecells []) ∧ EPre (w.alloc (.cells M 84)) (OwnS w.heap.size (w.alloc (.cells M 84)) w.heap.size) L.clean [] L.clean ∧ L.V w B al 0 ∧ L.Ok ∧ L.Nm ∧ L.Bdd) := by
    have h := RW.made (w := w) (w0 := w) (Below.refl _ _) M 84
    rw [hMs] at h
    exact ⟨h, (EPre_nil _ _).2 rfl, hL, ho, hnm, hbd⟩
  clear hL ho hnm hbd
  go_enter Try.func66, Try.ntmps66
  go_wp2_with fail
  go_loopw [11] (fun x wr => ∃ (k : Nat) (l : TmF) (xs : List (ByteArray × Array Value)), x = .int .i64 k ∧ l.len + k = L.len ∧ l.sz ≤ N ∧ (ecells xs).length = k * 12 ∧ Hid (RW 84 w wr w.heap.size (L.len * 12) (ecells xs) ∧ EPre wr (OwnS w.heap.size wr w.heap.size) L.clean xs l.clean ∧ l.V w B al k ∧ l.Ok ∧ l.Nm ∧ l.Bdd)) (fun x _ => L.len - (intOf x).toNat)
  case atStart => exact ⟨0, L, [], rfl, rfl, hN, rfl, H0.out⟩
  case round =>
    obtain ⟨k, l, xs, rfl, hl, hlN, hxs, HR⟩ := hrel
    clear H0
    cases l with
    | nil =>
      have h1 : L.len ≤ k := by simp [TmF.len] at hl; omega
      clear hl
      go_wp2_with fail
      go_ret
      exact ⟨_, _, rfl, HR.out.1.bel, HR.out.2.1.finS HR.out.1⟩
    | cons n t l =>
      obtain ⟨hrw, hpre, hsrc, hok, hnm, hbdd⟩ := HR.out
      simp only [TmF.V] at hsrc
      obtain ⟨g1, o1, v1, rfl, hg1, hnc, hvc, _, ht, hl'⟩ := hsrc
      have hk1 : k < L.len := by simp only [TmF.len] at hl; omega
      have HL : Hid (l.len + (k + 1) = L.len) := by show _ = _; simp only [TmF.len] at hl; omega
      have htN : t.sz ≤ N ∧ l.sz ≤ N := by simp [TmF.sz] at hlN; omega
      have hs : Same B w wr := hB.same hrw.bel
      have HO := HCH.out.at htN.1 (t.V_same hs (fun _ h => h) v1 ht) (hB.later hrw.bel) hok.head.1 hbdd.1
      have HO : Hid _ := HO
      have en : wr.cell? ⟨g1, o1 + k * 2, none⟩ = some (.string n) := by rw [hs.cell (p := ⟨g1, o1 + k * 2, none⟩) hg1]; exact hnc
      have ev : wr.cell? ⟨g1, o1 + k * 2 + 1, none⟩ = some v1 := by rw [hs.cell (p := ⟨g1, o1 + k * 2 + 1, none⟩) hg1]; exact hvc
      have HN : Hid (l.V w B (some ⟨g1, o1, none⟩) (k + 1) ∧ l.Ok ∧ l.Nm ∧ l.Bdd) := ⟨hl', hok.head.2, hnm.head.2, hbdd.2⟩
      have hn32 : n.size ≤ 140737488355328 := by have := hnm.head.1; omega
      have HS : Hid (∀ w1, Below wr.heap.size wr w1 → ((∃ u, w1.cell? ⟨w.heap.size, k * 12, none⟩ = some u) ∧ w1.frozen? ⟨w.heap.size, k * 12, none⟩ = false) ∧ ((∃ u, w1.cell? ⟨w.heap.size, k * 12 + 1, none⟩ = some u) ∧ w1.frozen? ⟨w.heap.size, k * 12 + 1, none⟩ = false) ∧ ((∃ u, w1.cell? ⟨w.heap.size, k * 12 + 2, none⟩ = some u) ∧ w1.frozen? ⟨w.heap.size, k * 12 + 2, none⟩ = false) ∧ ((∃ u, w1.cell? ⟨w.heap.size, k * 12 + 3, none⟩ = some u) ∧ w1.frozen? ⟨w.heap.size, k * 12 + 3, none⟩ = false) ∧ ((∃ u, w1.cell? ⟨w.heap.size, k * 12 + 4, none⟩ = some u) ∧ w1.frozen? ⟨w.heap.size, k * 12 + 4, none⟩ = false) ∧ ((∃ u, w1.cell? ⟨w.heap.size, k * 12 + 5, none⟩ = some u) ∧ w1.frozen? ⟨w.heap.size, k * 12 + 5, none⟩ = false) ∧ ((∃ u, w1.cell? ⟨w.heap.size, k * 12 + 6, none⟩ = some u) ∧ w1.frozen? ⟨w.heap.size, k * 12 + 6, none⟩ = false) ∧ ((∃ u, w1.cell? ⟨w.heap.size, k * 12 + 7, none⟩ = some u) ∧ w1.frozen? ⟨w.heap.size, k * 12 + 7, none⟩ = false) ∧ ((∃ u, w1.cell? ⟨w.heap.size, k * 12 + 8, none⟩ = some u) ∧ w1.frozen? ⟨w.heap.size, k * 12 + 8, none⟩ = false) ∧ ((∃ u, w1.cell? ⟨w.heap.size, k * 12 + 9, none⟩ = some u) ∧ w1.frozen? ⟨w.heap.size, k * 12 + 9, none⟩ = false) ∧ ((∃ u, w1.cell? ⟨w.heap.size, k * 12 + 10, none⟩ = some u) ∧ w1.frozen? ⟨w.heap.size, k * 12 + 10, none⟩ = false) ∧ ((∃ u, w1.cell? ⟨w.heap.size, k * 12 + 11, none⟩ = some u) ∧ w1.frozen? ⟨w.heap.size, k * 12 + 11, none⟩ = false)) := fun w1 h => (HR.out.1.call h).twelve (k * 12) (by omega)
      have hfar : wr.heap.size ≠ w.heap.size := by have := HR.out.1.lt.2; omega
      have HS2 : Hid (∀ W : World, W.heap[wr.heap.size]? = some (.cells #[.string n, v1] 112 (0, 0)) → W.cell? ⟨wr.heap.size, 0, none⟩ = some (.string n) ∧ W.cell? ⟨wr.heap.size, 1, none⟩ = some v1) := fun W h => by
        have hh := fun j => cell_of_row W wr.heap.size j _ _ _ h
        exact ⟨hh 0, hh 1⟩
      have HX : Hid (∀ W, Below (wr.alloc (.cells #[.string n, v1] 112)).heap.size (wr.alloc (.cells #[.string n, v1] 112)) W → (W.cell? ⟨wr.heap.size, 0, none⟩ = some (.string n) ∧ W.cell? ⟨wr.heap.size, 1, none⟩ = some v1) ∧ Below wr.heap.size wr W) := fun W h => ⟨HS2.out W (by rw [h.block wr.heap.size (by simp)]; exact heap_alloc_new wr _), ((Below.refl _ _).alloc (Nat.le_refl _) _).trans (h.mono (by simp))⟩
      have HNew : Hid (∀ w2 cs, Below wr.heap.size wr w2 → t.clean.In w2 (FrS wr w2) cs → cs.size = 11 → RW 84 w (setN w2 w.heap.size (k * 12) (.string n :: cs.toList)) w.heap.size (L.len * 12) (ecells (xs ++ [(n, cs)])) ∧ EPre (setN w2 w.heap.size (k * 12) (.string n :: cs.toList)) (OwnS w.heap.size (setN w2 w.heap.size (k * 12) (.string n :: cs.toList)) w.heap.size) L.clean (xs ++ [(n, cs)]) l.clean ∧ (ecells (xs ++ [(n, cs)])).length = (k + 1) * 12) := fun w2 cs hb hv hz => by
        have hz' : (Value.string n :: cs.toList).length = 12 := by rw [List.length_cons, Array.length_toList, hz]
        have h1 := (HR.out.1.call hb).set (.string n :: cs.toList) (by rw [hxs, hz']; omega)
        rw [hxs] at h1
        have e2 : ecells (xs ++ [(n, cs)]) = ecells xs ++ (.string n :: cs.toList) := by unfold ecells; rw [List.flatMap_append]; simp
        rw [e2]
        exact ⟨h1, EPre.stepS (o := k * 12) HR.out.2.1 hn32 hb hv hz ⟨Nat.le_refl _, HR.out.1.lt.2⟩ _, by rw [List.length_append, hxs, hz']; omega⟩
      have hi0 : (0 : Int) ≤ (k : Int) := Int.natCast_nonneg _
      have hi1 : (k : Int) < (L.len : Int) := by omega
      have hsh := t.V_shape v1 ht
      unfold tcells at HO
      clear hl hlN ht hl' hok hs hrw hpre hbdd hnc hvc hnm HS2
      rcases hsh with rfl | ⟨T, x, rfl⟩
      · go_wp2_with fail
        go_region_held3 (fun W => W.cell? ⟨wr.heap.size, 0, none⟩ = some (.string n) ∧ W.cell? ⟨wr.heap.size, 1, none⟩ = some .nilIface)
          (first | (refine ⟨?_, ?_⟩ <;> ((repeat rw [cell_far hfar]); first | with_reducible exact (HX.out w2 HB2.out).1.1 | with_reducible exact (HX.out w2 HB2.out).1.2)) | with_reducible exact (HX.out _ HB1.out).1 | with_reducible exact (HX.out _ (Below.refl _ _)).1 | with_reducible exact (HX.out _ (Below.refl _ _).drew).1)
          ((first
            | (go_at_call 61; refine (sClone_any n _ hn32).mono ?_; rintro e w1 ⟨rfl, hb1⟩; have HB1 : Hid (Below (wr.alloc (.cells #[.string n, .nilIface] 112)).heap.size (wr.alloc (.cells #[.string n, .nilIface] 112)) w1) := below_to (Below.refl _ _).drew hb1; clear hb1)
            | (go_at_call 39; refine (HO.out _ ?_).mono ?_; exact (HX.out _ HB1.out).2; rintro e w2 ⟨k1, b1, i1, f1, tx1, ab1, nb1, cb1, rf1, al1, nl1, cl1, af1, nf1, cf1, cc1, vr1, rfl, hb2, hv2⟩; have HB2 : Hid (Below (wr.alloc (.cells #[.string n, .nilIface] 112)).heap.size (wr.alloc (.cells #[.string n, .nilIface] 112)) w2) := below_to HB1.out hb2; have HV2 : Hid (t.clean.In w2 (FrS wr w2) #[.int .i64 k1, .bool b1, .int .i64 i1, .float .f64 f1, .string tx1, .slice ab1 nb1 cb1, .int .u64 rf1, .slice al1 nl1 cl1, .slice af1 nf1 cf1, .string cc1, .int .i64 vr1]) := t.clean.In_same (Same.refl _ _) (fun k hk => ⟨Nat.le_trans (HX.out _ HB1.out).2.size hk.1, hk.2⟩) _ hv2; obtain ⟨⟨⟨u0, hu0⟩, hf0⟩, ⟨⟨u1, hu1⟩, hf1⟩, ⟨⟨u2, hu2⟩, hf2⟩, ⟨⟨u3, hu3⟩, hf3⟩, ⟨⟨u4, hu4⟩, hf4⟩, ⟨⟨u5, hu5⟩, hf5⟩, ⟨⟨u6, hu6⟩, hf6⟩, ⟨⟨u7, hu7⟩, hf7⟩, ⟨⟨u8, hu8⟩, hf8⟩, ⟨⟨u9, hu9⟩, hf9⟩, ⟨⟨u10, hu10⟩, hf10⟩, ⟨⟨u11, hu11⟩, hf11⟩⟩ := HS.out w2 (HX.out _ HB2.out).2; clear hb2 hv2)))
        have HNw := HNew.out w2 #[.int .i64 k1, .bool b1, .int .i64 i1, .float .f64 f1, .string tx1, .slice ab1 nb1 cb1, .int .u64 rf1, .slice al1 nl1 cl1, .slice af1 nf1 cf1, .string cc1, .int .i64 vr1] (HX.out _ HB2.out).2 HV2.out rfl
        have HNw : Hid _ := HNw
        go_wp2_with fail
        go_roundw
        case rel => exact ⟨k + 1, l, _, by go_num, HL.out, htN.2, HNw.out.2.2, HNw.out.1, HNw.out.2.1, HN.out.1, HN.out.2.1, HN.out.2.2.1, HN.out.2.2.2⟩
        case measure => simp [intOf]; omega
      · go_wp2_with fail
        go_region_held3 (fun W => W.cell? ⟨wr.heap.size, 0, none⟩ = some (.string n) ∧ W.cell? ⟨wr.heap.size, 1, none⟩ = some (.iface T x))
          (first | (refine ⟨?_, ?_⟩ <;> ((repeat rw [cell_far hfar]); first | with_reducible exact (HX.out w2 HB2.out).1.1 | with_reducible exact (HX.out w2 HB2.out).1.2)) | with_reducible exact (HX.out _ HB1.out).1 | with_reducible exact (HX.out _ (Below.refl _ _)).1 | with_reducible exact (HX.out _ (Below.refl _ _).drew).1)
          ((first
            | (go_at_call 61; refine (sClone_any n _ hn32).mono ?_; rintro e w1 ⟨rfl, hb1⟩; have HB1 : Hid (Below (wr.alloc (.cells #[.string n, (.iface T x)] 112)).heap.size (wr.alloc (.cells #[.string n, (.iface T x)] 112)) w1) := below_to (Below.refl _ _).drew hb1; clear hb1)
            | (go_at_call 39; refine (HO.out _ ?_).mono ?_; exact (HX.out _ HB1.out).2; rintro e w2 ⟨k1, b1, i1, f1, tx1, ab1, nb1, cb1, rf1, al1, nl1, cl1, af1, nf1, cf1, cc1, vr1, rfl, hb2, hv2⟩; have HB2 : Hid (Below (wr.alloc (.cells #[.string n, (.iface T x)] 112)).heap.size (wr.alloc (.cells #[.string n, (.iface T x)] 112)) w2) := below_to HB1.out hb2; have HV2 : Hid (t.clean.In w2 (FrS wr w2) #[.int .i64 k1, .bool b1, .int .i64 i1, .float .f64 f1, .string tx1, .slice ab1 nb1 cb1, .int .u64 rf1, .slice al1 nl1 cl1, .slice af1 nf1 cf1, .string cc1, .int .i64 vr1]) := t.clean.In_same (Same.refl _ _) (fun k hk => ⟨Nat.le_trans (HX.out _ HB1.out).2.size hk.1, hk.2⟩) _ hv2; obtain ⟨⟨⟨u0, hu0⟩, hf0⟩, ⟨⟨u1, hu1⟩, hf1⟩, ⟨⟨u2, hu2⟩, hf2⟩, ⟨⟨u3, hu3⟩, hf3⟩, ⟨⟨u4, hu4⟩, hf4⟩, ⟨⟨u5, hu5⟩, hf5⟩, ⟨⟨u6, hu6⟩, hf6⟩, ⟨⟨u7, hu7⟩, hf7⟩, ⟨⟨u8, hu8⟩, hf8⟩, ⟨⟨u9, hu9⟩, hf9⟩, ⟨⟨u10, hu10⟩, hf10⟩, ⟨⟨u11, hu11⟩, hf11⟩⟩ := HS.out w2 (HX.out _ HB2.out).2; clear hb2 hv2)))
        have HNw := HNew.out w2 #[.int .i64 k1, .bool b1, .int .i64 i1, .float .f64 f1, .string tx1, .slice ab1 nb1 cb1, .int .u64 rf1, .slice al1 nl1 cl1, .slice af1 nf1 cf1, .string cc1, .int .i64 vr1] (HX.out _ HB2.out).2 HV2.out rfl
        have HNw : Hid _ := HNw
        go_wp2_with fail
        go_roundw
        case rel => exact ⟨k + 1, l, _, by go_num, HL.out, htN.2, HNw.out.2.2, HNw.out.1, HNw.out.2.1, HN.out.1, HN.out.2.1, HN.out.2.2.1, HN.out.2.2.2⟩
        case measure => simp [intOf]; omega
end Go.Proofs.Ytkomcebknllaiaa
