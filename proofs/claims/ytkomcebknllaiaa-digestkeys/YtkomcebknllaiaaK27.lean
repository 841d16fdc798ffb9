/- value.dictOf and value.valueOf, whole. -/
import Derived.Test.YtkomcebknllaiaaK15
import Derived.Test.YtkomcebknllaiaaK26
namespace Go.Proofs.Ytkomcebknllaiaa
open Go.RowKit

theorem Try.infoFd : (Try.prog.info? 112).map (fun i => (i.zero, i.size, i.bytes)) = some (some (.agg #[.string ByteArray.empty, .nilIface]), 2, 32) := by kernel_rfl

set_option maxRecDepth 100000 in
set_option maxHeartbeats 2000000 in
theorem dictOf_any (N : Nat) (HC : VOfC N) (al : Option Addr) (L : TmF) (cl : Nat) (w : World) (hN : L.sz ≤ N) (B : Nat → Prop) (hB : Sub B w) (hL : L.In w B al 0) (hlen : L.len ≤ 4096) (hnm : L.Nm) (ho : L.Ok) :
    Calls Try.prog 63 #[.slice al L.len cl] w fun e w' => ∃ a cap, e = .returned (.slice a L.len cap) ∧ Below w.heap.size w w' ∧ L.LV w' (Fr w w') a cap := by
  obtain ⟨i0, hi, hz0, hz1, hz2⟩ := info_parts Try.infoFd
  have HCH : Hid (VOfC N) := HC
  clear HC
  obtain ⟨M, hM⟩ : ∃ M, M = madeCells (Value.agg #[.string ByteArray.empty, .nilIface]).cells (((L.len : Nat) : Int).toNat * i0.size) := ⟨_, rfl⟩
  have hMs : M.size = L.len * 2 := by rw [hM, size_madeCells, hz1]; simp
  have hmake : ∀ W : World, (Instr.makeSlice 73 (.int .i64 (L.len : Int)) (.int .i64 (L.len : Int))).run Try.prog W = .ok (.slice (some ⟨W.heap.size, 0, none⟩) L.len L.len) (W.alloc (.cells M 112)) := fun W => by
    have h := run_make (P := Try.prog) W 73 112 i0 _ Try.undD hi hz0 .i64 .i64 (L.len : Int) (L.len : Int) (by omega) (by omega) (by rw [hz2]; omega) (by omega)
    rw [← hM] at h; simpa using h
  clear hM hi hz0 hz1 hz2
  have H0 : Hid (RW 112 w (w.alloc (.cells M 112)) w.heap.size (L.len * 2) [] ∧ FPre (w.alloc (.cells M 112)) (Own w.heap.size (w.alloc (.cells M 112)) w.heap.size) L [] L ∧ L.In w B al 0 ∧ L.Ok ∧ L.Nm) := by
    have h := RW.made (w := w) (w0 := w) (Below.refl _ _) M 112
    rw [hMs] at h
    exact ⟨h, (FPre_nil _ _).2 rfl, hL, ho, hnm⟩
  clear hL ho hnm
  go_enter Try.func63, Try.ntmps63
  go_wp2_with fail
  go_loopw [11] (fun x wr => ∃ (k : Nat) (l : TmF) (xs : List Value), x = .int .i64 k ∧ l.len + k = L.len ∧ l.sz ≤ N ∧ xs.length = k * 2 ∧ Hid (RW 112 w wr w.heap.size (L.len * 2) xs ∧ FPre wr (Own w.heap.size wr w.heap.size) L xs l ∧ l.In w B al k ∧ l.Ok ∧ l.Nm)) (fun x _ => L.len - (intOf x).toNat)
  case atStart => exact ⟨0, L, [], rfl, rfl, hN, rfl, H0.out⟩
  case round =>
    obtain ⟨k, l, xs, rfl, hl, hlN, hxs, HR⟩ := hrel
    cases l with
    | nil =>
      have h1 : L.len ≤ k := by simp [TmF.len] at hl; omega
      clear hl
      go_wp2_with fail
      go_ret
      exact ⟨_, _, rfl, HR.out.1.bel, HR.out.2.1.fin HR.out.1 (by unfold maxLen; omega)⟩
    | cons n t l =>
      obtain ⟨hrw, hpre, hsrc, hok, hnm⟩ := HR.out
      simp only [TmF.In] at hsrc
      obtain ⟨g1, o1, cs, rfl, hg1, hnc, _, hc, ht, hl'⟩ := hsrc
      have hk1 : k < L.len := by simp only [TmF.len] at hl; omega
      have HL : Hid (l.len + (k + 1) = L.len) := by show _ = _; simp only [TmF.len] at hl; omega
      have htN : t.sz ≤ N ∧ l.sz ≤ N := by simp [TmF.sz] at hlN; omega
      have hs : Same B w wr := hB.same hrw.bel
      have HO := HCH.out.at htN.1 (t.In_same hs (fun _ h => h) cs ht) (hB.later hrw.bel) hok.head.1
      have HO : Hid _ := HO
      obtain ⟨k1, b1, i1, f1, tx1, ab1, nb1, cb1, rf1, al1, nl1, cl1, af1, nf1, cf1, cc1, vr1, rfl⟩ := Tm.In_tc' ht
      obtain ⟨e0, e1, e2, e3, e4, e5, e6, e7, e8, e9, e10⟩ := eleven (w := wr) (g := g1) (o := o1 + k * 12 + 1) (fun x hx => by rw [hs.cell (p := ⟨g1, o1 + k * 12 + 1 + x, none⟩) hg1]; exact hc x hx)
      have en : wr.cell? ⟨g1, o1 + k * 12, none⟩ = some (.string n) := by rw [hs.cell (p := ⟨g1, o1 + k * 12, none⟩) hg1]; exact hnc
      have HN : Hid (l.In w B (some ⟨g1, o1, none⟩) (k + 1) ∧ l.Ok ∧ l.Nm) := ⟨hl', hok.head.2, hnm.head.2⟩
      have hn32 : n.size ≤ 140737488355328 := by have := hnm.head.1; omega
      unfold tcells at HO
      clear hl hlN hc ht hl' hok hs hrw hpre hnc hnm
      have HS : Hid (∀ w1, Below wr.heap.size wr w1 → ((∃ u, w1.cell? ⟨w.heap.size, k * 2, none⟩ = some u) ∧ w1.frozen? ⟨w.heap.size, k * 2, none⟩ = false) ∧ (∃ u, w1.cell? ⟨w.heap.size, k * 2 + 1, none⟩ = some u) ∧ w1.frozen? ⟨w.heap.size, k * 2 + 1, none⟩ = false) := fun w1 h => ⟨(HR.out.1.call h).own (k * 2) (by omega), (HR.out.1.call h).own (k * 2 + 1) (by omega)⟩
      have hi0 : (0 : Int) ≤ (k : Int) := Int.natCast_nonneg _
      have hi1 : (k : Int) < (L.len : Int) := by omega
      have HS12 : Hid (∀ W : World, W.heap[wr.heap.size]? = some (.cells #[.string n, .int .i64 k1, .bool b1, .int .i64 i1, .float .f64 f1, .string tx1, .slice ab1 nb1 cb1, .int .u64 rf1, .slice al1 nl1 cl1, .slice af1 nf1 cf1, .string cc1, .int .i64 vr1] 84 (0, 0)) → W.cell? ⟨wr.heap.size, 0, none⟩ = some (.string n) ∧ W.cell? ⟨wr.heap.size, 1, none⟩ = some (.int .i64 k1) ∧ W.cell? ⟨wr.heap.size, 2, none⟩ = some (.bool b1) ∧ W.cell? ⟨wr.heap.size, 3, none⟩ = some (.int .i64 i1) ∧ W.cell? ⟨wr.heap.size, 4, none⟩ = some (.float .f64 f1) ∧ W.cell? ⟨wr.heap.size, 5, none⟩ = some (.string tx1) ∧ W.cell? ⟨wr.heap.size, 6, none⟩ = some (.slice ab1 nb1 cb1) ∧ W.cell? ⟨wr.heap.size, 7, none⟩ = some (.int .u64 rf1) ∧ W.cell? ⟨wr.heap.size, 8, none⟩ = some (.slice al1 nl1 cl1) ∧ W.cell? ⟨wr.heap.size, 9, none⟩ = some (.slice af1 nf1 cf1) ∧ W.cell? ⟨wr.heap.size, 10, none⟩ = some (.string cc1) ∧ W.cell? ⟨wr.heap.size, 11, none⟩ = some (.int .i64 vr1)) := fun W h => by
        have hh := fun j => cell_of_row W wr.heap.size j _ _ _ h
        exact ⟨hh 0, hh 1, hh 2, hh 3, hh 4, hh 5, hh 6, hh 7, hh 8, hh 9, hh 10, hh 11⟩
      have HX : Hid (∀ W, Below (wr.alloc (.cells #[.string n, .int .i64 k1, .bool b1, .int .i64 i1, .float .f64 f1, .string tx1, .slice ab1 nb1 cb1, .int .u64 rf1, .slice al1 nl1 cl1, .slice af1 nf1 cf1, .string cc1, .int .i64 vr1] 84)).heap.size (wr.alloc (.cells #[.string n, .int .i64 k1, .bool b1, .int .i64 i1, .float .f64 f1, .string tx1, .slice ab1 nb1 cb1, .int .u64 rf1, .slice al1 nl1 cl1, .slice af1 nf1 cf1, .string cc1, .int .i64 vr1] 84)) W → W.heap[wr.heap.size]? = some (.cells #[.string n, .int .i64 k1, .bool b1, .int .i64 i1, .float .f64 f1, .string tx1, .slice ab1 nb1 cb1, .int .u64 rf1, .slice al1 nl1 cl1, .slice af1 nf1 cf1, .string cc1, .int .i64 vr1] 84 (0, 0)) ∧ Below wr.heap.size wr W) := fun W h => ⟨by rw [h.block wr.heap.size (by simp)]; exact heap_alloc_new wr _, ((Below.refl _ _).alloc (Nat.le_refl _) _).trans (h.mono (by simp))⟩
      have hwlt : w.heap.size < wr.heap.size := HR.out.1.lt.2
      have HNew : Hid (∀ w2 v, Below wr.heap.size wr w2 → t.V w2 (Fr wr w2) v → RW 112 w (setN w2 w.heap.size (k * 2) [.string n, v]) w.heap.size (L.len * 2) (xs ++ [.string n, v]) ∧ FPre (setN w2 w.heap.size (k * 2) [.string n, v]) (Own w.heap.size (setN w2 w.heap.size (k * 2) [.string n, v]) w.heap.size) L (xs ++ [.string n, v]) l) := fun w2 v hb hv => by
        have h1 := (HR.out.1.call hb).set [.string n, v] (by simp; omega)
        rw [hxs] at h1
        exact ⟨h1, FPre.step (o := k * 2) HR.out.2.1 (by unfold maxLen; omega) hb hv HR.out.1.lt _⟩
      by_cases hkd : t.kind = 1
      · go_wp2_with fail
        go_region_held3 (fun W => W.cell? ⟨wr.heap.size, 0, none⟩ = some (.string n) ∧ W.cell? ⟨wr.heap.size, 1, none⟩ = some (.int .i64 k1) ∧ W.cell? ⟨wr.heap.size, 2, none⟩ = some (.bool b1) ∧ W.cell? ⟨wr.heap.size, 3, none⟩ = some (.int .i64 i1) ∧ W.cell? ⟨wr.heap.size, 4, none⟩ = some (.float .f64 f1) ∧ W.cell? ⟨wr.heap.size, 5, none⟩ = some (.string tx1) ∧ W.cell? ⟨wr.heap.size, 6, none⟩ = some (.slice ab1 nb1 cb1) ∧ W.cell? ⟨wr.heap.size, 7, none⟩ = some (.int .u64 rf1) ∧ W.cell? ⟨wr.heap.size, 8, none⟩ = some (.slice al1 nl1 cl1) ∧ W.cell? ⟨wr.heap.size, 9, none⟩ = some (.slice af1 nf1 cf1) ∧ W.cell? ⟨wr.heap.size, 10, none⟩ = some (.string cc1) ∧ W.cell? ⟨wr.heap.size, 11, none⟩ = some (.int .i64 vr1))
          (first | exact HS12.out _ (HX.out _ (Below.refl _ _)).1 | exact HS12.out _ (HX.out _ (Below.refl _ _).drew).1 | exact HS12.out _ (HX.out _ HB1.out).1 | exact HS12.out _ (HX.out _ HB2.out).1 | exact HS12.out _ (by rw [heap_setCell_other _ _ _ _ (by show wr.heap.size ≠ w.heap.size; omega), heap_setCell_other _ _ _ _ (by show wr.heap.size ≠ w.heap.size; omega)]; exact (HX.out _ HB2.out).1))
          ((first
            | (go_at_call 61; refine (sClone_any n _ hn32).mono ?_; rintro e w1 ⟨rfl, hb1⟩; have HB1 : Hid (Below (wr.alloc (.cells #[.string n, .int .i64 k1, .bool b1, .int .i64 i1, .float .f64 f1, .string tx1, .slice ab1 nb1 cb1, .int .u64 rf1, .slice al1 nl1 cl1, .slice af1 nf1 cf1, .string cc1, .int .i64 vr1] 84)).heap.size (wr.alloc (.cells #[.string n, .int .i64 k1, .bool b1, .int .i64 i1, .float .f64 f1, .string tx1, .slice ab1 nb1 cb1, .int .u64 rf1, .slice al1 nl1 cl1, .slice af1 nf1 cf1, .string cc1, .int .i64 vr1] 84)) w1) := below_to (Below.refl _ _).drew hb1; clear hb1)
            | (go_at_call 37; refine (HO.out _ ?_).mono ?_; exact (HX.out _ HB1.out).2; rintro e w2 ⟨v, rfl, hb2, hv, hsh⟩; have HV : Hid (t.V w2 (Fr wr w2) v) := t.V_same (Same.refl _ _) (fun k hk => ⟨Nat.le_trans (HX.out _ HB1.out).2.size hk.1, hk.2⟩) v hv; obtain rfl := Tm.V_nil hkd hv; have HB2 : Hid (Below (wr.alloc (.cells #[.string n, .int .i64 k1, .bool b1, .int .i64 i1, .float .f64 f1, .string tx1, .slice ab1 nb1 cb1, .int .u64 rf1, .slice al1 nl1 cl1, .slice af1 nf1 cf1, .string cc1, .int .i64 vr1] 84)).heap.size (wr.alloc (.cells #[.string n, .int .i64 k1, .bool b1, .int .i64 i1, .float .f64 f1, .string tx1, .slice ab1 nb1 cb1, .int .u64 rf1, .slice al1 nl1 cl1, .slice af1 nf1 cf1, .string cc1, .int .i64 vr1] 84)) w2) := below_to HB1.out hb2; obtain ⟨⟨⟨u0, hu0⟩, hf0⟩, ⟨u1, hu1⟩, hf1⟩ := HS.out w2 (HX.out _ HB2.out).2)))
        have HNw := HNew.out w2 _ (HX.out _ HB2.out).2 HV.out
        go_wp2_with fail
        go_roundw
        case rel => exact ⟨k + 1, l, _, by go_num, HL.out, htN.2, by simp [hxs]; omega, HNw.1, HNw.2, HN.out.1, HN.out.2.1, HN.out.2.2⟩
        case measure => simp [intOf]; omega
      · go_wp2_with fail
        go_region_held3 (fun W => W.cell? ⟨wr.heap.size, 0, none⟩ = some (.string n) ∧ W.cell? ⟨wr.heap.size, 1, none⟩ = some (.int .i64 k1) ∧ W.cell? ⟨wr.heap.size, 2, none⟩ = some (.bool b1) ∧ W.cell? ⟨wr.heap.size, 3, none⟩ = some (.int .i64 i1) ∧ W.cell? ⟨wr.heap.size, 4, none⟩ = some (.float .f64 f1) ∧ W.cell? ⟨wr.heap.size, 5, none⟩ = some (.string tx1) ∧ W.cell? ⟨wr.heap.size, 6, none⟩ = some (.slice ab1 nb1 cb1) ∧ W.cell? ⟨wr.heap.size, 7, none⟩ = some (.int .u64 rf1) ∧ W.cell? ⟨wr.heap.size, 8, none⟩ = some (.slice al1 nl1 cl1) ∧ W.cell? ⟨wr.heap.size, 9, none⟩ = some (.slice af1 nf1 cf1) ∧ W.cell? ⟨wr.heap.size, 10, none⟩ = some (.string cc1) ∧ W.cell? ⟨wr.heap.size, 11, none⟩ = some (.int .i64 vr1))
          (first | exact HS12.out _ (HX.out _ (Below.refl _ _)).1 | exact HS12.out _ (HX.out _ (Below.refl _ _).drew).1 | exact HS12.out _ (HX.out _ HB1.out).1 | exact HS12.out _ (HX.out _ HB2.out).1 | exact HS12.out _ (by rw [heap_setCell_other _ _ _ _ (by show wr.heap.size ≠ w.heap.size; omega), heap_setCell_other _ _ _ _ (by show wr.heap.size ≠ w.heap.size; omega)]; exact (HX.out _ HB2.out).1))
          ((first
            | (go_at_call 61; refine (sClone_any n _ hn32).mono ?_; rintro e w1 ⟨rfl, hb1⟩; have HB1 : Hid (Below (wr.alloc (.cells #[.string n, .int .i64 k1, .bool b1, .int .i64 i1, .float .f64 f1, .string tx1, .slice ab1 nb1 cb1, .int .u64 rf1, .slice al1 nl1 cl1, .slice af1 nf1 cf1, .string cc1, .int .i64 vr1] 84)).heap.size (wr.alloc (.cells #[.string n, .int .i64 k1, .bool b1, .int .i64 i1, .float .f64 f1, .string tx1, .slice ab1 nb1 cb1, .int .u64 rf1, .slice al1 nl1 cl1, .slice af1 nf1 cf1, .string cc1, .int .i64 vr1] 84)) w1) := below_to (Below.refl _ _).drew hb1; clear hb1)
            | (go_at_call 37; refine (HO.out _ ?_).mono ?_; exact (HX.out _ HB1.out).2; rintro e w2 ⟨v, rfl, hb2, hv, hsh⟩; have HV : Hid (t.V w2 (Fr wr w2) v) := t.V_same (Same.refl _ _) (fun k hk => ⟨Nat.le_trans (HX.out _ HB1.out).2.size hk.1, hk.2⟩) v hv; obtain ⟨T, x, rfl⟩ := Tm.V_iface hkd hv; have HB2 : Hid (Below (wr.alloc (.cells #[.string n, .int .i64 k1, .bool b1, .int .i64 i1, .float .f64 f1, .string tx1, .slice ab1 nb1 cb1, .int .u64 rf1, .slice al1 nl1 cl1, .slice af1 nf1 cf1, .string cc1, .int .i64 vr1] 84)).heap.size (wr.alloc (.cells #[.string n, .int .i64 k1, .bool b1, .int .i64 i1, .float .f64 f1, .string tx1, .slice ab1 nb1 cb1, .int .u64 rf1, .slice al1 nl1 cl1, .slice af1 nf1 cf1, .string cc1, .int .i64 vr1] 84)) w2) := below_to HB1.out hb2; obtain ⟨⟨⟨u0, hu0⟩, hf0⟩, ⟨u1, hu1⟩, hf1⟩ := HS.out w2 (HX.out _ HB2.out).2)))
        have HNw := HNew.out w2 _ (HX.out _ HB2.out).2 HV.out
        go_wp2_with fail
        go_roundw
        case rel => exact ⟨k + 1, l, _, by go_num, HL.out, htN.2, by simp [hxs]; omega, HNw.1, HNw.2, HN.out.1, HN.out.2.1, HN.out.2.2⟩
        case measure => simp [intOf]; omega

section
variable (b : Bool) (i : Int) (f : Nat) (tx : ByteArray) (vb : Value) (rf : Int) (vl vf : Value) (c : ByteArray) (vr : Int) (w : World)
set_option maxRecDepth 100000 in
set_option maxHeartbeats 400000 in
theorem vof_1 : Calls Try.prog 37 #[.agg (tcells 1 b i f tx vb rf vl vf c vr)] w fun e w' => e = .returned .nilIface ∧ Below w.heap.size w w' := by
  unfold tcells
  go_enter Try.func37, Try.ntmps37
  go_wp2_with fail
  go_ret
  exact ⟨rfl, (Below.refl _ _).alloc (Nat.le_refl _) _⟩
set_option maxRecDepth 100000 in
set_option maxHeartbeats 400000 in
theorem vof_2 : Calls Try.prog 37 #[.agg (tcells 2 b i f tx vb rf vl vf c vr)] w fun e w' => e = .returned (.iface 4 (.bool b)) ∧ Below w.heap.size w w' := by
  unfold tcells
  go_enter Try.func37, Try.ntmps37
  go_wp2_with fail
  go_ret
  exact ⟨rfl, (Below.refl _ _).alloc (Nat.le_refl _) _⟩
set_option maxRecDepth 100000 in
set_option maxHeartbeats 400000 in
theorem vof_3 : Calls Try.prog 37 #[.agg (tcells 3 b i f tx vb rf vl vf c vr)] w fun e w' => e = .returned (.iface 2 (.int .i64 i)) ∧ Below w.heap.size w w' := by
  unfold tcells
  go_enter Try.func37, Try.ntmps37
  go_wp2_with fail
  go_ret
  exact ⟨rfl, (Below.refl _ _).alloc (Nat.le_refl _) _⟩
set_option maxRecDepth 100000 in
set_option maxHeartbeats 400000 in
theorem vof_4 : Calls Try.prog 37 #[.agg (tcells 4 b i f tx vb rf vl vf c vr)] w fun e w' => e = .returned (.iface 22 (.float .f64 f)) ∧ Below w.heap.size w w' := by
  unfold tcells
  go_enter Try.func37, Try.ntmps37
  go_wp2_with fail
  go_ret
  exact ⟨rfl, (Below.refl _ _).alloc (Nat.le_refl _) _⟩
set_option maxRecDepth 100000 in
set_option maxHeartbeats 400000 in
theorem vof_7 : Calls Try.prog 37 #[.agg (tcells 7 b i f tx vb rf vl vf c vr)] w fun e w' => e = .returned (.iface 25 (.int .u64 rf)) ∧ Below w.heap.size w w' := by
  unfold tcells
  go_enter Try.func37, Try.ntmps37
  go_wp2_with fail
  go_ret
  exact ⟨rfl, (Below.refl _ _).alloc (Nat.le_refl _) _⟩
set_option maxRecDepth 100000 in
set_option maxHeartbeats 400000 in
theorem vof_5 (hs : tx.size ≤ 140737488355328) : Calls Try.prog 37 #[.agg (tcells 5 b i f tx vb rf vl vf c vr)] w fun e w' => e = .returned (.iface 9 (.string tx)) ∧ Below w.heap.size w w' := by
  unfold tcells
  go_enter Try.func37, Try.ntmps37
  go_wp2_with (go_at_call 61; refine (sClone_any tx _ hs).mono ?_; rintro e w1 ⟨rfl, hb1⟩)
  go_ret
  exact ⟨rfl, below_to ((Below.refl _ _).alloc (Nat.le_refl _) _) hb1⟩
set_option maxRecDepth 100000 in
set_option maxHeartbeats 400000 in
theorem vof_6 (ab : Option Addr) (L : ByteArray) (cb : Nat) (B : Nat → Prop) (hB : Sub B w) (hl : BytesAt w B ab L) (hs : L.size ≤ 140737488355328) : Calls Try.prog 37 #[.agg (tcells 6 b i f tx (.slice ab L.size cb) rf vl vf c vr)] w fun e w' => ∃ a cap, e = .returned (.iface 23 (.slice a L.size cap)) ∧ Below w.heap.size w w' ∧ BytesLV w' (Fr w w') a L cap := by
  unfold tcells
  have HC : Hid (∀ W, Below w.heap.size w W → Calls Try.prog 62 #[.slice ab L.size cb] W fun e w' => ∃ a cap, e = .returned (.slice a L.size cap) ∧ Below W.heap.size W w' ∧ BytesLV w' (Fr W w') a L cap) := fun W hW => bClone_any L ab cb B W (hB.later hW) (hl.same (hB.same hW) (fun _ h => h)) hs
  clear hl
  go_enter Try.func37, Try.ntmps37
  go_wp2_with (go_at_call 62; refine (HC.out _ ((Below.refl _ _).alloc (Nat.le_refl _) _)).mono ?_; rintro e w1 ⟨a, cap, rfl, hb1, hl1⟩)
  go_ret
  exact ⟨_, _, rfl, below_to ((Below.refl _ _).alloc (Nat.le_refl _) _) hb1, hl1.same (Same.refl _ _) (fun k hk => ⟨by have := hk.1; simp at this; omega, hk.2⟩)⟩
set_option maxRecDepth 100000 in
set_option maxHeartbeats 400000 in
theorem vof_9 (L : TmF) (h : ∀ W, Below w.heap.size w W → Calls Try.prog 63 #[vf] W fun e w' => ∃ a cap, e = .returned (.slice a L.len cap) ∧ Below W.heap.size W w' ∧ L.LV w' (Fr W w') a cap) :
    Calls Try.prog 37 #[.agg (tcells 9 b i f tx vb rf vl vf c vr)] w fun e w' => ∃ a cap, e = .returned (.iface 73 (.slice a L.len cap)) ∧ Below w.heap.size w w' ∧ L.LV w' (Fr w w') a cap := by
  unfold tcells
  have HC : Hid _ := h
  clear h
  go_enter Try.func37, Try.ntmps37
  go_wp2_with (go_at_call 63; refine (HC.out _ ((Below.refl _ _).alloc (Nat.le_refl _) _)).mono ?_; rintro e w1 ⟨a, cap, rfl, hb1, hl1⟩)
  go_ret
  exact ⟨_, _, rfl, below_to ((Below.refl _ _).alloc (Nat.le_refl _) _) hb1, L.LV_same (Same.refl _ _) (fun k hk => ⟨by have := hk.1; simp at this; omega, hk.2⟩) _ _ hl1⟩
end
end Go.Proofs.Ytkomcebknllaiaa

/- Making the fields of a dict or a record. -/
namespace Go.Proofs.Ytkomcebknllaiaa
open Go.RowKit

theorem rdF_len {xs : List Int} {start : Nat} {step : Nat → Nat → Rs (Tm × Nat)} : ∀ (n : Nat) (ahead : List Int) (at' p : Nat) (L : TmF) (p2 a2 : Nat), Sp.rdF xs start step n ahead at' p = .ok (L, p2) a2 → L.len = n
  | 0, ahead, at', p, L, p2, a2, h => by
    rw [Sp.rdF] at h
    injection h with e1 e2; injection e1 with e3 e4; subst e3; rfl
  | n + 1, ahead, at', p, L, p2, a2, h => by
    rw [Sp.rdF] at h
    split at h
    · simp at h
    · split at h
      · simp at h
      · split at h
        · simp at h
        · split at h
          · simp at h
          · rename_i hq
            injection h with e1 e2; injection e1 with e3 e4; subst e3
            rw [TmF.len, rdF_len n _ _ _ _ _ _ hq]
theorem rdF_cons {xs : List Int} {start : Nat} {step : Nat → Nat → Rs (Tm × Nat)} {n : Nat} {ahead : List Int} {at' p : Nat} {nm : ByteArray} {t : Tm} {l : TmF} {p2 a2 : Nat} (h : Sp.rdF xs start step (n + 1) ahead at' p = .ok (.cons nm t l, p2) a2) : ∃ l0 a0 p1 a1, Sp.rdN xs at' start = .ok l0 a0 ∧ Sp.txt l0 = nm ∧ step a0 p = .ok (t, p1) a1 ∧ Sp.rdF xs start step n l0 a1 p1 = .ok (l, p2) a2 := by
  rw [Sp.rdF] at h
  cases hN : Sp.rdN xs at' start with
  | bad q e => rw [hN] at h; simp at h
  | ok l0 a0 =>
    rw [hN] at h
    simp only at h
    split at h
    · simp at h
    · cases hs : step a0 p with
      | bad q e => rw [hs] at h; simp at h
      | ok tp a1 =>
        obtain ⟨t1, p1⟩ := tp
        rw [hs] at h
        simp only at h
        cases hq : Sp.rdF xs start step n l0 a1 p1 with
        | bad q e => rw [hq] at h; simp at h
        | ok lp a3 =>
          obtain ⟨l3, p3⟩ := lp
          rw [hq] at h
          injection h with e1 e2; injection e1 with e3 e4; injection e3 with e5 e6 e7
          subst e2; subst e4; subst e5; subst e6; subst e7
          exact ⟨l0, a0, p1, a1, rfl, rfl, hs, hq⟩

set_option maxRecDepth 100000 in
set_option maxHeartbeats 2000000 in
theorem madeFields_ok (b : Nat) (a : Option Addr) (xs : List Int) (cap at' p : Nat) (w : World) (h : Rdr w b a xs cap at' p) (hby : By xs) (f : Nat) (HC : MC xs f) (start p0 p2 a2 : Nat) (L : TmF) (hr : Sp.rdD xs start (Sp.rdV xs f) at' p0 = .ok (L, p2) a2) :
    Calls Try.prog 105 #[.pointer (some ⟨b, 0, none⟩)] w fun e w' => ∃ a' cap', e = .returned (.slice a' L.len cap') ∧ Rdr w' b a xs cap a2 p ∧ But b w w' ∧ L.LV w' (Fr w w') a' cap' := by
  unfold Sp.rdD at hr
  cases hc : Sp.cnt xs at' start 4096 with
  | bad q e => rw [hc] at hr; simp at hr
  | ok n a1 =>
    rw [hc] at hr
    simp only at hr
    obtain ⟨hn, hn4⟩ := cnt_ok hc
    obtain rfl := rdF_len n _ a1 p0 L p2 a2 hr
    obtain ⟨i0, hi, hz0, hz1, hz2⟩ := info_parts Try.infoFd
    have HX : Hid (By xs ∧ MC xs f) := ⟨hby, HC⟩
    have HRD : Hid (Sp.rdF xs start (Sp.rdV xs f) L.len [] a1 p0 = .ok (L, p2) a2) := hr
    have HB : Hid (Calls Try.prog 101 #[.pointer (some ⟨b, 0, none⟩)] w fun e w' => e = .returned (.int .u64 (L.len : Int)) ∧ Rdr w' b a xs cap a1 p ∧ But b w w') := rnumber_ok L.len a1 b a xs cap at' p w h hby hn
    obtain ⟨M, hM⟩ : ∃ M, M = madeCells (Value.agg #[.string ByteArray.empty, .nilIface]).cells (((L.len : Nat) : Int).toNat * i0.size) := ⟨_, rfl⟩
    have hMs : M.size = L.len * 2 := by rw [hM, size_madeCells, hz1]; simp
    have hmake : ∀ W : World, (Instr.makeSlice 73 (.int .u64 (L.len : Int)) (.int .u64 (L.len : Int))).run Try.prog W = .ok (.slice (some ⟨W.heap.size, 0, none⟩) L.len L.len) (W.alloc (.cells M 112)) := fun W => by
      have h := run_make (P := Try.prog) W 73 112 i0 _ Try.undD hi hz0 .u64 .u64 (L.len : Int) (L.len : Int) (by omega) (by omega) (by rw [hz2]; omega) (by omega)
      rw [← hM] at h; simpa using h
    have HM : Hid (M.size = L.len * 2) := hMs
    clear hM hi hz0 hz1 hz2 h hby hn hr HC hMs hc
    go_enter Try.func105, Try.ntmps105
    go_wp2_with fail
    refine HB.out.mono ?_
    rintro e w2 ⟨rfl, hr2, hb2⟩
    have H0 : Hid (RWB b 112 w (w2.alloc (.cells M 112)) w2.heap.size (L.len * 2) [] ∧ FPre (w2.alloc (.cells M 112)) (Own w.heap.size (w2.alloc (.cells M 112)) w2.heap.size) L [] L ∧ Rdr (w2.alloc (.cells M 112)) b a xs cap a1 p) := by
      have hrw := RWB.made hb2 M 112
      rw [HM.out] at hrw
      exact ⟨hrw, (FPre_nil _ _).2 rfl, hr2.call ((Below.refl _ _).alloc (Nat.le_refl _) _)⟩
    clear hr2 hb2 HB
    go_wp2_with fail
    go_loopw [10] (fun x wr => ∃ (k aa pp : Nat) (ahd : List Int) (l : TmF) (vs : List Value), x = .int .i64 k ∧ l.len + k = L.len ∧ vs.length = k * 2 ∧ Hid (RWB b 112 w wr w2.heap.size (L.len * 2) vs ∧ FPre wr (Own w.heap.size wr w2.heap.size) L vs l ∧ Sp.rdF xs start (Sp.rdV xs f) l.len ahd aa pp = .ok (l, p2) a2 ∧ Rdr wr b a xs cap aa p)) (fun x _ => L.len - (intOf x).toNat)
    case atStart => exact ⟨0, a1, p0, [], L, [], rfl, rfl, rfl, H0.out.1, H0.out.2.1, HRD.out, H0.out.2.2⟩
    case round =>
      obtain ⟨k, aa, pp, ahd, l, vs, rfl, hl, hvs, HR⟩ := hrel
      clear HRD
      cases l with
      | nil =>
        have h1 : L.len ≤ k := by simp [TmF.len] at hl; omega
        obtain ⟨hrw, hpre, hrd, hrr⟩ := HR.out
        rw [TmF.len, Sp.rdF] at hrd
        injection hrd with e1 e2
        have HF : Hid (Rdr wr b a xs cap a2 p) := by rw [← e2]; exact hrr
        clear hl hrw hpre hrr e1 e2
        go_wp2_with fail
        go_ret
        exact ⟨_, _, rfl, HF.out, HR.out.1.bel, HR.out.2.1.finB HR.out.1 (by unfold maxLen; omega)⟩
      | cons nm t l =>
        obtain ⟨hrw, hpre, hrd, hrr⟩ := HR.out
        obtain ⟨l0, a0, p1, a3, hN, rfl, hst, hrd'⟩ := rdF_cons hrd
        obtain ⟨nn, an, hrn, hn32, hle, rfl, rfl, hnm⟩ := rdN_ok hN
        have hk1 : k < L.len := by simp only [TmF.len] at hl; omega
        have HL : Hid (l.len + (k + 1) = L.len) := by show _ = _; simp only [TmF.len] at hl; omega
        have HT : Hid (Calls Try.prog 104 #[.pointer (some ⟨b, 0, none⟩)] wr fun e w' => ∃ a' cap', e = .returned (.slice a' nn cap') ∧ RdB w' (Lo b) a' ((xs.drop an).take nn) ∧ Rdr w' b a xs cap (an + nn) p ∧ But b wr w') := rtext_ok nn an b a xs cap aa p wr hrr HX.out.1 hrn hle
        have HLN : Hid (((xs.drop an).take nn).length = nn) := part_len hle
        have HN : Hid (Sp.rdV xs f (an + nn) pp = .ok (t, p1) a3 ∧ Sp.rdF xs start (Sp.rdV xs f) l.len ((xs.drop an).take nn) a3 p1 = .ok (l, p2) a2) := ⟨hst, hrd'⟩
        have HS : Hid (∀ w1, But b wr w1 → (∃ u, w1.cell? ⟨w2.heap.size, k * 2, none⟩ = some u) ∧ w1.frozen? ⟨w2.heap.size, k * 2, none⟩ = false) := fun w1 h => (hrw.call h).own (k * 2) (by omega)
        have hi0 : (0 : Int) ≤ (k : Int) := Int.natCast_nonneg _
        have hi1 : (k : Int) < (L.len : Int) := by omega
        clear hl hrw hpre hrd hrr hst hrd' hN hrn hle hnm
        generalize hs0 : (xs.drop an).take nn = s0 at *
        clear hs0
        go_wp2_with fail
        refine HT.out.mono ?_
        rintro e w3 ⟨a7, cap7, rfl, hrd3, hr3, hb3⟩
        have hcv : (convert 23 9 (.slice a7 nn cap7)).run Try.prog w3 = .ok (.string (Sp.txt s0)) w3 := by
          have := conv_rd _ a7 cap7 (Lo b) w3 hrd3
          rw [HLN.out] at this; exact this
        obtain ⟨⟨u, hu⟩, hf⟩ := HS.out w3 hb3
        have HW3 : Hid (But b wr w3 ∧ RWB b 112 w (w3.setCell ⟨w2.heap.size, k * 2, none⟩ (.string (Sp.txt s0))) w2.heap.size (L.len * 2) (vs ++ [.string (Sp.txt s0)]) ∧ Rdr (w3.setCell ⟨w2.heap.size, k * 2, none⟩ (.string (Sp.txt s0))) b a xs cap (an + nn) p) := by
          have hrw := HR.out.1
          have h1 := (hrw.call hb3).set [.string (Sp.txt s0)] (by simp; omega)
          rw [hvs] at h1
          exact ⟨hb3, h1, hr3.setN (by have := hrw.lt; have := hrw.bel.lt; omega) [.string (Sp.txt s0)]⟩
        clear hrd3 hr3 hb3 HT HS
        go_wp2_with fail
        refine (HX.out.2 b a cap (an + nn) p pp t p1 a3 _ HW3.out.2.2 HN.out.1).mono ?_
        rintro e w4 ⟨v, rfl, hr4, hb4, hv⟩
        have hsh := t.V_shape v hv
        obtain ⟨⟨u4, hu4⟩, hf4⟩ := (HW3.out.2.1.call hb4).own (k * 2 + 1) (by omega)
        have HNew : Hid (RWB b 112 w (w4.setCell ⟨w2.heap.size, k * 2 + 1, none⟩ v) w2.heap.size (L.len * 2) (vs ++ [.string (Sp.txt s0)] ++ [v]) ∧ FPre (w4.setCell ⟨w2.heap.size, k * 2 + 1, none⟩ v) (Own w.heap.size (w4.setCell ⟨w2.heap.size, k * 2 + 1, none⟩ v) w2.heap.size) L (vs ++ [.string (Sp.txt s0)] ++ [v]) l ∧ Rdr (w4.setCell ⟨w2.heap.size, k * 2 + 1, none⟩ v) b a xs cap a3 p) := by
          have hrw := HR.out.1
          have h1 := (HW3.out.2.1.call hb4).set [v] (by simp; omega)
          rw [show (vs ++ [Value.string (Sp.txt s0)]).length = k * 2 + 1 by simp [hvs]] at h1
          have hb3' : Bu2 b w2.heap.size wr (setN w3 w2.heap.size (k * 2) [.string (Sp.txt s0)]) := (Bu2.of HW3.out.1).set [.string (Sp.txt s0)]
          have hbu : Bu2 b w2.heap.size wr (setN w4 w2.heap.size (k * 2 + 1) [v]) := (hb3'.trans (Bu2.of hb4)).set [v]
          have hg3 : w2.heap.size < (w3.setCell ⟨w2.heap.size, k * 2, none⟩ (.string (Sp.txt s0))).heap.size := HW3.out.2.1.lt.2
          have hpre := FPre.snoc (w := setN w4 w2.heap.size (k * 2 + 1) [v]) L vs (Sp.txt s0) t l v (FPre.same (hbu.kept hrw.bel.lt) hbu.up L vs _ HR.out.2.1) (by rw [txt_size, HLN.out]; unfold maxLen; omega) (t.V_same (fr_kept (wr := w3.setCell ⟨w2.heap.size, k * 2, none⟩ (.string (Sp.txt s0))) (w1 := w4) (o := k * 2 + 1) hg3 [v]) (fr_up (wr := w3.setCell ⟨w2.heap.size, k * 2, none⟩ (.string (Sp.txt s0))) (w1 := w4) (o := k * 2 + 1) ⟨hrw.lt.1, hg3⟩ [v]) v hv)
          exact ⟨h1, by rw [List.append_assoc]; exact hpre, hr4.setN (by have := hrw.lt; have := hrw.bel.lt; omega) [v]⟩
        clear hb4 hv hr4 HW3
        rcases hsh with rfl | ⟨T, x, rfl⟩
        all_goals
          go_wp2_with fail
          go_roundw
          case rel => exact ⟨k + 1, a3, p1, s0, l, _, by go_num, HL.out, by simp [hvs]; omega, HNew.out.1, HNew.out.2.1, HN.out.2, HNew.out.2.2⟩
          case measure => simp [intOf]; omega
end Go.Proofs.Ytkomcebknllaiaa
