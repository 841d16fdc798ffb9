/- tenonlaw10.ObjectOnce returns true at every description, however often it is loaded. -/
import Derived.Test.YtbjjeleoimcboaaQ29
import Derived.Test.YtbjjeleoimcboaaQ30
import Derived.BigQuiet
import Derived.Deep.RegionHeld3
namespace Go.Proofs.Ytbjjeleoimcboaa
open Go.RowKit

theorem set4 (r : Sr) (h n sh X : Int) (p : Nat) (w : World) (T : TypeId) (hp : w.heap[p]? = some (.cells (r.cs h n sh) T)) :
    ((((w.setCell ⟨p, 0, none⟩ (.int .i64 0)).setCell ⟨p, 1, none⟩ (.int .i64 X)).setCell ⟨p, 10, none⟩ (.bool false)).setCell ⟨p, 12, none⟩ (.int .i64 0)).heap[p]? = some (.cells (({ r with pa := 0, ld := false } : Sr).cs 0 X sh) T) ∧ Below p w ((((w.setCell ⟨p, 0, none⟩ (.int .i64 0)).setCell ⟨p, 1, none⟩ (.int .i64 X)).setCell ⟨p, 10, none⟩ (.bool false)).setCell ⟨p, 12, none⟩ (.int .i64 0)) := by
  refine ⟨?_, ((((Below.refl _ _).setCell (p := ⟨p, 0, none⟩) (Nat.le_refl _) _).setCell (p := ⟨p, 1, none⟩) (Nat.le_refl _) _).setCell (p := ⟨p, 10, none⟩) (Nat.le_refl _) _).setCell (p := ⟨p, 12, none⟩) (Nat.le_refl _) _⟩
  have e1 : (w.setCell ⟨p, 0, none⟩ (.int .i64 0)).heap[p]? = some (.cells (r.cs 0 n sh) T) := by rw [setCell_eq_setRow _ _ _ _ _ _ _ hp]; exact setRow_heap _ _ _ _ _ _ hp
  have e2 : ((w.setCell ⟨p, 0, none⟩ (.int .i64 0)).setCell ⟨p, 1, none⟩ (.int .i64 X)).heap[p]? = some (.cells (r.cs 0 X sh) T) := by rw [setCell_eq_setRow _ _ _ _ _ _ _ e1]; exact setRow_heap _ _ _ _ _ _ e1
  have e3 : (((w.setCell ⟨p, 0, none⟩ (.int .i64 0)).setCell ⟨p, 1, none⟩ (.int .i64 X)).setCell ⟨p, 10, none⟩ (.bool false)).heap[p]? = some (.cells (({ r with ld := false } : Sr).cs 0 X sh) T) := by rw [setCell_eq_setRow _ _ _ _ _ _ _ e2]; exact setRow_heap _ _ _ _ _ _ e2
  rw [setCell_eq_setRow _ _ _ _ _ _ _ e3]; exact setRow_heap _ _ _ _ _ _ e3

theorem core_zeros (r : Sr) (n sh : Int) (j : Nat) (h1 : 14 ≤ j) (h2 : j < 21) : (r.cs 0 n sh ++ zs)[j]? = some (.int .i64 0) := by
  rw [Array.getElem?_append_right (by show 14 ≤ j; exact h1)]
  show zs[j - 14]? = _
  have : j - 14 = 0 ∨ j - 14 = 1 ∨ j - 14 = 2 ∨ j - 14 = 3 ∨ j - 14 = 4 ∨ j - 14 = 5 ∨ j - 14 = 6 := by omega
  rcases this with e | e | e | e | e | e | e <;> rw [e] <;> rfl
theorem Cl_core {r : Sr} {n : Nat} {sh : Int} {c : Nat} {w : World} (h : Core ({ r with pa := 0, ld := false } : Sr) 0 n sh c w) : Cl w c r.lo false 0 0 :=
  ⟨({ r with pa := 0, ld := false } : Sr).cs 0 n sh ++ zs, h, rfl, rfl, rfl, rfl, core_zeros _ _ _, rfl, rfl⟩

/-- behind i loads: is it loaded, how often was Load called -/
def ldA (lo : Int) (i : Nat) : Bool := decide (lo = 0) && decide (1 ≤ i)
def bA (lo : Int) (i : Nat) : Nat := if lo = 0 then min i 1 else i
theorem nR_A (lo : Int) (i : Nat) : nR lo (ldA lo i) = lo := by
  unfold nR ldA; by_cases h : lo = 0 <;> simp [h]
theorem nLd_A (lo : Int) (i : Nat) : nLd lo (ldA lo i) = ldA lo (i + 1) := by
  unfold nLd ldA; by_cases h : lo = 0 <;> simp [h]
theorem nB_A (lo : Int) (i : Nat) : nB (ldA lo i) (bA lo i) = bA lo (i + 1) := by
  unfold nB ldA bA; by_cases h : lo = 0 <;> simp [h]
  by_cases h1 : 1 ≤ i <;> simp [h1] <;> omega
theorem bA_le (lo : Int) (i : Nat) : bA lo i ≤ i := by
  unfold bA; split <;> omega

/-- what holds between two loads -/
def St (r : Sr) (X sh : Int) (T : Nat) (v : Value) (c d p q : Nat) (W5 wr : World) (i : Nat) : Prop :=
  Cl wr c r.lo (ldA r.lo i) i (bA r.lo i) ∧ DxL T v c wr ∧ wr.heap[q]? = some (Obj.cells #[.iface T v, .pointer (some ⟨c, 0, none⟩), .pointer (some ⟨d, 0, none⟩)] 39) ∧ wr.heap[p]? = some (.cells (({ r with pa := 0, ld := false } : Sr).cs 0 X sh) 32) ∧ Kc c W5 wr

theorem bel_drewN {B n : Nat} {w w' : World} (h : Below B w w') : Below B w (w'.drewN n) := ⟨h.os, h.tape, h.output, h.size, h.block⟩
theorem eq_calls (i : Nat) (h : i < 20) (W : World) : (binOp .eql 43 (.agg #[.int .i64 0, .int .i64 0, .int .i64 0, .int .i64 0, .int .i64 0, .int .i64 0, .int .i64 0, .int .i64 (i : Int), .int .i64 (i : Int)]) (.agg #[.int .i64 0, .int .i64 0, .int .i64 0, .int .i64 0, .int .i64 0, .int .i64 0, .int .i64 0, .int .i64 (i : Int), .int .i64 (i : Int)])).run Try.prog W = .ok (.bool true) W ∧ (binOp .eql 43 (.agg #[.int .i64 0, .int .i64 0, .int .i64 0, .int .i64 0, .int .i64 0, .int .i64 0, .int .i64 0, .int .i64 (i : Int), .int .i64 1]) (.agg #[.int .i64 0, .int .i64 0, .int .i64 0, .int .i64 0, .int .i64 0, .int .i64 0, .int .i64 0, .int .i64 (i : Int), .int .i64 1])).run Try.prog W = .ok (.bool true) W ∧ (∀ x y, (eqGuard .eql 43 x y (.agg #[.int .i64 0, .int .i64 0, .int .i64 0, .int .i64 0, .int .i64 0, .int .i64 0, .int .i64 0, .int .i64 (i : Int), .int .i64 (i : Int)]) (.agg #[.int .i64 0, .int .i64 0, .int .i64 0, .int .i64 0, .int .i64 0, .int .i64 0, .int .i64 0, .int .i64 (i : Int), .int .i64 (i : Int)])).run Try.prog W = .ok () W) ∧ (∀ x y, (eqGuard .eql 43 x y (.agg #[.int .i64 0, .int .i64 0, .int .i64 0, .int .i64 0, .int .i64 0, .int .i64 0, .int .i64 0, .int .i64 (i : Int), .int .i64 1]) (.agg #[.int .i64 0, .int .i64 0, .int .i64 0, .int .i64 0, .int .i64 0, .int .i64 0, .int .i64 0, .int .i64 (i : Int), .int .i64 1])).run Try.prog W = .ok () W) := by
  have hc : i = 0 ∨ i = 1 ∨ i = 2 ∨ i = 3 ∨ i = 4 ∨ i = 5 ∨ i = 6 ∨ i = 7 ∨ i = 8 ∨ i = 9 ∨ i = 10 ∨ i = 11 ∨ i = 12 ∨ i = 13 ∨ i = 14 ∨ i = 15 ∨ i = 16 ∨ i = 17 ∨ i = 18 ∨ i = 19 := by omega
  rcases hc with rfl | rfl | rfl | rfl | rfl | rfl | rfl | rfl | rfl | rfl | rfl | rfl | rfl | rfl | rfl | rfl | rfl | rfl | rfl | rfl <;> exact ⟨by kernel_rfl, by kernel_rfl, fun x y => by kernel_rfl, fun x y => by kernel_rfl⟩
theorem St.same {r : Sr} {X sh : Int} {T : Nat} {v : Value} {c d p q : Nat} {W5 wr W : World} {i : Nat} (h : St r X sh T v c d p q W5 wr i) (hh : W.heap = wr.heap) (ho : W.os = wr.os) (ht : W.tape = wr.tape) (hu : W.output = wr.output) : St r X sh T v c d p q W5 W i := by
  obtain ⟨g1, g2, g3, g4, g5⟩ := h
  exact ⟨g1.keep (by rw [hh]), g2.keep (fun j _ _ => by rw [hh]) (by rw [hh]; exact Nat.le_refl _), by rw [hh]; exact g3, by rw [hh]; exact g4, ⟨ho.trans g5.os, ht.trans g5.tape, hu.trans g5.output, by rw [hh]; exact g5.size, fun j h1 h2 => by rw [hh]; exact g5.block j h1 h2⟩⟩
theorem St.read {r : Sr} {X sh : Int} {T : Nat} {v : Value} {c d p q : Nat} {W5 wr : World} {i : Nat} (h : St r X sh T v c d p q W5 wr i) : wr.cell? ⟨q, 0, none⟩ = some (.iface T v) ∧ wr.cell? ⟨p, 11, none⟩ = some (.int .i64 r.lo) :=
  ⟨by rw [cell_of_row _ _ 0 _ _ _ h.2.2.1]; rfl, by rw [cell_of_row _ _ 11 _ _ _ h.2.2.2.1]; rfl⟩

set_option maxRecDepth 100000 in
set_option maxHeartbeats 4000000 in
theorem ObjectOnce_any (r : Sr) (h n sh : Int) (t : Nat) (ht : t < 256) (w : World) :
    Calls Try.prog 4 #[.agg (r.cs h n sh), .int .u8 (t : Int)] w fun e w' => e = .returned (.bool true) ∧ Below w.heap.size w w' := by
  have HLv : Hid (∀ W, Calls Try.prog 10 #[] W fun e w' => e = .returned (.bool true) ∧ Below W.heap.size W w') := lives_any
  have HA : Hid (∀ o, (w.alloc o).heap[w.heap.size]? = some o) := fun o => heap_alloc_last w o
  have Ht : Hid (t < 256) := ht
  clear ht
  go_enter Try.func4, Try.ntmps4
  unfold Sr.cs
  go_wp2_with fail
  show Calls Try.prog _ _ (w.alloc (.cells (r.cs h n sh) 32)) _
  refine (HLv.out _).mono ?_
  rintro e w1 ⟨rfl, hb1⟩
  have k1 := (hb1.block w.heap.size (by simp)).trans (HA.out _)
  have HB1 : Hid (Below w.heap.size w w1) := ((Below.refl _ _).alloc (Nat.le_refl _) _).trans (hb1.mono (by simp))
  have HK1 : Hid (w1.heap[w.heap.size]? = some (.cells (r.cs h n sh) 32)) := k1
  have e0 : w1.cell? ⟨w.heap.size, 0, none⟩ = some (.int .i64 h) := by rw [cell_of_row _ _ 0 _ _ _ k1]; rfl
  have e1 : w1.cell? ⟨w.heap.size, 1, none⟩ = some (.int .i64 n) := by rw [cell_of_row _ _ 1 _ _ _ k1]; rfl
  have e10 : w1.cell? ⟨w.heap.size, 10, none⟩ = some (.bool r.ld) := by rw [cell_of_row _ _ 10 _ _ _ k1]; rfl
  have e12 : w1.cell? ⟨w.heap.size, 12, none⟩ = some (.int .i64 r.pa) := by rw [cell_of_row _ _ 12 _ _ _ k1]; rfl
  have z0 : w1.frozen? ⟨w.heap.size, 0, none⟩ = false := frozen_of_row _ _ 0 _ _ k1
  have z1 : w1.frozen? ⟨w.heap.size, 1, none⟩ = false := frozen_of_row _ _ 1 _ _ k1
  have z10 : w1.frozen? ⟨w.heap.size, 10, none⟩ = false := frozen_of_row _ _ 10 _ _ k1
  have z12 : w1.frozen? ⟨w.heap.size, 12, none⟩ = false := frozen_of_row _ _ 12 _ _ k1
  have HLD : Hid (∀ X, (loadVar 32 ⟨w.heap.size, 0, none⟩).run Try.prog ((((w1.setCell ⟨w.heap.size, 0, none⟩ (.int .i64 0)).setCell ⟨w.heap.size, 1, none⟩ (.int .i64 X)).setCell ⟨w.heap.size, 10, none⟩ (.bool false)).setCell ⟨w.heap.size, 12, none⟩ (.int .i64 0)) = .ok (.agg (({ r with pa := 0, ld := false } : Sr).cs 0 X sh)) ((((w1.setCell ⟨w.heap.size, 0, none⟩ (.int .i64 0)).setCell ⟨w.heap.size, 1, none⟩ (.int .i64 X)).setCell ⟨w.heap.size, 10, none⟩ (.bool false)).setCell ⟨w.heap.size, 12, none⟩ (.int .i64 0))) := fun X => sp_ld _ 0 X sh (set4 r h n sh X _ w1 _ k1).1
  clear hb1 HLv HA k1
  go_wp2_with ((with_reducible refine ldr ?_ ?_ (HLD.out _) ?_); rfl; rfl)
  obtain ⟨s1, s2⟩ := set4 r h n sh (bits .or .i64 n 8) w.heap.size w1 _ HK1.out
  generalize (((w1.setCell ⟨w.heap.size, 0, none⟩ (.int .i64 0)).setCell ⟨w.heap.size, 1, none⟩ (.int .i64 (bits .or .i64 n 8))).setCell ⟨w.heap.size, 10, none⟩ (.bool false)).setCell ⟨w.heap.size, 12, none⟩ (.int .i64 0) = w2 at s1 s2 ⊢
  refine (madeG_any ({ r with pa := 0, ld := false } : Sr) (bits .or .i64 n 8) sh w2).mono ?_
  rintro e w4 ⟨n', hn', hl', T, v, c, d, rfl, hb4, hc4, hA, hT, hC, hDx⟩
  have hbit : n'.testBit 3 = true := fit_or n 3 (.inr rfl) n' hn'
  have hD := hDx.2 hbit
  have hG := Cl_core hC
  have hcl := hG.lt
  have hsw := s2.size
  have hwc : w.heap.size ≤ c := Nat.le_trans (Nat.le_trans HB1.out.size hsw) hc4
  have hpl : w.heap.size < w2.heap.size := (Array.getElem?_eq_some_iff.1 s1).1
  have hb5 : Below w4.heap.size w4 (w4.alloc (Obj.cells #[.iface T v, .pointer (some ⟨c, 0, none⟩), .pointer (some ⟨d, 0, none⟩)] 39)) := (Below.refl _ _).alloc (Nat.le_refl _) _
  have HB5 : Hid (Below w.heap.size w (w4.alloc (Obj.cells #[.iface T v, .pointer (some ⟨c, 0, none⟩), .pointer (some ⟨d, 0, none⟩)] 39))) := (((HB1.out.trans s2).trans (hb4.mono (Nat.le_trans HB1.out.size hsw))).trans (hb5.mono (Nat.le_trans (Nat.le_trans HB1.out.size hsw) hb4.size)))
  have q5 : (w4.alloc (Obj.cells #[.iface T v, .pointer (some ⟨c, 0, none⟩), .pointer (some ⟨d, 0, none⟩)] 39)).heap[w4.heap.size]? = some (Obj.cells #[.iface T v, .pointer (some ⟨c, 0, none⟩), .pointer (some ⟨d, 0, none⟩)] 39) := heap_alloc_last _ _
  have HP5 : Hid (St r (bits .or .i64 n 8) sh T v c d w.heap.size w4.heap.size (w4.alloc (Obj.cells #[.iface T v, .pointer (some ⟨c, 0, none⟩), .pointer (some ⟨d, 0, none⟩)] 39)) (w4.alloc (Obj.cells #[.iface T v, .pointer (some ⟨c, 0, none⟩), .pointer (some ⟨d, 0, none⟩)] 39)) 0) :=
    ⟨by have := hG.keep (hb5.block c hcl); simpa [ldA, bA] using this, hD.keep (fun j _ h2 => hb5.block j h2) hb5.size, q5, (hb5.block _ (Nat.lt_of_lt_of_le hpl hb4.size)).trans ((hb4.block _ hpl).trans s1), Kc.refl _ _⟩
  have HX : Hid (Ab T n' ∧ n'.testBit 3 = true ∧ T ≠ 55 ∧ w.heap.size < c ∧ c < w4.heap.size) := ⟨hA, hbit, hT, by omega, hcl⟩
  have HLo : Hid (∀ W i, St r (bits .or .i64 n 8) sh T v c d w.heap.size w4.heap.size (w4.alloc (Obj.cells #[.iface T v, .pointer (some ⟨c, 0, none⟩), .pointer (some ⟨d, 0, none⟩)] 39)) W i → i < 50 → Calls Try.prog 12 #[.iface T v] W fun e w' => e = .returned (.int .i64 r.lo) ∧ St r (bits .or .i64 n 8) sh T v c d w.heap.size w4.heap.size (w4.alloc (Obj.cells #[.iface T v, .pointer (some ⟨c, 0, none⟩), .pointer (some ⟨d, 0, none⟩)] 39)) w' (i + 1)) := by
    intro W i ⟨g1, g2, g3, g4, g5⟩ hi
    refine (LoadO_any T n' v c r.lo (ldA r.lo i) i (bA r.lo i) (by omega) (by have := bA_le r.lo i; omega) W HX.out.1 HX.out.2.1 HX.out.2.2.1 g2 g1).mono ?_
    rintro e w' ⟨rfl, f1, f2⟩
    rw [nLd_A, nB_A] at f1
    have hqc := HX.out.2.2.2
    exact ⟨by rw [nR_A], f1, g2.keep f2.kp f2.size, (f2.block _ (Array.getElem?_eq_some_iff.1 g3).1 (by omega)).trans g3, (f2.block _ (Array.getElem?_eq_some_iff.1 g4).1 (by omega)).trans g4, g5.trans f2⟩
  clear s1 s2 hn' hl' hb4 hc4 hA hT hC hDx hbit hD hG hcl hwc hb5 q5 e0 e1 e10 e12 z0 z1 z10 z12 HLD HB1 HK1 hsw hpl
  have hN : ((t : Int)).tmod 20 = ((t % 20 : Nat) : Int) := by rw [Int.tmod_eq_emod_of_nonneg (by omega)]; omega
  go_wp2_with fail
  clear hN
  generalize hNN : ((t : Int) % 20) = NN
  obtain ⟨N, rfl, HNN⟩ : ∃ N : Nat, NN = (N : Int) ∧ Hid (N < 20) := ⟨NN.toNat, by omega, by show _ < _; omega⟩
  clear hNN
  go_loopw [7] (fun x wr => ∃ i : Nat, x = .int .i64 (i : Int) ∧ i ≤ N ∧ Hid (St r (bits .or .i64 n 8) sh T v c d w.heap.size w4.heap.size (w4.alloc (Obj.cells #[.iface T v, .pointer (some ⟨c, 0, none⟩), .pointer (some ⟨d, 0, none⟩)] 39)) wr i)) (fun x _ => N - (intOf x).toNat)
  case atStart => exact ⟨0, rfl, Nat.zero_le _, HP5.out⟩
  case round =>
    obtain ⟨i, rfl, hi, HI⟩ := hrel
    clear HP5
    rcases Nat.lt_or_ge i N with hlt | hge
    · have hi1 : (i : Int) < (N : Int) := by omega
      have x0 : wr.cell? ⟨w4.heap.size, 0, none⟩ = some (.iface T v) := by rw [cell_of_row _ _ 0 _ _ _ HI.out.2.2.1]; rfl
      have x11 : wr.cell? ⟨w.heap.size, 11, none⟩ = some (.int .i64 r.lo) := by rw [cell_of_row _ _ 11 _ _ _ HI.out.2.2.2.1]; rfl
      have HLn : Hid (i < 50) := by have := HNN.out; show _ < _; omega
      have hw1 : IntKind.i64.wrap ((i : Int) + 1) = ((i + 1 : Nat) : Int) := by rw [IntKind.wrap_i64]; have := HLn.out; omega
      go_wp2_with fail
      go_region_held3 (fun W => W.cell? ⟨w4.heap.size, 0, none⟩ = some (.iface T v) ∧ W.cell? ⟨w.heap.size, 11, none⟩ = some (.int .i64 r.lo))
        (first | exact HRd.out | exact ⟨x0, x11⟩)
        ((go_at_call 12; refine (HLo.out wr.drew i (HI.out.same (W := wr.drew) rfl rfl rfl rfl) HLn.out).mono ?_; rintro e w' ⟨rfl, hst⟩; have HI1 : Hid (St r (bits .or .i64 n 8) sh T v c d w.heap.size w4.heap.size (w4.alloc (Obj.cells #[.iface T v, .pointer (some ⟨c, 0, none⟩), .pointer (some ⟨d, 0, none⟩)] 39)) w' (i + 1)) := hst; have HRd : Hid (w'.cell? ⟨w4.heap.size, 0, none⟩ = some (.iface T v) ∧ w'.cell? ⟨w.heap.size, 11, none⟩ = some (.int .i64 r.lo)) := hst.read; clear hst))
      clear x0 x11 HI
      go_wp2_with fail
      exact ⟨⟨i + 1, by simp, by omega, HI1.out⟩, by simp [intOf]; omega⟩
    · have hiN : i = N := by omega
      subst hiN
      have hi1 : ¬ ((i : Int) < (i : Int)) := by omega
      have x11 : wr.cell? ⟨w.heap.size, 11, none⟩ = some (.int .i64 r.lo) := HI.out.read.2
      have x1 : wr.cell? ⟨w4.heap.size, 1, none⟩ = some (.pointer (some ⟨c, 0, none⟩)) := by rw [cell_of_row _ _ 1 _ _ _ HI.out.2.2.1]; rfl
      obtain ⟨cs, hcs, hsz, h10, h11, h12, hz, h21, h22⟩ := HI.out.1
      have y0 : wr.cell? ⟨c, 14, none⟩ = some (.int .i64 0) := by rw [cell_of_row _ _ 14 _ _ _ hcs]; exact hz 14 (by omega) (by omega)
      have y1 : wr.cell? ⟨c, 15, none⟩ = some (.int .i64 0) := by rw [cell_of_row _ _ 15 _ _ _ hcs]; exact hz 15 (by omega) (by omega)
      have y2 : wr.cell? ⟨c, 16, none⟩ = some (.int .i64 0) := by rw [cell_of_row _ _ 16 _ _ _ hcs]; exact hz 16 (by omega) (by omega)
      have y3 : wr.cell? ⟨c, 17, none⟩ = some (.int .i64 0) := by rw [cell_of_row _ _ 17 _ _ _ hcs]; exact hz 17 (by omega) (by omega)
      have y4 : wr.cell? ⟨c, 18, none⟩ = some (.int .i64 0) := by rw [cell_of_row _ _ 18 _ _ _ hcs]; exact hz 18 (by omega) (by omega)
      have y5 : wr.cell? ⟨c, 19, none⟩ = some (.int .i64 0) := by rw [cell_of_row _ _ 19 _ _ _ hcs]; exact hz 19 (by omega) (by omega)
      have y6 : wr.cell? ⟨c, 20, none⟩ = some (.int .i64 0) := by rw [cell_of_row _ _ 20 _ _ _ hcs]; exact hz 20 (by omega) (by omega)
      have y7 : wr.cell? ⟨c, 21, none⟩ = some (.int .i64 (i : Int)) := by rw [cell_of_row _ _ 21 _ _ _ hcs]; exact h21
      have y8 : wr.cell? ⟨c, 22, none⟩ = some (.int .i64 (bA r.lo i : Int)) := by rw [cell_of_row _ _ 22 _ _ _ hcs]; exact h22
      clear hcs hsz h10 h11 h12 hz h21 h22 cs
      have KA : ∀ (b : Nat) (o : Nat) (u : Value) (X : Obj), wr.cell? ⟨b, o, none⟩ = some u → (wr.alloc X).cell? ⟨b, o, none⟩ = some u := fun b o u X hu => by rw [((Below.refl wr.heap.size wr).alloc (Nat.le_refl _) X).cell (p := ⟨b, o, none⟩) (World.block_lt_of_cell? _ _ hu)]; exact hu
      have x11a := fun X => KA _ _ _ X x11
      have x1a := fun X => KA _ _ _ X x1
      have y0a := fun X => KA _ _ _ X y0
      have y1a := fun X => KA _ _ _ X y1
      have y2a := fun X => KA _ _ _ X y2
      have y3a := fun X => KA _ _ _ X y3
      have y4a := fun X => KA _ _ _ X y4
      have y5a := fun X => KA _ _ _ X y5
      have y6a := fun X => KA _ _ _ X y6
      have y7a := fun X => KA _ _ _ X y7
      have HFin : Hid (Below w.heap.size w wr) := HB5.out.trans (HI.out.2.2.2.2.below (Nat.le_of_lt HX.out.2.2.2.1) (by have := HX.out.2.2.2; simp; omega))
      by_cases hlo : r.lo = 0
      · by_cases h1 : 1 < i
        · have hb8 : bA r.lo i = 1 := by simp [bA, hlo]; omega
          rw [hb8] at y8
          rw [hlo] at x11a
          have hgt : (1 : Int) < (i : Int) := by omega
          have y8a := fun X => KA _ _ _ X y8
          have hq : ∀ W, (binOp .eql 43 (.agg #[.int .i64 0, .int .i64 0, .int .i64 0, .int .i64 0, .int .i64 0, .int .i64 0, .int .i64 0, .int .i64 (i : Int), .int .i64 1]) (.agg #[.int .i64 0, .int .i64 0, .int .i64 0, .int .i64 0, .int .i64 0, .int .i64 0, .int .i64 0, .int .i64 (i : Int), .int .i64 1])).run Try.prog W = .ok (.bool true) W := fun W => (eq_calls i HNN.out W).2.1
          have hg : ∀ (x y : Operand) W, (eqGuard .eql 43 x y (.agg #[.int .i64 0, .int .i64 0, .int .i64 0, .int .i64 0, .int .i64 0, .int .i64 0, .int .i64 0, .int .i64 (i : Int), .int .i64 1]) (.agg #[.int .i64 0, .int .i64 0, .int .i64 0, .int .i64 0, .int .i64 0, .int .i64 0, .int .i64 0, .int .i64 (i : Int), .int .i64 1])).run Try.prog W = .ok () W := fun x y W => (eq_calls i HNN.out W).2.2.2 x y
          clear KA
          go_wp2_with fail
          go_quiet (fail)
          go_wp2_with fail
          go_ret
          exact ⟨rfl, bel_drewN (HFin.out.alloc HFin.out.size _)⟩
        · have hb8 : bA r.lo i = i := by simp [bA, hlo]; omega
          rw [hb8] at y8
          rw [hlo] at x11a
          have hgt : ¬ (1 : Int) < (i : Int) := by omega
          have y8a := fun X => KA _ _ _ X y8
          have hq : ∀ W, (binOp .eql 43 (.agg #[.int .i64 0, .int .i64 0, .int .i64 0, .int .i64 0, .int .i64 0, .int .i64 0, .int .i64 0, .int .i64 (i : Int), .int .i64 (i : Int)]) (.agg #[.int .i64 0, .int .i64 0, .int .i64 0, .int .i64 0, .int .i64 0, .int .i64 0, .int .i64 0, .int .i64 (i : Int), .int .i64 (i : Int)])).run Try.prog W = .ok (.bool true) W := fun W => (eq_calls i HNN.out W).1
          have hg : ∀ (x y : Operand) W, (eqGuard .eql 43 x y (.agg #[.int .i64 0, .int .i64 0, .int .i64 0, .int .i64 0, .int .i64 0, .int .i64 0, .int .i64 0, .int .i64 (i : Int), .int .i64 (i : Int)]) (.agg #[.int .i64 0, .int .i64 0, .int .i64 0, .int .i64 0, .int .i64 0, .int .i64 0, .int .i64 0, .int .i64 (i : Int), .int .i64 (i : Int)])).run Try.prog W = .ok () W := fun x y W => (eq_calls i HNN.out W).2.2.1 x y
          clear KA
          go_wp2_with fail
          go_quiet (fail)
          go_wp2_with fail
          go_ret
          exact ⟨rfl, bel_drewN (HFin.out.alloc HFin.out.size _)⟩
      · have hb8 : bA r.lo i = i := by simp [bA, hlo]
        rw [hb8] at y8
        have bl : (r.lo == 0) = false := by simp [hlo]
        clear hlo
        have y8a := fun X => KA _ _ _ X y8
        have hq : ∀ W, (binOp .eql 43 (.agg #[.int .i64 0, .int .i64 0, .int .i64 0, .int .i64 0, .int .i64 0, .int .i64 0, .int .i64 0, .int .i64 (i : Int), .int .i64 (i : Int)]) (.agg #[.int .i64 0, .int .i64 0, .int .i64 0, .int .i64 0, .int .i64 0, .int .i64 0, .int .i64 0, .int .i64 (i : Int), .int .i64 (i : Int)])).run Try.prog W = .ok (.bool true) W := fun W => (eq_calls i HNN.out W).1
        have hg : ∀ (x y : Operand) W, (eqGuard .eql 43 x y (.agg #[.int .i64 0, .int .i64 0, .int .i64 0, .int .i64 0, .int .i64 0, .int .i64 0, .int .i64 0, .int .i64 (i : Int), .int .i64 (i : Int)]) (.agg #[.int .i64 0, .int .i64 0, .int .i64 0, .int .i64 0, .int .i64 0, .int .i64 0, .int .i64 0, .int .i64 (i : Int), .int .i64 (i : Int)])).run Try.prog W = .ok () W := fun x y W => (eq_calls i HNN.out W).2.2.1 x y
        clear KA
        go_wp2_with fail
        go_quiet (fail)
        go_wp2_with fail
        go_ret
        exact ⟨rfl, bel_drewN (HFin.out.alloc HFin.out.size _)⟩
end Go.Proofs.Ytbjjeleoimcboaa

