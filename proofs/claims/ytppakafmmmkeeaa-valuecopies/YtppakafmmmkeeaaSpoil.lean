/- tenonmake.Spoil and spoilt: whatever a value holds is written over, and nothing else. -/
import Derived.Test.YtppakafmmmkeeaaDg
import Derived.Test.YtppakafmmmkeeaaBuilt2
namespace Go.Proofs.Ytppakafmmmkeeaa
open Go.RowKit

/-- the contract of Spoil at values at most n deep -/
def SpC (n : Nat) : Prop := ∀ (v : Value) (B : Nat → Prop) (w : World), Ws w B n v → Sub B w → Calls Try.prog 21 #[v] w fun e w' => e = .returned (.tuple #[]) ∧ Dg B w w'

set_option maxRecDepth 100000 in
set_option maxHeartbeats 400000 in
theorem spoil_lf (v : Value) (h : Lf v) (B : Nat → Prop) (w : World) : Calls Try.prog 21 #[v] w fun e w' => e = .returned (.tuple #[]) ∧ Dg B w w' := by
  rcases h with rfl | ⟨T, x, rfl, h1, h2, h3, h4⟩ | rfl
  · go_enter Try.func21, Try.ntmps21
    go_wp2_with fail
    go_end0
    exact ⟨rfl, Dg.refl _ _⟩
  · go_enter Try.func21, Try.ntmps21
    go_wp2_with fail
    go_end0
    exact ⟨rfl, Dg.refl _ _⟩
  · go_enter Try.func21, Try.ntmps21
    go_wp2_with fail
    go_end0
    exact ⟨rfl, Dg.refl _ _⟩

theorem wrap_u8_fits (j : Nat) (b : Int) : Fits 5 j (.int .u8 (IntKind.u8.wrap b)) := .inr (.inl ⟨rfl, _, rfl, by rw [IntKind.wrap_u8]; omega, by rw [IntKind.wrap_u8]; omega⟩)
theorem row_cell {w : World} {g : Nat} {cur : Array Value} {e : TypeId} {j : Nat} {x : Value} (h : w.heap[g]? = some (.cells cur e (0, 0))) (hx : cur[j]? = some x) : w.cell? ⟨g, j, none⟩ = some x ∧ w.frozen? ⟨g, j, none⟩ = false :=
  ⟨by rw [cell_of_row _ _ j _ _ _ h]; exact hx, frozen_of_row _ _ j _ _ h⟩
theorem Dg.alloc {B : Nat → Prop} {w0 w : World} (h : Dg B w0 w) (hB : Sub B w0) (o : Obj) : Dg B w0 (w.alloc o) := h.trans (Dg.of_below ((Below.refl _ _).alloc (Nat.le_refl _) _) (h.sub hB))
/-- what the loops that append carry -/
structure Grw (B : Nat → Prop) (w wr : World) (e : TypeId) (size : Nat) (v : Value) (n : Nat) (xs : List Value) : Prop where
  own : wr.ownsRow 0 e size v n xs
  blk : ∀ q, v.ownBlock = some q → B q ∨ w.heap.size ≤ q
  dg : Dg B w wr
theorem Grw.step {B : Nat → Prop} {w wr w3 : World} {e : TypeId} {size : Nat} {v v' : Value} {n : Nat} {xs ys : List Value} {o : Obj} {g cap : Nat} (h : Grw B w wr e size v n xs) (hB : Sub B w) (hv : v' = .slice (some ⟨g, 0, none⟩) (n + 1) cap) (ho : w3.ownsRow 0 e size v' (n + 1) ys) (hor : v.ownBlock = some g ∨ (wr.alloc o).heap.size ≤ g)
    (hd : ∀ (B : Nat → Prop) (w0 : World), Dg B w0 (wr.alloc o) → (∀ k, v.ownBlock = some k → B k ∨ w0.heap.size ≤ k) → Sub B w0 → Dg B w0 w3) : Grw B w w3 e size v' (n + 1) ys := by
  refine ⟨ho, fun q hq => ?_, hd B w (h.dg.alloc hB o) h.blk hB⟩
  subst hv
  simp only [Value.ownBlock, Option.some.injEq] at hq
  subst hq
  rcases hor with h1 | h1
  · exact h.blk g h1
  · right; have := h.dg.size; simp at h1; omega

set_option maxRecDepth 100000 in
set_option maxHeartbeats 1000000 in
theorem spoil_bytes (a : Option Addr) (len cap : Nat) (B : Nat → Prop) (w : World) (hlen : len ≤ 65536) (h : Rowk w B 5 1 a len cap isU8) (hB : Sub B w) :
    Calls Try.prog 21 #[.iface 23 (.slice a len cap)] w fun e w' => e = .returned (.tuple #[]) ∧ Dg B w w' := by
  obtain ⟨i0, hi, hz0, hz1, hz2⟩ := info_parts Try.infoB
  have HR0 : Hid (∀ W, Dg B w W → Rowk W B 5 1 a len cap isU8) := fun W hW => h.dg hW (fun _ _ h => h) (fun _ _ h => fits_u8 h)
  have HB : Hid (Sub B w) := hB
  clear h hB
  go_enter Try.func21, Try.ntmps21
  go_wp2_with fail
  go_loopw [3] (fun x wr => ∃ k : Nat, x = .int .i64 k ∧ k ≤ len ∧ Hid (Dg B w wr)) (fun x _ => len - (intOf x).toNat)
  case atStart => exact ⟨0, rfl, by omega, Dg.refl _ _⟩
  case round =>
    obtain ⟨k, rfl, hk, HD⟩ := hrel
    have hi0 : (0 : Int) ≤ (k : Int) := Int.natCast_nonneg _
    by_cases hkl : k < len
    · have hi1 : (k : Int) < (len : Int) := by omega
      rcases HR0.out wr HD.out with ⟨_, rfl, _⟩ | ⟨g, cur, rfl, h2, h3, h4, h5, h6, h7⟩
      · omega
      · obtain ⟨x, hx, b, rfl, hb0, hb1⟩ := h7 k (by omega)
        obtain ⟨c0, f0⟩ := row_cell h3 hx
        have HN : Hid (∀ y, Dg B w (wr.setCell ⟨g, k, none⟩ (.int .u8 (IntKind.u8.wrap y)))) := fun y => HD.out.trans (Dg.set h2 h3 (wrap_u8_fits k y))
        clear h2 h3 h4 h5 h6 h7 hx
        go_wp2_with fail
        go_roundw
        case rel => exact ⟨k + 1, by go_num, by omega, by first | exact HN.out _ | (rw [show b + 1 = _ from rfl]; exact HN.out _)⟩
        case measure => simp [intOf]; omega
    · have hi1 : ¬ ((k : Int) < (len : Int)) := by omega
      obtain ⟨xs, hxs⟩ := (HR0.out wr HD.out).owns
      have HG0 : Hid (Grw B w wr 5 1 (.slice a (len + 0) cap) (len + 0) xs) := ⟨hxs, fun q hq => .inl ((HR0.out wr HD.out).own q hq), HD.out⟩
      clear hxs
      go_wp2_with fail
      go_loopw [2, 4] (fun v x wr => ∃ (k : Nat) (a' : Option Addr) (cap' : Nat) (ys : List Value), v = .slice a' (len + k) cap' ∧ x = .int .i64 k ∧ k ≤ 20 ∧ Hid (Grw B w wr 5 1 (.slice a' (len + k) cap') (len + k) ys)) (fun _ x _ => 20 - (intOf x).toNat)
      case atStart => exact ⟨0, a, cap, xs, rfl, rfl, by omega, HG0.out⟩
      case round =>
        obtain ⟨k', a', cap', ys, rfl, rfl, hk', HG⟩ := hrel
        have hi0' : (0 : Int) ≤ (k' : Int) := Int.natCast_nonneg _
        by_cases hkl' : k' < 20
        · have hi1' : (k' : Int) < 20 := by omega
          go_wp2_with (at_builtin; refine wpList_app2 _ rfl _ _ 23 rfl 5 i0 (.int .u8 0) 1 1 Try.undB hi hz0 hz1 hz2 rfl (by decide) _ _ ys rfl (HG.out.own.alloc _) ⟨wr.heap.size, 0, none⟩ 1 1 [.int .u8 7] rfl rfl (cell_one_new _ _ _) (fun u hu => by simp at hu; subst hu; rfl) (by decide) (by unfold maxLen; omega) (by omega) (fun j u hu => .inr (.inl ⟨rfl, by cases j <;> simp at hu; exact ⟨7, hu.symm, by decide, by decide⟩⟩)) ?_; intro g' cap2 w3 hown' hor hdg)
          have HN := HG.out.step HB.out rfl hown' hor hdg
          clear hown' hor hdg
          go_roundw
          case rel => exact ⟨k' + 1, some ⟨g', 0, none⟩, cap2, _, rfl, by go_num, by omega, HN⟩
          case measure => simp [intOf]; omega
        · have hi1' : ¬ ((k' : Int) < 20) := by omega
          go_wp2_with fail
          go_end0
          exact ⟨rfl, HG.out.dg⟩
end Go.Proofs.Ytppakafmmmkeeaa
