/- tenonmake.Spoil and spoilt: whatever a value holds is written over, and nothing else. -/
import Derived.Test.YtkomcebknllaiaaL37
import Derived.Test.YtkomcebknllaiaaL4
import Derived.Test.YtkomcebknllaiaaL6
import Derived.Test.YtkomcebknllaiaaL1
import Derived.Test.YtkomcebknllaiaaL2
import Derived.Test.YtkomcebknllaiaaL23
namespace Go.Proofs.Ytkomcebknllaiaa
open Go.RowKit

/-- the contract of Spoil at values at most n deep -/
def SpC (n : Nat) : Prop := ∀ (v : Value) (B : Nat → Prop) (w : World), Ws w B n v → Sub B w → Calls Try.prog 16 #[v] w fun e w' => e = .returned (.tuple #[]) ∧ Dg B w w'

set_option maxRecDepth 100000 in
set_option maxHeartbeats 400000 in
theorem spoil_lf (v : Value) (h : Lf v) (B : Nat → Prop) (w : World) : Calls Try.prog 16 #[v] w fun e w' => e = .returned (.tuple #[]) ∧ Dg B w w' := by
  rcases h with rfl | ⟨T, x, rfl, h1, h2, h3, h4⟩ | rfl
  · go_enter Try.func16, Try.ntmps16
    go_wp2_with fail
    go_end0
    exact ⟨rfl, Dg.refl _ _⟩
  · go_enter Try.func16, Try.ntmps16
    go_wp2_with fail
    go_end0
    exact ⟨rfl, Dg.refl _ _⟩
  · go_enter Try.func16, Try.ntmps16
    go_wp2_with fail
    go_end0
    exact ⟨rfl, Dg.refl _ _⟩

theorem wrap_u8_fits (j : Nat) (b : Int) : Fits 5 j (.int .u8 (IntKind.u8.wrap b)) := .inr (.inl ⟨rfl, _, rfl, by rw [IntKind.wrap_u8]; omega, by rw [IntKind.wrap_u8]; omega⟩)
theorem row_cell {w : World} {g : Nat} {cur : Array Value} {e : TypeId} {j : Nat} {x : Value} (h : w.heap[g]? = some (.cells cur e (0, 0))) (hx : cur[j]? = some x) : w.cell? ⟨g, j, none⟩ = some x ∧ w.frozen? ⟨g, j, none⟩ = false :=
  ⟨by rw [cell_of_row _ _ j _ _ _ h]; exact hx, frozen_of_row _ _ j _ _ h⟩
theorem Dg.alloc {B : Nat → Prop} {w0 w : World} (h : Dg B w0 w) (hB : Sub B w0) (o : Obj) : Dg B w0 (w.alloc o) := h.trans (Dg.of_below ((Below.refl _ _).alloc (Nat.le_refl _) _) (h.sub hB))
/-- what the loops that append carry -/
structure Grw (B : Nat → Prop) (w wr : World) (e : TypeId) (size : Nat) (v : Value) (n : Nat) (xs : List Value) : Prop where
  own : wr.ownsRow 0 e size v n xs
  blk : ∀ q, v.ownBlock = some q → B q ∨ w.heap.size ≤ q
  dg : Dg B w wr
theorem Grw.step {B : Nat → Prop} {w wr w3 : World} {e : TypeId} {size : Nat} {v v' : Value} {n : Nat} {xs ys : List Value} {o : Obj} {g cap : Nat} (h : Grw B w wr e size v n xs) (hB : Sub B w) (hv : v' = .slice (some ⟨g, 0, none⟩) (n + 1) cap) (ho : w3.ownsRow 0 e size v' (n + 1) ys) (hor : v.ownBlock = some g ∨ (wr.alloc o).heap.size ≤ g)
    (hd : ∀ (B : Nat → Prop) (w0 : World), Dg B w0 (wr.alloc o) → (∀ k, v.ownBlock = some k → B k ∨ w0.heap.size ≤ k) → Sub B w0 → Dg B w0 w3) : Grw B w w3 e size v' (n + 1) ys := by
  refine ⟨ho, fun q hq => ?_, hd B w (h.dg.alloc hB o) h.blk hB⟩
  subst hv
  simp only [Value.ownBlock, Option.some.injEq] at hq
  subst hq
  rcases hor with h1 | h1
  · exact h.blk g h1
  · right; have := h.dg.size; simp at h1; omega

set_option maxRecDepth 100000 in
set_option maxHeartbeats 1000000 in
theorem spoil_bytes (a : Option Addr) (len cap : Nat) (B : Nat → Prop) (w : World) (hlen : len ≤ 65536) (h : Rowk w B 5 1 a len cap isU8) (hB : Sub B w) :
    Calls Try.prog 16 #[.iface 23 (.slice a len cap)] w fun e w' => e = .returned (.tuple #[]) ∧ Dg B w w' := by
  obtain ⟨i0, hi, hz0, hz1, hz2⟩ := info_parts Try.infoB
  have HR0 : Hid (∀ W, Dg B w W → Rowk W B 5 1 a len cap isU8) := fun W hW => h.dg hW (fun _ _ h => h) (fun _ _ h => fits_u8 h)
  have HB : Hid (Sub B w) := hB
  clear h hB
  go_enter Try.func16, Try.ntmps16
  go_wp2_with fail
  go_loopw [3] (fun x wr => ∃ k : Nat, x = .int .i64 k ∧ k ≤ len ∧ Hid (Dg B w wr)) (fun x _ => len - (intOf x).toNat)
  case atStart => exact ⟨0, rfl, by omega, Dg.refl _ _⟩
  case round =>
    obtain ⟨k, rfl, hk, HD⟩ := hrel
    have hi0 : (0 : Int) ≤ (k : Int) := Int.natCast_nonneg _
    by_cases hkl : k < len
    · have hi1 : (k : Int) < (len : Int) := by omega
      rcases HR0.out wr HD.out with ⟨_, rfl, _⟩ | ⟨g, cur, rfl, h2, h3, h4, h5, h6, h7⟩
      · omega
      · obtain ⟨x, hx, b, rfl, hb0, hb1⟩ := h7 k (by omega)
        obtain ⟨c0, f0⟩ := row_cell h3 hx
        have HN : Hid (∀ y, Dg B w (wr.setCell ⟨g, k, none⟩ (.int .u8 (IntKind.u8.wrap y)))) := fun y => HD.out.trans (Dg.set h2 h3 (wrap_u8_fits k y))
        clear h2 h3 h4 h5 h6 h7 hx
        go_wp2_with fail
        go_roundw
        case rel => exact ⟨k + 1, by go_num, by omega, by first | exact HN.out _ | (rw [show b + 1 = _ from rfl]; exact HN.out _)⟩
        case measure => simp [intOf]; omega
    · have hi1 : ¬ ((k : Int) < (len : Int)) := by omega
      obtain ⟨xs, hxs⟩ := (HR0.out wr HD.out).owns
      have HG0 : Hid (Grw B w wr 5 1 (.slice a (len + 0) cap) (len + 0) xs) := ⟨hxs, fun q hq => .inl ((HR0.out wr HD.out).own q hq), HD.out⟩
      clear hxs
      go_wp2_with fail
      go_loopw [2, 4] (fun v x wr => ∃ (k : Nat) (a' : Option Addr) (cap' : Nat) (ys : List Value), v = .slice a' (len + k) cap' ∧ x = .int .i64 k ∧ k ≤ 20 ∧ Hid (Grw B w wr 5 1 (.slice a' (len + k) cap') (len + k) ys)) (fun _ x _ => 20 - (intOf x).toNat)
      case atStart => exact ⟨0, a, cap, xs, rfl, rfl, by omega, HG0.out⟩
      case round =>
        obtain ⟨k', a', cap', ys, rfl, rfl, hk', HG⟩ := hrel
        have hi0' : (0 : Int) ≤ (k' : Int) := Int.natCast_nonneg _
        by_cases hkl' : k' < 20
        · have hi1' : (k' : Int) < 20 := by omega
          go_wp2_with (at_builtin; refine wpList_app2 _ rfl _ _ 23 rfl 5 i0 (.int .u8 0) 1 1 Try.undB hi hz0 hz1 hz2 rfl (by decide) _ _ ys rfl (HG.out.own.alloc _) ⟨wr.heap.size, 0, none⟩ 1 1 [.int .u8 7] rfl rfl (cell_one_new _ _ _) (fun u hu => by simp at hu; subst hu; rfl) (by decide) (by unfold maxLen; omega) (by omega) (fun j u hu => .inr (.inl ⟨rfl, by cases j <;> simp at hu; exact ⟨7, hu.symm, by decide, by decide⟩⟩)) ?_; intro g' cap2 w3 hown' hor hdg)
          have HN := HG.out.step HB.out rfl hown' hor hdg
          clear hown' hor hdg
          go_roundw
          case rel => exact ⟨k' + 1, some ⟨g', 0, none⟩, cap2, _, rfl, by go_num, by omega, HN⟩
          case measure => simp [intOf]; omega
        · have hi1' : ¬ ((k' : Int) < 20) := by omega
          go_wp2_with fail
          go_end0
          exact ⟨rfl, HG.out.dg⟩
end Go.Proofs.Ytkomcebknllaiaa

/- tenonmake.Spoil at lists; spoilt; Spoil at dicts and records, and at whatever value. -/
namespace Go.Proofs.Ytkomcebknllaiaa
open Go.RowKit

theorem lf_int (i : Int) : Lf (.iface 2 (.int .i64 i)) := .inr (.inl ⟨_, _, rfl, by decide, by decide, by decide, by decide⟩)
theorem lf_bool (b : Bool) : Lf (.iface 4 (.bool b)) := .inr (.inl ⟨_, _, rfl, by decide, by decide, by decide, by decide⟩)

set_option maxRecDepth 100000 in
set_option maxHeartbeats 1000000 in
theorem spoil_list (n : Nat) (HC : SpC n) (a : Option Addr) (len cap : Nat) (B : Nat → Prop) (w : World) (hlen : len ≤ 4096) (h : Rowk w B 20 1 a len cap (fun _ x => Ws w B n x ∧ Shp x)) (hB : Sub B w) :
    Calls Try.prog 16 #[.iface 71 (.slice a len cap)] w fun e w' => e = .returned (.tuple #[]) ∧ Dg B w w' := by
  obtain ⟨i0, hi, hz0, hz1, hz2⟩ := info_parts Try.infoI
  have HR0 : Hid (∀ W, Dg B w W → Rowk W B 20 1 a len cap (fun _ x => Ws W B n x ∧ Shp x)) := fun W hW => h.dg hW (fun _ x h => ⟨Ws.dg hW n x h.1, h.2⟩) (fun _ _ h => fits_list h)
  have HB : Hid (Sub B w) := hB
  have HCH : Hid (SpC n) := HC
  clear h hB HC
  go_enter Try.func16, Try.ntmps16
  go_wp2_with fail
  go_loopw [6] (fun x wr => ∃ k : Nat, x = .int .i64 k ∧ k ≤ len ∧ Hid (Dg B w wr)) (fun x _ => len - (intOf x).toNat)
  case atStart => exact ⟨0, rfl, by omega, Dg.refl _ _⟩
  case round =>
    obtain ⟨k, rfl, hk, HD⟩ := hrel
    have hi0 : (0 : Int) ≤ (k : Int) := Int.natCast_nonneg _
    by_cases hkl : k < len
    · have hi1 : (k : Int) < (len : Int) := by omega
      rcases HR0.out wr HD.out with ⟨_, rfl, _⟩ | ⟨g, cur, rfl, h2, h3, h4, h5, h6, h7⟩
      · omega
      · obtain ⟨x, hx, hws, hsh⟩ := h7 k (by omega)
        obtain ⟨c0, f0⟩ := row_cell h3 hx
        have HX : Hid (Calls Try.prog 16 #[x] wr fun e w' => e = .returned (.tuple #[]) ∧ Dg B wr w') := HCH.out x B wr hws (HD.out.sub HB.out)
        clear h2 h3 h4 h5 h6 h7 hx hws f0
        have HN : Hid (∀ w1, Dg B wr w1 → (∃ u, w1.cell? ⟨g, k, none⟩ = some u) ∧ w1.frozen? ⟨g, k, none⟩ = false ∧ Dg B w (w1.setCell ⟨g, k, none⟩ (.iface 2 (.int .i64 4711)))) := fun w1 hw1 => by
          have hd := HD.out.trans hw1
          rcases HR0.out w1 hd with ⟨e, _⟩ | ⟨g2, cur2, e, h2, h3, h4, h5, h6, h7⟩
          · simp at e
          · simp only [Option.some.injEq, Addr.mk.injEq, and_true] at e
            subst e
            obtain ⟨x2, hx2, _⟩ := h7 k (by omega)
            obtain ⟨c2, f2⟩ := row_cell h3 hx2
            exact ⟨⟨x2, c2⟩, f2, hd.trans (Dg.set h2 h3 (.inl ⟨rfl, lf_int _⟩))⟩
        rcases hsh with rfl | ⟨T, y, rfl⟩
        all_goals
          go_wp2_with fail
          refine HX.out.mono ?_
          rintro e w1 ⟨rfl, hd1⟩
          obtain ⟨⟨u, c1⟩, f1, hd2⟩ := HN.out w1 hd1
          have HN2 : Hid (Dg B w (w1.setCell ⟨g, k, none⟩ (.iface 2 (.int .i64 4711)))) := hd2
          clear hd1 hd2
          go_wp2_with fail
          go_roundw
          case rel => exact ⟨k + 1, by go_num, by omega, HN2.out⟩
          case measure => simp [intOf]; omega
    · have hi1 : ¬ ((k : Int) < (len : Int)) := by omega
      obtain ⟨xs, hxs⟩ := (HR0.out wr HD.out).owns
      have HG0 : Hid (Grw B w wr 20 1 (.slice a (len + 0) cap) (len + 0) xs) := ⟨hxs, fun q hq => .inl ((HR0.out wr HD.out).own q hq), HD.out⟩
      clear hxs
      go_wp2_with fail
      go_loopw [5, 7] (fun v x wr => ∃ (k : Nat) (a' : Option Addr) (cap' : Nat) (ys : List Value), v = .slice a' (len + k) cap' ∧ x = .int .i64 k ∧ k ≤ 20 ∧ Hid (Grw B w wr 20 1 (.slice a' (len + k) cap') (len + k) ys)) (fun _ x _ => 20 - (intOf x).toNat)
      case atStart => exact ⟨0, a, cap, xs, rfl, rfl, by omega, HG0.out⟩
      case round =>
        obtain ⟨k', a', cap', ys, rfl, rfl, hk', HG⟩ := hrel
        have hi0' : (0 : Int) ≤ (k' : Int) := Int.natCast_nonneg _
        by_cases hkl' : k' < 20
        · have hi1' : (k' : Int) < 20 := by omega
          go_wp2_with (at_builtin; refine wpList_app2 _ rfl _ _ 71 rfl 20 i0 .nilIface 1 16 Try.undL hi hz0 hz1 hz2 rfl (by decide) _ _ ys rfl (HG.out.own.alloc _) ⟨wr.heap.size, 0, none⟩ 1 1 [.iface 4 (.bool true)] rfl rfl (cell_one_new _ _ _) (one_iface _ _) (by decide) (by unfold maxLen; omega) (by omega) (fun j u hu => .inl ⟨rfl, by cases j <;> simp at hu; subst hu; exact lf_bool _⟩) ?_; intro g' cap2 w3 hown' hor hdg)
          have HN := HG.out.step HB.out rfl hown' hor hdg
          clear hown' hor hdg
          go_roundw
          case rel => exact ⟨k' + 1, some ⟨g', 0, none⟩, cap2, _, rfl, by go_num, by omega, HN⟩
          case measure => simp [intOf]; omega
        · have hi1' : ¬ ((k' : Int) < 20) := by omega
          go_wp2_with fail
          go_end0
          exact ⟨rfl, HG.out.dg⟩

def nmSpoilt : ByteArray := ⟨#[115, 112, 111, 105, 108, 116]⟩
theorem two_new (w : World) (x y : Value) (e : TypeId) : ∀ j u, [x, y][j]? = some u → (w.alloc (.cells #[x, y] e)).cell? ((⟨w.heap.size, 0, none⟩ : Addr).add j) = some u := by
  intro j u hu
  rw [addr_add]
  match j, hu with
  | 0, hu => simp at hu; subst hu; simp
  | 1, hu => simp at hu; subst hu; simp
  | j + 2, hu => simp at hu

set_option maxRecDepth 100000 in
set_option maxHeartbeats 1000000 in
theorem spoilt_any (n : Nat) (HC : SpC n) (a : Option Addr) (len cap : Nat) (B : Nat → Prop) (w : World) (hlen : len ≤ 4096) (h : WsF w B n a len cap) (hB : Sub B w) :
    Calls Try.prog 44 #[.slice a len cap] w fun e w' => e = .returned (.tuple #[]) ∧ Dg B w w' := by
  obtain ⟨i0, hi, hz0, hz1, hz2⟩ := info_parts Try.infoF
  have HR0 : Hid (∀ W, Dg B w W → WsF W B n a len cap) := fun W hW => h.dg hW (fun _ x h => ⟨h.1, fun e => ⟨Ws.dg hW n x (h.2 e).1, (h.2 e).2⟩⟩) (fun _ _ h => fits_field h)
  have HB : Hid (Sub B w) := hB
  have HCH : Hid (SpC n) := HC
  clear h hB HC
  go_enter Try.func44, Try.ntmps44
  go_wp2_with fail
  go_loopw [2] (fun x wr => ∃ k : Nat, x = .int .i64 k ∧ k ≤ len ∧ Hid (Dg B w wr)) (fun x _ => len - (intOf x).toNat)
  case atStart => exact ⟨0, rfl, by omega, Dg.refl _ _⟩
  case round =>
    obtain ⟨k, rfl, hk, HD⟩ := hrel
    have hi0 : (0 : Int) ≤ (k : Int) := Int.natCast_nonneg _
    by_cases hkl : k < len
    · have hi1 : (k : Int) < (len : Int) := by omega
      rcases HR0.out wr HD.out with ⟨_, rfl, _⟩ | ⟨g, cur, rfl, h2, h3, h4, h5, h6, h7⟩
      · omega
      · obtain ⟨x, hx, _, hws⟩ := h7 (k * 2 + 1) (by omega)
        obtain ⟨hws, hsh⟩ := hws (by omega)
        obtain ⟨c0, f0⟩ := row_cell h3 hx
        have HX : Hid (Calls Try.prog 16 #[x] wr fun e w' => e = .returned (.tuple #[]) ∧ Dg B wr w') := HCH.out x B wr hws (HD.out.sub HB.out)
        clear h2 h3 h4 h5 h6 h7 hx hws f0
        have HN : Hid (∀ w1, Dg B wr w1 → (∃ u, w1.cell? ⟨g, k * 2, none⟩ = some u) ∧ w1.frozen? ⟨g, k * 2, none⟩ = false ∧ (∃ u, w1.cell? ⟨g, k * 2 + 1, none⟩ = some u) ∧ w1.frozen? ⟨g, k * 2 + 1, none⟩ = false ∧ Dg B w ((w1.setCell ⟨g, k * 2, none⟩ (.string nmSpoilt)).setCell ⟨g, k * 2 + 1, none⟩ .nilIface)) := fun w1 hw1 => by
          have hd := HD.out.trans hw1
          rcases HR0.out w1 hd with ⟨e, _⟩ | ⟨g2, cur2, e, h2, h3, h4, h5, h6, h7⟩
          · simp at e
          · simp only [Option.some.injEq, Addr.mk.injEq, and_true] at e
            subst e
            obtain ⟨x2, hx2, _⟩ := h7 (k * 2) (by omega)
            obtain ⟨c2, f2⟩ := row_cell h3 hx2
            obtain ⟨x3, hx3, _⟩ := h7 (k * 2 + 1) (by omega)
            obtain ⟨c3, f3⟩ := row_cell h3 hx3
            refine ⟨⟨x2, c2⟩, f2, ⟨x3, c3⟩, f3, ?_⟩
            refine (hd.trans (Dg.set (v := .string nmSpoilt) h2 h3 (.inr (.inr (.inl ⟨rfl, .inl ⟨by omega, _, rfl⟩⟩))))).trans (Dg.set h2 (heap_setCell_same w1 g (k * 2) _ _ _ h3) (.inr (.inr (.inl ⟨rfl, .inr ⟨by omega, .inl rfl⟩⟩))))
        rcases hsh with rfl | ⟨T, y, rfl⟩
        all_goals
          go_wp2_with fail
          refine HX.out.mono ?_
          rintro e w1 ⟨rfl, hd1⟩
          obtain ⟨⟨u, c1⟩, f1, ⟨u2, c2⟩, f2, hd2⟩ := HN.out w1 hd1
          have HN2 : Hid (Dg B w ((w1.setCell ⟨g, k * 2, none⟩ (.string nmSpoilt)).setCell ⟨g, k * 2 + 1, none⟩ .nilIface)) := hd2
          clear hd1 hd2
          go_wp2_with fail
          go_roundw
          case rel => exact ⟨k + 1, by go_num, by omega, HN2.out⟩
          case measure => simp [intOf]; omega
    · have hi1 : ¬ ((k : Int) < (len : Int)) := by omega
      obtain ⟨xs, hxs⟩ := (HR0.out wr HD.out).owns
      have HG0 : Hid (Grw B w wr 112 2 (.slice a (len + 0) cap) (len + 0) xs) := ⟨hxs, fun q hq => .inl ((HR0.out wr HD.out).own q hq), HD.out⟩
      clear hxs
      go_wp2_with fail
      go_loopw [0, 3] (fun v x wr => ∃ (k : Nat) (a' : Option Addr) (cap' : Nat) (ys : List Value), v = .slice a' (len + k) cap' ∧ x = .int .i64 k ∧ k ≤ 20 ∧ Hid (Grw B w wr 112 2 (.slice a' (len + k) cap') (len + k) ys)) (fun _ x _ => 20 - (intOf x).toNat)
      case atStart => exact ⟨0, a, cap, xs, rfl, rfl, by omega, HG0.out⟩
      case round =>
        obtain ⟨k', a', cap', ys, rfl, rfl, hk', HG⟩ := hrel
        have hi0' : (0 : Int) ≤ (k' : Int) := Int.natCast_nonneg _
        by_cases hkl' : k' < 20
        · have hi1' : (k' : Int) < 20 := by omega
          go_wp2_with (at_builtin; refine wpList_app2 _ rfl _ _ 73 rfl 112 i0 _ 2 32 Try.undD hi hz0 hz1 hz2 rfl (by decide) _ _ ys rfl (HG.out.own.alloc _) ⟨wr.heap.size, 0, none⟩ 1 1 [.string ⟨#[103, 114, 111, 119, 110]⟩, .nilIface] rfl rfl (two_new _ _ _ _) (two_nil _) (by decide) (by unfold maxLen; omega) (by omega) (fun j u hu => .inr (.inr (.inl ⟨rfl, by
            match j, hu with
            | 0, hu => simp at hu; subst hu; exact .inl ⟨by omega, _, rfl⟩
            | 1, hu => simp at hu; subst hu; exact .inr ⟨by omega, .inl rfl⟩
            | j + 2, hu => simp at hu⟩))) ?_; intro g' cap2 w3 hown' hor hdg)
          have HN := HG.out.step HB.out rfl hown' hor hdg
          clear hown' hor hdg
          go_roundw
          case rel => exact ⟨k' + 1, some ⟨g', 0, none⟩, cap2, _, rfl, by go_num, by omega, HN⟩
          case measure => simp [intOf]; omega
        · have hi1' : ¬ ((k' : Int) < 20) := by omega
          go_wp2_with fail
          go_end0
          exact ⟨rfl, HG.out.dg⟩

set_option maxRecDepth 100000 in
set_option maxHeartbeats 1000000 in
theorem spoil_dict (n : Nat) (HC : SpC n) (a : Option Addr) (len cap : Nat) (B : Nat → Prop) (w : World) (hlen : len ≤ 4096) (h : WsF w B n a len cap) (hB : Sub B w) :
    Calls Try.prog 16 #[.iface 73 (.slice a len cap)] w fun e w' => e = .returned (.tuple #[]) ∧ Dg B w w' := by
  have HX : Hid (Calls Try.prog 44 #[.slice a len cap] w fun e w' => e = .returned (.tuple #[]) ∧ Dg B w w') := spoilt_any n HC a len cap B w hlen h hB
  clear h HC
  go_enter Try.func16, Try.ntmps16
  go_wp2_with fail
  refine HX.out.mono ?_
  rintro e w1 ⟨rfl, hd1⟩
  go_wp2_with fail
  go_end0
  exact ⟨rfl, hd1⟩
end Go.Proofs.Ytkomcebknllaiaa

/- tenonmake.Spoil at records, and at whatever value can be. -/
namespace Go.Proofs.Ytkomcebknllaiaa
open Go.RowKit

theorem Ws.rec {w : World} {B : Nat → Prop} {n g : Nat} (h : Ws w B (n + 1) (.iface 75 (.pointer (some ⟨g, 0, none⟩)))) :
    ∃ cur a len cap, B g ∧ w.heap[g]? = some (.cells cur 77 (0, 0)) ∧ (∃ s, cur[0]? = some (.string s)) ∧ (∃ i, cur[1]? = some (.int .i64 i)) ∧ cur[2]? = some (.slice a len cap) ∧ len ≤ 4096 ∧ WsF w B n a len cap := by
  rcases h with h | ⟨a, len, cap, h1, h2, h3⟩ | ⟨a, len, cap, h1, h2, h3⟩ | ⟨a, len, cap, h1, h2, h3⟩ | ⟨g', cur, a, len, cap, h1, h2, h3, h4, h5, h6, h7, h8⟩
  · rcases h with h | ⟨T, x, h, _, _, _, h4⟩ | h
    · simp at h
    · injection h with h; exact absurd h.symm h4
    · simp at h
  · injection h1 with h1; exact absurd h1 (by decide)
  · injection h1 with h1; exact absurd h1 (by decide)
  · injection h1 with h1; exact absurd h1 (by decide)
  · simp only [Value.iface.injEq, Value.pointer.injEq, Option.some.injEq, Addr.mk.injEq, and_true, true_and] at h1
    subst h1
    exact ⟨cur, a, len, cap, h2, h3, h4, h5, h6, h7, h8⟩

set_option maxRecDepth 100000 in
set_option maxHeartbeats 1000000 in
theorem spoil_rec (n : Nat) (HC : SpC n) (g : Nat) (B : Nat → Prop) (w : World) (h : Ws w B (n + 1) (.iface 75 (.pointer (some ⟨g, 0, none⟩)))) (hB : Sub B w) :
    Calls Try.prog 16 #[.iface 75 (.pointer (some ⟨g, 0, none⟩))] w fun e w' => e = .returned (.tuple #[]) ∧ Dg B w w' := by
  obtain ⟨cur, a, len, cap, h2, h3, _, _, h6, h7, h8⟩ := Ws.rec h
  have HX : Hid (Calls Try.prog 44 #[.slice a len cap] w fun e w' => e = .returned (.tuple #[]) ∧ Dg B w w') := spoilt_any n HC a len cap B w h7 h8 hB
  obtain ⟨c2, _⟩ := row_cell h3 h6
  have HN : Hid (∀ w1, Dg B w w1 → (∃ u, w1.cell? ⟨g, 0, none⟩ = some u) ∧ w1.frozen? ⟨g, 0, none⟩ = false ∧ (∃ u, w1.cell? ⟨g, 1, none⟩ = some u) ∧ w1.frozen? ⟨g, 1, none⟩ = false ∧ Dg B w ((w1.setCell ⟨g, 0, none⟩ (.string nmSpoilt)).setCell ⟨g, 1, none⟩ (.int .i64 999))) := fun w1 hd => by
    obtain ⟨cu, _, _, _, k2, k3, ⟨s, k4⟩, ⟨i, k5⟩, _⟩ := Ws.rec (Ws.dg hd _ _ h)
    obtain ⟨d0, f0⟩ := row_cell k3 k4
    obtain ⟨d1, f1⟩ := row_cell k3 k5
    exact ⟨⟨_, d0⟩, f0, ⟨_, d1⟩, f1, (hd.trans (Dg.set (v := .string nmSpoilt) k2 k3 (.inr (.inr (.inr ⟨rfl, .inl ⟨rfl, _, rfl⟩⟩))))).trans (Dg.set k2 (heap_setCell_same w1 g 0 _ _ _ k3) (.inr (.inr (.inr ⟨rfl, .inr ⟨rfl, _, rfl⟩⟩))))⟩
  clear h h2 h3 h6 h7 h8 HC
  go_enter Try.func16, Try.ntmps16
  go_wp2_with fail
  refine HX.out.mono ?_
  rintro e w1 ⟨rfl, hd1⟩
  obtain ⟨⟨u, c1⟩, f1, ⟨u2, c2'⟩, f2, hd2⟩ := HN.out w1 hd1
  have HN2 : Hid (Dg B w ((w1.setCell ⟨g, 0, none⟩ (.string nmSpoilt)).setCell ⟨g, 1, none⟩ (.int .i64 999))) := hd2
  clear hd1 hd2
  go_wp2_with fail
  go_end0
  exact ⟨rfl, HN2.out⟩

theorem spoil_any : ∀ n, SpC n
  | 0 => fun v B w h _ => spoil_lf v h B w
  | n + 1 => fun v B w h hB => by
    have ih := spoil_any n
    have h' := h
    rcases h with h | ⟨a, len, cap, rfl, h2, h3⟩ | ⟨a, len, cap, rfl, h2, h3⟩ | ⟨a, len, cap, rfl, h2, h3⟩ | ⟨g', cur, a, len, cap, rfl, h2, h3, h4, h5, h6, h7, h8⟩
    · exact spoil_lf v h B w
    · exact spoil_bytes a len cap B w h2 h3 hB
    · exact spoil_list n ih a len cap B w h2 h3 hB
    · exact spoil_dict n ih a len cap B w h2 h3 hB
    · exact spoil_rec n ih g' B w h' hB

/-- a row that is owned, by its cells -/
theorem Ln.rowk {w : World} {B : Nat → Prop} {e : TypeId} {size : Nat} {a : Option Addr} {n cap : Nat} {P : Nat → Value → Prop} (h : Ln w B e size a n cap) (hP : ∀ g j, a = some ⟨g, 0, none⟩ → j < n * size → ∃ x, w.cell? ⟨g, j, none⟩ = some x ∧ P j x) : Rowk w B e size a n cap P := by
  obtain ⟨h1, ⟨xs, h2, h3⟩, h4⟩ := h
  rcases h3 with ⟨h3, h5⟩ | ⟨g, c, cur, e1, _, e2, e3, e4, e5, _⟩
  · injection h3 with q1 q2 q3
    exact .inl ⟨q1, h5, q3⟩
  · simp only [Value.slice.injEq, true_and] at e1
    obtain ⟨rfl, rfl⟩ := e1
    refine .inr ⟨g, cur, rfl, h4 g 0 none rfl, e2, e3, e4, e5, fun j hj => ?_⟩
    obtain ⟨x, hx, hp⟩ := hP g j rfl hj
    rw [cell_of_row _ _ j _ _ _ e2] at hx
    exact ⟨x, hx, hp⟩
theorem Ws.up {w : World} {B : Nat → Prop} : ∀ n m v, n ≤ m → Ws w B n v → Ws w B m v
  | 0, m, v, _, h => Ws.lf h
  | n + 1, 0, _, h, _ => by omega
  | n + 1, m + 1, v, hm, h => by
    have hl : ∀ (j : Nat) x, Ws w B n x ∧ Shp x → Ws w B m x ∧ Shp x := fun _ x hx => ⟨Ws.up n m x (by omega) hx.1, hx.2⟩
    have hf : ∀ (j : Nat) x, ((j % 2 = 0 → ∃ s, x = .string s) ∧ (j % 2 = 1 → Ws w B n x ∧ Shp x)) → ((j % 2 = 0 → ∃ s, x = .string s) ∧ (j % 2 = 1 → Ws w B m x ∧ Shp x)) := fun j x hx => ⟨hx.1, fun e => hl j x (hx.2 e)⟩
    have hd := Dg.refl B w
    rcases h with h | ⟨a, len, cap, h1, h2, h3⟩ | ⟨a, len, cap, h1, h2, h3⟩ | ⟨a, len, cap, h1, h2, h3⟩ | ⟨g, cur, a, len, cap, h1, h2, h3, h4, h5, h6, h7, h8⟩
    · exact .inl h
    · exact .inr (.inl ⟨a, len, cap, h1, h2, h3⟩)
    · exact .inr (.inr (.inl ⟨a, len, cap, h1, h2, h3.dg hd hl (fun _ _ h => fits_list h)⟩))
    · exact .inr (.inr (.inr (.inl ⟨a, len, cap, h1, h2, h3.dg hd hf (fun _ _ h => fits_field h)⟩)))
    · exact .inr (.inr (.inr (.inr ⟨g, cur, a, len, cap, h1, h2, h3, h4, h5, h6, h7, h8.dg hd hf (fun _ _ h => fits_field h)⟩)))
end Go.Proofs.Ytkomcebknllaiaa

/- A value that can be can be written over; worlds that are alike but for some blocks. -/
namespace Go.Proofs.Ytkomcebknllaiaa
open Go.RowKit

mutual
theorem Tm.ws {w : World} {B : Nat → Prop} : (t : Tm) → ∀ v, t.V w B v → t.Ok → Ws w B t.sz v
  | .mk k b i f tx by' rf l fs c vr, v, hv, ho => by
    obtain ⟨p1, p2, p3, p4⟩ := ho.parts
    obtain ⟨q1, q2, q3, q4, q5⟩ := ho.bounds
    simp only [Tm.V] at hv
    obtain ⟨h1, h2, h3, h4, h5, h6, h7, h8, h9, h10, h11, h12⟩ := hv
    simp only [Tm.sz]
    by_cases k1 : k = 1
    · exact .inl (.inl (h1 k1))
    by_cases k2 : k = 2
    · exact .inl (.inr (.inl ⟨_, _, h2 k2, by decide, by decide, by decide, by decide⟩))
    by_cases k3 : k = 3
    · exact .inl (.inr (.inl ⟨_, _, h3 k3, by decide, by decide, by decide, by decide⟩))
    by_cases k4 : k = 4
    · exact .inl (.inr (.inl ⟨_, _, (h4 k4).1, by decide, by decide, by decide, by decide⟩))
    by_cases k5 : k = 5
    · exact .inl (.inr (.inl ⟨_, _, (h5 k5).1, by decide, by decide, by decide, by decide⟩))
    by_cases k6 : k = 6
    · obtain ⟨a, cap, e, hl, hb⟩ := h6 k6
      refine .inr (.inl ⟨a, _, cap, e, q2 k6, hl.rowk fun g j ha hj => ?_⟩)
      obtain ⟨g', o, e', _, hc⟩ := hb j (by omega)
      rw [ha] at e'
      simp only [Option.some.injEq, Addr.mk.injEq, and_true] at e'
      obtain ⟨rfl, rfl⟩ := e'
      exact ⟨_, by rw [← Nat.zero_add j]; exact hc, _, rfl, (byte_bd _ _).1, (byte_bd _ _).2⟩
    by_cases k7 : k = 7
    · exact .inl (.inr (.inl ⟨_, _, h7 k7, by decide, by decide, by decide, by decide⟩))
    by_cases k8 : k = 8
    · obtain ⟨a, cap, e, hl, hb⟩ := h8 k8
      refine .inr (.inr (.inl ⟨a, _, cap, e, q3 k8, hl.rowk fun g j ha hj => ?_⟩))
      obtain ⟨x, hx, hw, hs⟩ := TmL.ws l a 0 hb (p3 k8) g ha j (by omega)
      exact ⟨x, by rw [← Nat.zero_add j]; exact hx, Ws.up _ _ _ (by omega) hw, hs⟩
    by_cases k9 : k = 9
    · obtain ⟨a, cap, e, hl, hb⟩ := h9 k9
      refine .inr (.inr (.inr (.inl ⟨a, _, cap, e, (TmF.nm (q4 (.inl k9))).1, hl.rowk fun g j ha hj => ?_⟩)))
      obtain ⟨⟨s, hn⟩, x, hx, hw, hs⟩ := TmF.ws fs a 0 hb (p4 (.inl k9)) g ha (j / 2) (by omega)
      rw [Nat.zero_add] at hn hx
      by_cases hj2 : j % 2 = 0
      · exact ⟨_, by rw [show j = j / 2 * 2 by omega]; exact hn, fun _ => ⟨s, rfl⟩, fun h => by omega⟩
      · exact ⟨_, by rw [show j = j / 2 * 2 + 1 by omega]; exact hx, fun h => absurd h hj2, fun _ => ⟨Ws.up _ _ _ (by omega) hw, hs⟩⟩
    by_cases k10 : k = 10
    · obtain ⟨g, a, cap, e, hg, c0, c1, c2, ⟨_, cur, hcur⟩, hl, hb⟩ := h10 k10
      rw [cell_of_row _ _ _ _ _ _ hcur] at c0 c1 c2
      refine .inr (.inr (.inr (.inr ⟨g, cur, a, _, cap, e, hg, hcur, ⟨_, c0⟩, ⟨_, c1⟩, c2, (TmF.nm (q4 (.inr k10))).1, hl.rowk fun g j ha hj => ?_⟩)))
      obtain ⟨⟨s, hn⟩, x, hx, hw, hs⟩ := TmF.ws fs a 0 hb (p4 (.inr k10)) g ha (j / 2) (by omega)
      rw [Nat.zero_add] at hn hx
      by_cases hj2 : j % 2 = 0
      · exact ⟨_, by rw [show j = j / 2 * 2 by omega]; exact hn, fun _ => ⟨s, rfl⟩, fun h => by omega⟩
      · exact ⟨_, by rw [show j = j / 2 * 2 + 1 by omega]; exact hx, fun h => absurd h hj2, fun _ => ⟨Ws.up _ _ _ (by omega) hw, hs⟩⟩
    omega
theorem TmL.ws {w : World} {B : Nat → Prop} : (l : TmL) → ∀ a k, l.V w B a k → l.Ok → ∀ g, a = some ⟨g, 0, none⟩ → ∀ j, j < l.len → ∃ x, w.cell? ⟨g, k + j, none⟩ = some x ∧ Ws w B l.sz x ∧ Shp x
  | .nil, _, _, _, _, _, _, j, hj => by simp [TmL.len] at hj
  | .cons t l, a, k, h, ho, g, ha, j, hj => by
    simp only [TmL.V] at h
    obtain ⟨g', o, v, e, _, hc, ht, hl⟩ := h
    subst ha
    simp only [Option.some.injEq, Addr.mk.injEq, and_true] at e
    obtain ⟨rfl, rfl⟩ := e
    simp only [TmL.sz]
    cases j with
    | zero => exact ⟨v, by rw [Nat.zero_add] at hc; exact hc, Ws.up _ _ _ (by omega) (Tm.ws t v ht ho.head.1), t.V_shape v ht⟩
    | succ j =>
      obtain ⟨x, hx, hw, hs⟩ := TmL.ws l _ (k + 1) hl ho.head.2 g rfl j (by simp [TmL.len] at hj; omega)
      exact ⟨x, by rw [show k + (j + 1) = k + 1 + j by omega]; exact hx, Ws.up _ _ _ (by omega) hw, hs⟩
theorem TmF.ws {w : World} {B : Nat → Prop} : (l : TmF) → ∀ a k, l.V w B a k → l.Ok → ∀ g, a = some ⟨g, 0, none⟩ → ∀ j, j < l.len → (∃ s, w.cell? ⟨g, (k + j) * 2, none⟩ = some (.string s)) ∧ ∃ x, w.cell? ⟨g, (k + j) * 2 + 1, none⟩ = some x ∧ Ws w B l.sz x ∧ Shp x
  | .nil, _, _, _, _, _, _, j, hj => by simp [TmF.len] at hj
  | .cons n t l, a, k, h, ho, g, ha, j, hj => by
    simp only [TmF.V] at h
    obtain ⟨g', o, v, e, _, hn, hc, _, ht, hl⟩ := h
    subst ha
    simp only [Option.some.injEq, Addr.mk.injEq, and_true] at e
    obtain ⟨rfl, rfl⟩ := e
    simp only [TmF.sz]
    rw [Nat.zero_add] at hn hc
    cases j with
    | zero => exact ⟨⟨n, hn⟩, v, hc, Ws.up _ _ _ (by omega) (Tm.ws t v ht ho.head.1), t.V_shape v ht⟩
    | succ j =>
      obtain ⟨hs', x, hx, hw, hs⟩ := TmF.ws l _ (k + 1) hl ho.head.2 g rfl j (by simp [TmF.len] at hj; omega)
      rw [show k + (j + 1) = k + 1 + j by omega]
      exact ⟨hs', x, hx, Ws.up _ _ _ (by omega) hw, hs⟩
end

/-- Spoil of a value that lies in B: nothing else is written -/
theorem Spoil_any (t : Tm) (v : Value) (B : Nat → Prop) (w : World) (h : t.V w B v) (hB : Sub B w) (he : (t.wk 1 0 0).e = 0) :
    Calls Try.prog 16 #[v] w fun e w' => e = .returned (.tuple #[]) ∧ Dg B w w' :=
  spoil_any t.sz v B w (t.ws v h ⟨1, 0, 0, he⟩) hB

/-- w' is w with blocks more; those of w that D does not name are as they were -/
structure Far (D : Nat → Prop) (w w' : World) : Prop where
  os : w'.os = w.os
  tape : w'.tape = w.tape
  output : w'.output = w.output
  size : w.heap.size ≤ w'.heap.size
  block : ∀ k, k < w.heap.size → ¬ D k → w'.heap[k]? = w.heap[k]?
theorem Far.of {D : Nat → Prop} {w w' : World} (h : Below w.heap.size w w') : Far D w w' := ⟨h.os, h.tape, h.output, h.size, fun k hk _ => h.block k hk⟩
theorem Far.call {D : Nat → Prop} {w w1 w2 : World} (h : Far D w w1) (k : Below w1.heap.size w1 w2) : Far D w w2 :=
  ⟨k.os.trans h.os, k.tape.trans h.tape, k.output.trans h.output, Nat.le_trans h.size k.size, fun i hi hn => (k.block i (Nat.lt_of_lt_of_le hi h.size)).trans (h.block i hi hn)⟩
theorem Far.dg {D E : Nat → Prop} {w w1 w2 : World} (h : Far D w w1) (k : Dg E w1 w2) (hE : ∀ k, E k → D k) : Far D w w2 :=
  ⟨k.os.trans h.os, k.tape.trans h.tape, k.output.trans h.output, Nat.le_trans h.size k.size, fun i hi hn => (k.far i (Nat.lt_of_lt_of_le hi h.size) (fun e => hn (hE i e))).trans (h.block i hi hn)⟩
theorem Far.mono {D E : Nat → Prop} {w w1 : World} (h : Far D w w1) (hE : ∀ k, D k → E k) : Far E w w1 := ⟨h.os, h.tape, h.output, h.size, fun i hi hn => h.block i hi (fun e => hn (hE i e))⟩
theorem Far.same {D S : Nat → Prop} {w w1 : World} (h : Far D w w1) (hS : ∀ k, S k → k < w.heap.size ∧ ¬ D k) : Same S w w1 := fun k hk => h.block k (hS k hk).1 (hS k hk).2
theorem Far.below {D : Nat → Prop} {w0 w w1 : World} (h : Far D w w1) (h0 : Below w0.heap.size w0 w) (hD : ∀ k, D k → w0.heap.size ≤ k) : Below w0.heap.size w0 w1 :=
  ⟨h.os.trans h0.os, h.tape.trans h0.tape, h.output.trans h0.output, Nat.le_trans h0.size h.size, fun k hk => (h.block k (Nat.lt_of_lt_of_le hk h0.size) (fun e => by have := hD k e; omega)).trans (h0.block k hk)⟩
end Go.Proofs.Ytkomcebknllaiaa

/- The Go walk through a term (package value: fieldsRule, walk.terms, walk.entries, walk.term) comes to the plain walk. -/
namespace Go.Proofs.Ytkomcebknllaiaa
open Go.RowKit

set_option maxRecDepth 100000 in
set_option maxHeartbeats 400000 in
theorem entries1_any (nm : ByteArray) (k : Int) (b : Bool) (i : Int) (f : Nat) (tx : ByteArray) (vb : Value) (rf : Int) (vl vf : Value) (c : ByteArray) (vr : Int) (w : World) :
    Calls Try.prog 110 #[.agg #[.string nm, .int .i64 k, .bool b, .int .i64 i, .float .f64 f, .string tx, vb, .int .u64 rf, vl, vf, .string c, .int .i64 vr]] w fun e w' => e = .returned (.string nm) ∧ Below w.heap.size w w' := by
  go_enter Try.func110, Try.ntmps110
  go_wp2
  go_ret
  exact ⟨rfl, (Below.refl _ _).alloc (Nat.le_refl _) _⟩

set_option maxRecDepth 100000 in
set_option maxHeartbeats 1000000 in
theorem fieldsRuleE_any (fs : TmF) (a : Option Addr) (cap B : Nat) (w : World) (hB : B ≤ w.heap.size) (h : fs.In w (Lo B) a 0) (hlen : fs.len * 168 ≤ 140737488355328) :
    Calls Try.prog 109 #[.slice a fs.len cap, .func (.func 110) #[] #[]] w fun e w' => e = .returned (.int .i64 (Sp.fieldsR fs.names)) ∧ Below w.heap.size w w' := by
  by_cases hl : 4096 < fs.len
  · have hr : Sp.len (fs.len : Int) 4096 = 2 := by unfold Sp.len; rw [if_neg (by omega)]
    have H : Hid (Sp.fieldsR fs.names = 2) := by show _ = _; unfold Sp.fieldsR; rw [if_pos (by rw [TmF.names_len]; exact hl)]
    go_enter Try.func109, Try.ntmps109
    go_wp2_with (go_at_call 57; refine (lengthRule_any _ _ _).mono ?_; rintro e w' ⟨rfl, rfl⟩)
    go_ret
    exact ⟨ret_int H.out.symm, Below.refl _ _⟩
  · have hr : Sp.len (fs.len : Int) 4096 = 0 := by unfold Sp.len; rw [if_pos (by omega)]
    go_enter Try.func109, Try.ntmps109
    go_wp2_with (go_at_call 57; refine (lengthRule_any _ _ _).mono ?_; rintro e w' ⟨rfl, rfl⟩)
    go_loopw [6, 18] (fun ah i wr => ∃ (k : Nat) (l : TmF) (s : ByteArray), ah = .string s ∧ i = .int .i64 k ∧ l.len + k = fs.len ∧ Hid (l.In w (Lo B) a k) ∧ Hid (Sp.named ByteArray.empty fs.names = Sp.named s l.names) ∧ Hid (Below w.heap.size w wr)) (fun _ i _ => fs.len - (intOf i).toNat)
    case atStart => exact ⟨0, fs, _, rfl, rfl, rfl, h, rfl, Below.refl _ _⟩
    case round =>
      obtain ⟨k, l, s, rfl, rfl, hk, HV, HN, HB⟩ := hrel
      cases l with
      | nil =>
        have h1 : fs.len ≤ k := by simp [TmF.len] at hk; omega
        have H : Hid (Sp.fieldsR fs.names = 0) := by
          show _ = _; unfold Sp.fieldsR; rw [if_neg (by rw [TmF.names_len]; exact hl), HN.out]; simp [TmF.names, Sp.named]
        clear hk HN HV h
        go_wp2_with fail
        go_ret
        exact ⟨ret_int H.out.symm, HB.out⟩
      | cons n t l =>
        have hv := HV.out
        simp only [TmF.In] at hv
        obtain ⟨g, o, cs, rfl, hg, c0, hn, hc, ht, hv'⟩ := hv
        have hg : g < B := hg
        have hlt : k < fs.len := by simp [TmF.len] at hk; omega
        have HK : Hid (l.len + (k + 1) = fs.len) := by show _ = _; simp [TmF.len] at hk; omega
        have hcell : ∀ j, wr.cell? ⟨g, j, none⟩ = w.cell? ⟨g, j, none⟩ := fun j => HB.out.cell (p := ⟨g, j, none⟩) (by show g < _; omega)
        have d0 : wr.cell? ⟨g, o + k * 12, none⟩ = some (.string n) := by rw [hcell]; exact c0
        have HT : Hid (TmF.In w (Lo B) l (some ⟨g, o, none⟩) (k + 1)) := hv'
        obtain ⟨k1, b1, i1, f1, tx1, ab1, nb1, cb1, rf1, al1, nl1, cl1, af1, nf1, cf1, cc1, vr1, rfl⟩ := Tm.In_tc' ht
        obtain ⟨e0, e1, e2, e3, e4, e5, e6, e7, e8, e9, e10⟩ := eleven (w := wr) (g := g) (o := o + k * 12 + 1) (fun x hx => by rw [hcell]; exact hc x hx)
        have hn' : n.size ≤ maxLen := by unfold maxLen; omega
        have HG : Hid (∀ o w1, Below (wr.alloc o).heap.size (wr.alloc o) w1 → Below w.heap.size w w1) := fun o w1 h => (HB.out.alloc HB.out.size _).trans (h.mono (by simp; have := HB.out.size; omega))
        clear hk hv' ht c0 h HV hc hcell
        cases hnm : Sp.isNm n with
        | false =>
          have H : Hid (Sp.fieldsR fs.names = 8) := by
            show _ = _; unfold Sp.fieldsR; rw [if_neg (by rw [TmF.names_len]; exact hl), HN.out]; simp [TmF.names, Sp.named, hnm]
          go_wp2_with (first | (go_at_call 110; refine (entries1_any _ _ _ _ _ _ _ _ _ _ _ _ _).mono ?_; rintro e w1 ⟨rfl, hb1⟩) | (go_at_call 111; refine (isName_any _ _ hn').mono ?_; rintro e w' ⟨rfl, rfl⟩))
          go_ret
          exact ⟨ret_int H.out.symm, HG.out _ _ hb1⟩
        | true =>
          cases hle : Sp.leS n s with
          | true =>
            have H : Hid (Sp.fieldsR fs.names = 8) := by
              show _ = _; unfold Sp.fieldsR; rw [if_neg (by rw [TmF.names_len]; exact hl), HN.out]; simp [TmF.names, Sp.named, hnm, hle]
            unfold Sp.leS at hle
            go_wp2_with (first | (go_at_call 110; refine (entries1_any _ _ _ _ _ _ _ _ _ _ _ _ _).mono ?_; rintro e w1 ⟨rfl, hb1⟩) | (go_at_call 111; refine (isName_any _ _ hn').mono ?_; rintro e w' ⟨rfl, rfl⟩))
            go_ret
            exact ⟨ret_int H.out.symm, HG.out _ _ hb1⟩
          | false =>
            have H : Hid (Sp.named ByteArray.empty fs.names = Sp.named n l.names) := by
              show _ = _; rw [HN.out]; simp [TmF.names, Sp.named, hnm, hle]
            unfold Sp.leS at hle
            go_wp2_with (first | (go_at_call 110; refine (entries1_any _ _ _ _ _ _ _ _ _ _ _ _ _).mono ?_; rintro e w1 ⟨rfl, hb1⟩) | (go_at_call 111; refine (isName_any _ _ hn').mono ?_; rintro e w' ⟨rfl, rfl⟩))
            go_roundw
            case rel => exact ⟨k + 1, l, n, rfl, by go_num, HK.out, HT.out, H, HG.out _ _ hb1⟩
            case measure => simp [intOf]; omega
end Go.Proofs.Ytkomcebknllaiaa

/- walk.terms and walk.entries. -/
namespace Go.Proofs.Ytkomcebknllaiaa
open Go.RowKit

/-- the contract of walk.term at terms of at most N parts -/
def TermC (N : Nat) : Prop := ∀ (t : Tm), t.sz ≤ N → ∀ (b : Nat) (cs : Array Value) (p d n : Int) (w : World), Wk w b p d → t.In w (Lo b) cs → 0 ≤ p → p ≤ 16384 → 1 ≤ n → n ≤ 65 →
  Calls Try.prog 36 #[.pointer (some ⟨b, 0, none⟩), .agg cs, .int .i64 n] w fun e w' => e = .returned (.int .i64 (t.wk n p d).e) ∧ Wk w' b (t.wk n p d).p (t.wk n p d).d ∧ Below b w w'

set_option maxRecDepth 100000 in
set_option maxHeartbeats 1000000 in
theorem terms_any (N : Nat) (HC : TermC N) (L : TmL) (hN : L.sz ≤ N) (b : Nat) (a : Option Addr) (cap : Nat) (p d n : Int) (w : World) (hw : Wk w b p d) (h : L.In w (Lo b) a 0) (hlen : L.len * 152 ≤ 140737488355328) (hp : 0 ≤ p) (hp' : p ≤ 16384) (hn : 1 ≤ n) (hn' : n ≤ 64) :
    Calls Try.prog 58 #[.pointer (some ⟨b, 0, none⟩), .slice a L.len cap, .int .i64 n] w fun e w' => e = .returned (.int .i64 (L.wkR n p d).e) ∧ Wk w' b (L.wkR n p d).p (L.wkR n p d).d ∧ Below b w w' := by
  by_cases hl : 4096 < L.len
  · have hr : Sp.len (L.len : Int) 4096 = 2 := by unfold Sp.len; rw [if_neg (by omega)]
    have H : Hid (L.wkR n p d = ⟨p, d, 2⟩) := by show _ = _; unfold TmL.wkR; rw [if_pos hl]
    clear h HC
    go_enter Try.func58, Try.ntmps58
    go_wp2_with (go_at_call 57; refine (lengthRule_any _ _ _).mono ?_; rintro e w' ⟨rfl, rfl⟩)
    go_ret
    rw [H.out]
    exact ⟨rfl, hw, Below.refl _ _⟩
  · have hr : Sp.len (L.len : Int) 4096 = 0 := by unfold Sp.len; rw [if_pos (by omega)]
    have H : Hid (L.wkR n p d = L.wk (n + 1) p d) := by show _ = _; unfold TmL.wkR; rw [if_neg hl]
    have HCH : Hid (TermC N) := HC
    have H0 : Hid (L.In w (Lo b) a 0 ∧ Wk w b p d) := ⟨h, hw⟩
    clear HC h hw
    go_enter Try.func58, Try.ntmps58
    go_wp2_with (go_at_call 57; refine (lengthRule_any _ _ _).mono ?_; rintro e w' ⟨rfl, rfl⟩)
    go_loopw [19] (fun i wr => ∃ (k : Nat) (l : TmL) (p' d' : Int), i = .int .i64 k ∧ l.len + k = L.len ∧ l.sz ≤ N ∧ 0 ≤ p' ∧ p' ≤ 16384 ∧ Hid (l.In w (Lo b) a k ∧ L.wk (n + 1) p d = l.wk (n + 1) p' d' ∧ Wk wr b p' d' ∧ Below b w wr)) (fun i _ => L.len - (intOf i).toNat)
    case atStart => exact ⟨0, L, p, d, rfl, rfl, hN, hp, hp', H0.out.1, rfl, H0.out.2, Below.refl _ _⟩
    case round =>
      obtain ⟨k, l, p', d', rfl, hk, hlN, hq, hq', HR⟩ := hrel
      clear H0
      cases l with
      | nil =>
        have h1 : L.len ≤ k := by simp [TmL.len] at hk; omega
        clear hk
        go_wp2_with fail
        go_ret
        rw [H.out, HR.out.2.1]
        exact ⟨rfl, HR.out.2.2.1, HR.out.2.2.2⟩
      | cons t l =>
        obtain ⟨hv, HE, hwr, hb⟩ := HR.out
        simp only [TmL.In] at hv
        obtain ⟨g, o, cs, rfl, hg, hc, ht, hv'⟩ := hv
        have hlt : k < L.len := by simp [TmL.len] at hk; omega
        have HK : Hid (l.len + (k + 1) = L.len) := by show _ = _; simp [TmL.len] at hk; omega
        have htN : t.sz ≤ N ∧ l.sz ≤ N := by simp [TmL.sz] at hlN; omega
        have hbl := hwr.lt
        have HT : Hid (TmL.In w (Lo b) l (some ⟨g, o, none⟩) (k + 1)) := hv'
        have HE : Hid _ := HE
        have hbd := t.wk_bd (n + 1) p' d' hq hq'
        have HO : Hid (∀ W, Below wr.heap.size wr W → Calls Try.prog 36 #[.pointer (some ⟨b, 0, none⟩), .agg cs, .int .i64 (n + 1)] W fun e w' => e = .returned (.int .i64 (t.wk (n + 1) p' d').e) ∧ Wk w' b (t.wk (n + 1) p' d').p (t.wk (n + 1) p' d').d ∧ Below b w w') := fun W hW =>
          (HCH.out t htN.1 b cs p' d' (n + 1) W (hwr.same (Same.of_below hW (Nat.le_refl _)) hbl) (t.In_same ((Same.of_below hb (Nat.le_refl _)).trans (Same.of_below hW (by omega))) (fun _ h => h) cs ht) hq hq' (by omega) (by omega)).mono fun e w' h => ⟨h.1, h.2.1, (hb.trans (hW.mono (by omega))).trans h.2.2⟩
        have hcell : ∀ j, wr.cell? ⟨g, j, none⟩ = w.cell? ⟨g, j, none⟩ := fun j => hb.cell (p := ⟨g, j, none⟩) hg
        obtain ⟨k1, b1, i1, f1, tx1, ab1, nb1, cb1, rf1, al1, nl1, cl1, af1, nf1, cf1, cc1, vr1, rfl⟩ := Tm.In_tc' ht
        obtain ⟨e0, e1, e2, e3, e4, e5, e6, e7, e8, e9, e10⟩ := eleven (w := wr) (g := g) (o := o + k * 11) (fun x hx => by rw [hcell]; exact hc x hx)
        unfold tcells at HO
        clear hk hv' ht hwr hb hlN hc hcell
        by_cases he : (t.wk (n + 1) p' d').e ≠ 0
        · have HR' : Hid (TmL.wk (.cons t l) (n + 1) p' d' = t.wk (n + 1) p' d') := by show _ = _; rw [TmL.wk, if_pos he]
          have he' := ne_bool he
          clear he
          go_wp2_with (go_at_call 36; refine (HO.out _ ((Below.refl _ _).alloc (Nat.le_refl _) _)).mono ?_; rintro e w1 ⟨rfl, hk1, hb1⟩)
          go_ret
          rw [H.out, HE.out, HR'.out]
          exact ⟨rfl, hk1, hb1⟩
        · have he0 : (t.wk (n + 1) p' d').e = 0 := Decidable.not_not.1 he
          have HR' : Hid (TmL.wk (.cons t l) (n + 1) p' d' = l.wk (n + 1) (t.wk (n + 1) p' d').p (t.wk (n + 1) p' d').d) := by show _ = _; rw [TmL.wk, if_neg he]
          have hpq := hbd.2.2 he0
          clear he
          go_wp2_with (go_at_call 36; refine (HO.out _ ((Below.refl _ _).alloc (Nat.le_refl _) _)).mono ?_; rintro e w1 ⟨rfl, hk1, hb1⟩)
          go_roundw
          case rel => exact ⟨k + 1, l, _, _, by go_num, HK.out, htN.2, by omega, hpq, HT.out, (HE.out.trans HR'.out), hk1, hb1⟩
          case measure => simp [intOf]; omega
end Go.Proofs.Ytkomcebknllaiaa

/- walk.entries. -/
namespace Go.Proofs.Ytkomcebknllaiaa
open Go.RowKit

set_option maxRecDepth 100000 in
set_option maxHeartbeats 1000000 in
theorem entries_any (N : Nat) (HC : TermC N) (L : TmF) (hN : L.sz ≤ N) (b : Nat) (a : Option Addr) (cap : Nat) (p d n : Int) (w : World) (hw : Wk w b p d) (h : L.In w (Lo b) a 0) (hlen : L.len * 168 ≤ 140737488355328) (hp : 0 ≤ p) (hp' : p ≤ 16384) (hn : 1 ≤ n) (hn' : n ≤ 64) :
    Calls Try.prog 59 #[.pointer (some ⟨b, 0, none⟩), .slice a L.len cap, .int .i64 n] w fun e w' => e = .returned (.int .i64 (L.wkR n p d).e) ∧ Wk w' b (L.wkR n p d).p (L.wkR n p d).d ∧ Below b w w' := by
  have hbw := hw.lt
  have HFR : Hid (Calls Try.prog 109 #[.slice a L.len cap, .func (.func 110) #[] #[]] w fun e w' => e = .returned (.int .i64 (Sp.fieldsR L.names)) ∧ Below w.heap.size w w') := fieldsRuleE_any L a cap b w (by omega) h hlen
  by_cases hl : Sp.fieldsR L.names ≠ 0
  · have hr := ne_bool hl
    have H : Hid (L.wkR n p d = ⟨p, d, Sp.fieldsR L.names⟩) := by show _ = _; unfold TmF.wkR; rw [if_pos hl]
    clear h HC hl
    go_enter Try.func59, Try.ntmps59
    go_wp2_with (go_at_call 109; refine HFR.out.mono ?_; rintro e w1 ⟨rfl, hb1⟩)
    go_ret
    rw [H.out]
    exact ⟨rfl, hw.same (Same.of_below hb1 (Nat.le_refl _)) hbw, hb1.mono (by omega)⟩
  · have hr : Sp.fieldsR L.names = 0 := Decidable.not_not.1 hl
    have H : Hid (L.wkR n p d = L.wk (n + 1) p d) := by show _ = _; unfold TmF.wkR; rw [if_neg hl]
    have HCH : Hid (TermC N) := HC
    have H0 : Hid (L.In w (Lo b) a 0 ∧ Wk w b p d) := ⟨h, hw⟩
    clear HC h hw
    go_enter Try.func59, Try.ntmps59
    go_wp2_with (go_at_call 109; refine HFR.out.mono ?_; rintro e w1 ⟨rfl, hb1⟩)
    have HW1 : Hid (Wk w1 b p d ∧ Below b w w1) := ⟨H0.out.2.same (Same.of_below hb1 (Nat.le_refl _)) hbw, hb1.mono (by omega)⟩
    clear hb1
    go_loopw [18] (fun i wr => ∃ (k : Nat) (l : TmF) (p' d' : Int), i = .int .i64 k ∧ l.len + k = L.len ∧ l.sz ≤ N ∧ 0 ≤ p' ∧ p' ≤ 16384 ∧ Hid (l.In w (Lo b) a k ∧ L.wk (n + 1) p d = l.wk (n + 1) p' d' ∧ Wk wr b p' d' ∧ Below b w wr)) (fun i _ => L.len - (intOf i).toNat)
    case atStart => exact ⟨0, L, p, d, rfl, rfl, hN, hp, hp', H0.out.1, rfl, HW1.out.1, HW1.out.2⟩
    case round =>
      obtain ⟨k, l, p', d', rfl, hk, hlN, hq, hq', HR⟩ := hrel
      clear H0 HW1 HFR
      cases l with
      | nil =>
        have h1 : L.len ≤ k := by simp [TmF.len] at hk; omega
        clear hk
        go_wp2_with fail
        go_ret
        rw [H.out, HR.out.2.1]
        exact ⟨rfl, HR.out.2.2.1, HR.out.2.2.2⟩
      | cons nm t l =>
        obtain ⟨hv, HE, hwr, hb⟩ := HR.out
        simp only [TmF.In] at hv
        obtain ⟨g, o, cs, rfl, hg, hnc, _, hc, ht, hv'⟩ := hv
        have hlt : k < L.len := by simp [TmF.len] at hk; omega
        have HK : Hid (l.len + (k + 1) = L.len) := by show _ = _; simp [TmF.len] at hk; omega
        have htN : t.sz ≤ N ∧ l.sz ≤ N := by simp [TmF.sz] at hlN; omega
        have hbl := hwr.lt
        have HT : Hid (TmF.In w (Lo b) l (some ⟨g, o, none⟩) (k + 1)) := hv'
        have HE : Hid _ := HE
        have hbd := t.wk_bd (n + 1) p' d' hq hq'
        have HO : Hid (∀ W, Below wr.heap.size wr W → Calls Try.prog 36 #[.pointer (some ⟨b, 0, none⟩), .agg cs, .int .i64 (n + 1)] W fun e w' => e = .returned (.int .i64 (t.wk (n + 1) p' d').e) ∧ Wk w' b (t.wk (n + 1) p' d').p (t.wk (n + 1) p' d').d ∧ Below b w w') := fun W hW =>
          (HCH.out t htN.1 b cs p' d' (n + 1) W (hwr.same (Same.of_below hW (Nat.le_refl _)) hbl) (t.In_same ((Same.of_below hb (Nat.le_refl _)).trans (Same.of_below hW (by omega))) (fun _ h => h) cs ht) hq hq' (by omega) (by omega)).mono fun e w' h => ⟨h.1, h.2.1, (hb.trans (hW.mono (by omega))).trans h.2.2⟩
        have hcell : ∀ j, wr.cell? ⟨g, j, none⟩ = w.cell? ⟨g, j, none⟩ := fun j => hb.cell (p := ⟨g, j, none⟩) hg
        obtain ⟨k1, b1, i1, f1, tx1, ab1, nb1, cb1, rf1, al1, nl1, cl1, af1, nf1, cf1, cc1, vr1, rfl⟩ := Tm.In_tc' ht
        obtain ⟨e0, e1, e2, e3, e4, e5, e6, e7, e8, e9, e10⟩ := eleven (w := wr) (g := g) (o := o + k * 12 + 1) (fun x hx => by rw [hcell]; exact hc x hx)
        have en : wr.cell? ⟨g, o + k * 12, none⟩ = some (.string nm) := by rw [hcell]; exact hnc
        unfold tcells at HO
        clear hk hv' ht hwr hb hlN hc hcell hnc
        by_cases he : (t.wk (n + 1) p' d').e ≠ 0
        · have HR' : Hid (TmF.wk (.cons nm t l) (n + 1) p' d' = t.wk (n + 1) p' d') := by show _ = _; rw [TmF.wk, if_pos he]
          have he' := ne_bool he
          clear he
          go_wp2_with (go_at_call 36; refine (HO.out _ ((Below.refl _ _).alloc (Nat.le_refl _) _)).mono ?_; rintro e w2 ⟨rfl, hk1, hb1⟩)
          go_ret
          rw [H.out, HE.out, HR'.out]
          exact ⟨rfl, hk1, hb1⟩
        · have he0 : (t.wk (n + 1) p' d').e = 0 := Decidable.not_not.1 he
          have HR' : Hid (TmF.wk (.cons nm t l) (n + 1) p' d' = l.wk (n + 1) (t.wk (n + 1) p' d').p (t.wk (n + 1) p' d').d) := by show _ = _; rw [TmF.wk, if_neg he]
          have hpq := hbd.2.2 he0
          clear he
          go_wp2_with (go_at_call 36; refine (HO.out _ ((Below.refl _ _).alloc (Nat.le_refl _) _)).mono ?_; rintro e w2 ⟨rfl, hk1, hb1⟩)
          go_roundw
          case rel => exact ⟨k + 1, l, _, _, by go_num, HK.out, htN.2, by omega, hpq, HT.out, (HE.out.trans HR'.out), hk1, hb1⟩
          case measure => simp [intOf]; omega
end Go.Proofs.Ytkomcebknllaiaa
