/- tenonmake.Spoil and spoilt: whatever a value holds is written over, and nothing else. -/
import Derived.Test.YtjlhmgopmdcopaaGreatKI3
import Derived.Test.YtjlhmgopmdcopaaGreatKI9
namespace Go.Proofs.YtjlhmgopmdcopaaGreat
open Go.RowKit

/-- the contract of Spoil at values at most n deep -/
def SpC (n : Nat) : Prop := ∀ (v : Value) (B : Nat → Prop) (w : World), Ws w B n v → Sub B w → Calls Tryz.prog 13 #[v] w fun e w' => e = .returned (.tuple #[]) ∧ Dg B w w'

set_option maxRecDepth 100000 in
set_option maxHeartbeats 400000 in
theorem spoil_lf (v : Value) (h : Lf v) (B : Nat → Prop) (w : World) : Calls Tryz.prog 13 #[v] w fun e w' => e = .returned (.tuple #[]) ∧ Dg B w w' := by
  rcases h with rfl | ⟨T, x, rfl, h1, h2, h3, h4⟩ | rfl
  · go_enter Tryz.func13, Tryz.ntmps13
    go_wp2_with fail
    go_end0
    exact ⟨rfl, Dg.refl _ _⟩
  · go_enter Tryz.func13, Tryz.ntmps13
    go_wp2_with fail
    go_end0
    exact ⟨rfl, Dg.refl _ _⟩
  · go_enter Tryz.func13, Tryz.ntmps13
    go_wp2_with fail
    go_end0
    exact ⟨rfl, Dg.refl _ _⟩

theorem wrap_u8_fits (j : Nat) (b : Int) : Fits 5 j (.int .u8 (IntKind.u8.wrap b)) := .inr (.inl ⟨rfl, _, rfl, by rw [IntKind.wrap_u8]; omega, by rw [IntKind.wrap_u8]; omega⟩)
theorem row_cell {w : World} {g : Nat} {cur : Array Value} {e : TypeId} {j : Nat} {x : Value} (h : w.heap[g]? = some (.cells cur e (0, 0))) (hx : cur[j]? = some x) : w.cell? ⟨g, j, none⟩ = some x ∧ w.frozen? ⟨g, j, none⟩ = false :=
  ⟨by rw [cell_of_row _ _ j _ _ _ h]; exact hx, frozen_of_row _ _ j _ _ h⟩
theorem Dg.alloc {B : Nat → Prop} {w0 w : World} (h : Dg B w0 w) (hB : Sub B w0) (o : Obj) : Dg B w0 (w.alloc o) := h.trans (Dg.of_below ((Below.refl _ _).alloc (Nat.le_refl _) _) (h.sub hB))
/-- what the loops that append carry -/
structure Grw (B : Nat → Prop) (w wr : World) (e : TypeId) (size : Nat) (v : Value) (n : Nat) (xs : List Value) : Prop where
  own : wr.ownsRow 0 e size v n xs
  blk : ∀ q, v.ownBlock = some q → B q ∨ w.heap.size ≤ q
  dg : Dg B w wr
theorem Grw.step {B : Nat → Prop} {w wr w3 : World} {e : TypeId} {size : Nat} {v v' : Value} {n : Nat} {xs ys : List Value} {o : Obj} {g cap : Nat} (h : Grw B w wr e size v n xs) (hB : Sub B w) (hv : v' = .slice (some ⟨g, 0, none⟩) (n + 1) cap) (ho : w3.ownsRow 0 e size v' (n + 1) ys) (hor : v.ownBlock = some g ∨ (wr.alloc o).heap.size ≤ g)
    (hd : ∀ (B : Nat → Prop) (w0 : World), Dg B w0 (wr.alloc o) → (∀ k, v.ownBlock = some k → B k ∨ w0.heap.size ≤ k) → Sub B w0 → Dg B w0 w3) : Grw B w w3 e size v' (n + 1) ys := by
  refine ⟨ho, fun q hq => ?_, hd B w (h.dg.alloc hB o) h.blk hB⟩
  subst hv
  simp only [Value.ownBlock, Option.some.injEq] at hq
  subst hq
  rcases hor with h1 | h1
  · exact h.blk g h1
  · right; have := h.dg.size; simp at h1; omega

set_option maxRecDepth 100000 in
set_option maxHeartbeats 1000000 in
theorem spoil_bytes (a : Option Addr) (len cap : Nat) (B : Nat → Prop) (w : World) (hlen : len ≤ 65536) (h : Rowk w B 5 1 a len cap isU8) (hB : Sub B w) :
    Calls Tryz.prog 13 #[.iface 23 (.slice a len cap)] w fun e w' => e = .returned (.tuple #[]) ∧ Dg B w w' := by
  obtain ⟨i0, hi, hz0, hz1, hz2⟩ := info_parts Tryz.infoB
  have HR0 : Hid (∀ W, Dg B w W → Rowk W B 5 1 a len cap isU8) := fun W hW => h.dg hW (fun _ _ h => h) (fun _ _ h => fits_u8 h)
  have HB : Hid (Sub B w) := hB
  clear h hB
  go_enter Tryz.func13, Tryz.ntmps13
  go_wp2_with fail
  go_loopw [3] (fun x wr => ∃ k : Nat, x = .int .i64 k ∧ k ≤ len ∧ Hid (Dg B w wr)) (fun x _ => len - (intOf x).toNat)
  case atStart => exact ⟨0, rfl, by omega, Dg.refl _ _⟩
  case round =>
    obtain ⟨k, rfl, hk, HD⟩ := hrel
    have hi0 : (0 : Int) ≤ (k : Int) := Int.natCast_nonneg _
    by_cases hkl : k < len
    · have hi1 : (k : Int) < (len : Int) := by omega
      rcases HR0.out wr HD.out with ⟨_, rfl, _⟩ | ⟨g, cur, rfl, h2, h3, h4, h5, h6, h7⟩
      · omega
      · obtain ⟨x, hx, b, rfl, hb0, hb1⟩ := h7 k (by omega)
        obtain ⟨c0, f0⟩ := row_cell h3 hx
        have HN : Hid (∀ y, Dg B w (wr.setCell ⟨g, k, none⟩ (.int .u8 (IntKind.u8.wrap y)))) := fun y => HD.out.trans (Dg.set h2 h3 (wrap_u8_fits k y))
        clear h2 h3 h4 h5 h6 h7 hx
        go_wp2_with fail
        go_roundw
        case rel => exact ⟨k + 1, by go_num, by omega, by first | exact HN.out _ | (rw [show b + 1 = _ from rfl]; exact HN.out _)⟩
        case measure => simp [intOf]; omega
    · have hi1 : ¬ ((k : Int) < (len : Int)) := by omega
      obtain ⟨xs, hxs⟩ := (HR0.out wr HD.out).owns
      have HG0 : Hid (Grw B w wr 5 1 (.slice a (len + 0) cap) (len + 0) xs) := ⟨hxs, fun q hq => .inl ((HR0.out wr HD.out).own q hq), HD.out⟩
      clear hxs
      go_wp2_with fail
      go_loopw [2, 4] (fun v x wr => ∃ (k : Nat) (a' : Option Addr) (cap' : Nat) (ys : List Value), v = .slice a' (len + k) cap' ∧ x = .int .i64 k ∧ k ≤ 20 ∧ Hid (Grw B w wr 5 1 (.slice a' (len + k) cap') (len + k) ys)) (fun _ x _ => 20 - (intOf x).toNat)
      case atStart => exact ⟨0, a, cap, xs, rfl, rfl, by omega, HG0.out⟩
      case round =>
        obtain ⟨k', a', cap', ys, rfl, rfl, hk', HG⟩ := hrel
        have hi0' : (0 : Int) ≤ (k' : Int) := Int.natCast_nonneg _
        by_cases hkl' : k' < 20
        · have hi1' : (k' : Int) < 20 := by omega
          go_wp2_with (at_builtin; refine wpList_app2 _ rfl _ _ 23 rfl 5 i0 (.int .u8 0) 1 1 Tryz.undB hi hz0 hz1 hz2 rfl (by decide) _ _ ys rfl (HG.out.own.alloc _) ⟨wr.heap.size, 0, none⟩ 1 1 [.int .u8 7] rfl rfl (cell_one_new _ _ _) (fun u hu => by simp at hu; subst hu; rfl) (by decide) (by unfold maxLen; omega) (by omega) (fun j u hu => .inr (.inl ⟨rfl, by cases j <;> simp at hu; exact ⟨7, hu.symm, by decide, by decide⟩⟩)) ?_; intro g' cap2 w3 hown' hor hdg)
          have HN := HG.out.step HB.out rfl hown' hor hdg
          clear hown' hor hdg
          go_roundw
          case rel => exact ⟨k' + 1, some ⟨g', 0, none⟩, cap2, _, rfl, by go_num, by omega, HN⟩
          case measure => simp [intOf]; omega
        · have hi1' : ¬ ((k' : Int) < 20) := by omega
          go_wp2_with fail
          go_end0
          exact ⟨rfl, HG.out.dg⟩
end Go.Proofs.YtjlhmgopmdcopaaGreat

/- tenonmake.Spoil at lists; spoilt; Spoil at dicts and records, and at whatever value. -/
namespace Go.Proofs.YtjlhmgopmdcopaaGreat
open Go.RowKit

theorem lf_int (i : Int) : Lf (.iface 2 (.int .i64 i)) := .inr (.inl ⟨_, _, rfl, by decide, by decide, by decide, by decide⟩)
theorem lf_bool (b : Bool) : Lf (.iface 4 (.bool b)) := .inr (.inl ⟨_, _, rfl, by decide, by decide, by decide, by decide⟩)

set_option maxRecDepth 100000 in
set_option maxHeartbeats 1000000 in
theorem spoil_list (n : Nat) (HC : SpC n) (a : Option Addr) (len cap : Nat) (B : Nat → Prop) (w : World) (hlen : len ≤ 4096) (h : Rowk w B 20 1 a len cap (fun _ x => Ws w B n x ∧ Shp x)) (hB : Sub B w) :
    Calls Tryz.prog 13 #[.iface 81 (.slice a len cap)] w fun e w' => e = .returned (.tuple #[]) ∧ Dg B w w' := by
  obtain ⟨i0, hi, hz0, hz1, hz2⟩ := info_parts Tryz.infoI
  have HR0 : Hid (∀ W, Dg B w W → Rowk W B 20 1 a len cap (fun _ x => Ws W B n x ∧ Shp x)) := fun W hW => h.dg hW (fun _ x h => ⟨Ws.dg hW n x h.1, h.2⟩) (fun _ _ h => fits_list h)
  have HB : Hid (Sub B w) := hB
  have HCH : Hid (SpC n) := HC
  clear h hB HC
  go_enter Tryz.func13, Tryz.ntmps13
  go_wp2_with fail
  go_loopw [6] (fun x wr => ∃ k : Nat, x = .int .i64 k ∧ k ≤ len ∧ Hid (Dg B w wr)) (fun x _ => len - (intOf x).toNat)
  case atStart => exact ⟨0, rfl, by omega, Dg.refl _ _⟩
  case round =>
    obtain ⟨k, rfl, hk, HD⟩ := hrel
    have hi0 : (0 : Int) ≤ (k : Int) := Int.natCast_nonneg _
    by_cases hkl : k < len
    · have hi1 : (k : Int) < (len : Int) := by omega
      rcases HR0.out wr HD.out with ⟨_, rfl, _⟩ | ⟨g, cur, rfl, h2, h3, h4, h5, h6, h7⟩
      · omega
      · obtain ⟨x, hx, hws, hsh⟩ := h7 k (by omega)
        obtain ⟨c0, f0⟩ := row_cell h3 hx
        have HX : Hid (Calls Tryz.prog 13 #[x] wr fun e w' => e = .returned (.tuple #[]) ∧ Dg B wr w') := HCH.out x B wr hws (HD.out.sub HB.out)
        clear h2 h3 h4 h5 h6 h7 hx hws f0
        have HN : Hid (∀ w1, Dg B wr w1 → (∃ u, w1.cell? ⟨g, k, none⟩ = some u) ∧ w1.frozen? ⟨g, k, none⟩ = false ∧ Dg B w (w1.setCell ⟨g, k, none⟩ (.iface 2 (.int .i64 4711)))) := fun w1 hw1 => by
          have hd := HD.out.trans hw1
          rcases HR0.out w1 hd with ⟨e, _⟩ | ⟨g2, cur2, e, h2, h3, h4, h5, h6, h7⟩
          · simp at e
          · simp only [Option.some.injEq, Addr.mk.injEq, and_true] at e
            subst e
            obtain ⟨x2, hx2, _⟩ := h7 k (by omega)
            obtain ⟨c2, f2⟩ := row_cell h3 hx2
            exact ⟨⟨x2, c2⟩, f2, hd.trans (Dg.set h2 h3 (.inl ⟨rfl, lf_int _⟩))⟩
        rcases hsh with rfl | ⟨T, y, rfl⟩
        all_goals
          go_wp2_with fail
          refine HX.out.mono ?_
          rintro e w1 ⟨rfl, hd1⟩
          obtain ⟨⟨u, c1⟩, f1, hd2⟩ := HN.out w1 hd1
          have HN2 : Hid (Dg B w (w1.setCell ⟨g, k, none⟩ (.iface 2 (.int .i64 4711)))) := hd2
          clear hd1 hd2
          go_wp2_with fail
          go_roundw
          case rel => exact ⟨k + 1, by go_num, by omega, HN2.out⟩
          case measure => simp [intOf]; omega
    · have hi1 : ¬ ((k : Int) < (len : Int)) := by omega
      obtain ⟨xs, hxs⟩ := (HR0.out wr HD.out).owns
      have HG0 : Hid (Grw B w wr 20 1 (.slice a (len + 0) cap) (len + 0) xs) := ⟨hxs, fun q hq => .inl ((HR0.out wr HD.out).own q hq), HD.out⟩
      clear hxs
      go_wp2_with fail
      go_loopw [5, 7] (fun v x wr => ∃ (k : Nat) (a' : Option Addr) (cap' : Nat) (ys : List Value), v = .slice a' (len + k) cap' ∧ x = .int .i64 k ∧ k ≤ 20 ∧ Hid (Grw B w wr 20 1 (.slice a' (len + k) cap') (len + k) ys)) (fun _ x _ => 20 - (intOf x).toNat)
      case atStart => exact ⟨0, a, cap, xs, rfl, rfl, by omega, HG0.out⟩
      case round =>
        obtain ⟨k', a', cap', ys, rfl, rfl, hk', HG⟩ := hrel
        have hi0' : (0 : Int) ≤ (k' : Int) := Int.natCast_nonneg _
        by_cases hkl' : k' < 20
        · have hi1' : (k' : Int) < 20 := by omega
          go_wp2_with (at_builtin; refine wpList_app2 _ rfl _ _ 81 rfl 20 i0 .nilIface 1 16 Tryz.undL hi hz0 hz1 hz2 rfl (by decide) _ _ ys rfl (HG.out.own.alloc _) ⟨wr.heap.size, 0, none⟩ 1 1 [.iface 4 (.bool true)] rfl rfl (cell_one_new _ _ _) (one_iface _ _) (by decide) (by unfold maxLen; omega) (by omega) (fun j u hu => .inl ⟨rfl, by cases j <;> simp at hu; subst hu; exact lf_bool _⟩) ?_; intro g' cap2 w3 hown' hor hdg)
          have HN := HG.out.step HB.out rfl hown' hor hdg
          clear hown' hor hdg
          go_roundw
          case rel => exact ⟨k' + 1, some ⟨g', 0, none⟩, cap2, _, rfl, by go_num, by omega, HN⟩
          case measure => simp [intOf]; omega
        · have hi1' : ¬ ((k' : Int) < 20) := by omega
          go_wp2_with fail
          go_end0
          exact ⟨rfl, HG.out.dg⟩

def nmSpoilt : ByteArray := ⟨#[115, 112, 111, 105, 108, 116]⟩
theorem two_new (w : World) (x y : Value) (e : TypeId) : ∀ j u, [x, y][j]? = some u → (w.alloc (.cells #[x, y] e)).cell? ((⟨w.heap.size, 0, none⟩ : Addr).add j) = some u := by
  intro j u hu
  rw [addr_add]
  match j, hu with
  | 0, hu => simp at hu; subst hu; simp
  | 1, hu => simp at hu; subst hu; simp
  | j + 2, hu => simp at hu

set_option maxRecDepth 100000 in
set_option maxHeartbeats 1000000 in
theorem spoilt_any (n : Nat) (HC : SpC n) (a : Option Addr) (len cap : Nat) (B : Nat → Prop) (w : World) (hlen : len ≤ 4096) (h : WsF w B n a len cap) (hB : Sub B w) :
    Calls Tryz.prog 30 #[.slice a len cap] w fun e w' => e = .returned (.tuple #[]) ∧ Dg B w w' := by
  obtain ⟨i0, hi, hz0, hz1, hz2⟩ := info_parts Tryz.infoF
  have HR0 : Hid (∀ W, Dg B w W → WsF W B n a len cap) := fun W hW => h.dg hW (fun _ x h => ⟨h.1, fun e => ⟨Ws.dg hW n x (h.2 e).1, (h.2 e).2⟩⟩) (fun _ _ h => fits_field h)
  have HB : Hid (Sub B w) := hB
  have HCH : Hid (SpC n) := HC
  clear h hB HC
  go_enter Tryz.func30, Tryz.ntmps30
  go_wp2_with fail
  go_loopw [2] (fun x wr => ∃ k : Nat, x = .int .i64 k ∧ k ≤ len ∧ Hid (Dg B w wr)) (fun x _ => len - (intOf x).toNat)
  case atStart => exact ⟨0, rfl, by omega, Dg.refl _ _⟩
  case round =>
    obtain ⟨k, rfl, hk, HD⟩ := hrel
    have hi0 : (0 : Int) ≤ (k : Int) := Int.natCast_nonneg _
    by_cases hkl : k < len
    · have hi1 : (k : Int) < (len : Int) := by omega
      rcases HR0.out wr HD.out with ⟨_, rfl, _⟩ | ⟨g, cur, rfl, h2, h3, h4, h5, h6, h7⟩
      · omega
      · obtain ⟨x, hx, _, hws⟩ := h7 (k * 2 + 1) (by omega)
        obtain ⟨hws, hsh⟩ := hws (by omega)
        obtain ⟨c0, f0⟩ := row_cell h3 hx
        have HX : Hid (Calls Tryz.prog 13 #[x] wr fun e w' => e = .returned (.tuple #[]) ∧ Dg B wr w') := HCH.out x B wr hws (HD.out.sub HB.out)
        clear h2 h3 h4 h5 h6 h7 hx hws f0
        have HN : Hid (∀ w1, Dg B wr w1 → (∃ u, w1.cell? ⟨g, k * 2, none⟩ = some u) ∧ w1.frozen? ⟨g, k * 2, none⟩ = false ∧ (∃ u, w1.cell? ⟨g, k * 2 + 1, none⟩ = some u) ∧ w1.frozen? ⟨g, k * 2 + 1, none⟩ = false ∧ Dg B w ((w1.setCell ⟨g, k * 2, none⟩ (.string nmSpoilt)).setCell ⟨g, k * 2 + 1, none⟩ .nilIface)) := fun w1 hw1 => by
          have hd := HD.out.trans hw1
          rcases HR0.out w1 hd with ⟨e, _⟩ | ⟨g2, cur2, e, h2, h3, h4, h5, h6, h7⟩
          · simp at e
          · simp only [Option.some.injEq, Addr.mk.injEq, and_true] at e
            subst e
            obtain ⟨x2, hx2, _⟩ := h7 (k * 2) (by omega)
            obtain ⟨c2, f2⟩ := row_cell h3 hx2
            obtain ⟨x3, hx3, _⟩ := h7 (k * 2 + 1) (by omega)
            obtain ⟨c3, f3⟩ := row_cell h3 hx3
            refine ⟨⟨x2, c2⟩, f2, ⟨x3, c3⟩, f3, ?_⟩
            refine (hd.trans (Dg.set (v := .string nmSpoilt) h2 h3 (.inr (.inr (.inl ⟨rfl, .inl ⟨by omega, _, rfl⟩⟩))))).trans (Dg.set h2 (heap_setCell_same w1 g (k * 2) _ _ _ h3) (.inr (.inr (.inl ⟨rfl, .inr ⟨by omega, .inl rfl⟩⟩))))
        rcases hsh with rfl | ⟨T, y, rfl⟩
        all_goals
          go_wp2_with fail
          refine HX.out.mono ?_
          rintro e w1 ⟨rfl, hd1⟩
          obtain ⟨⟨u, c1⟩, f1, ⟨u2, c2⟩, f2, hd2⟩ := HN.out w1 hd1
          have HN2 : Hid (Dg B w ((w1.setCell ⟨g, k * 2, none⟩ (.string nmSpoilt)).setCell ⟨g, k * 2 + 1, none⟩ .nilIface)) := hd2
          clear hd1 hd2
          go_wp2_with fail
          go_roundw
          case rel => exact ⟨k + 1, by go_num, by omega, HN2.out⟩
          case measure => simp [intOf]; omega
    · have hi1 : ¬ ((k : Int) < (len : Int)) := by omega
      obtain ⟨xs, hxs⟩ := (HR0.out wr HD.out).owns
      have HG0 : Hid (Grw B w wr 55 2 (.slice a (len + 0) cap) (len + 0) xs) := ⟨hxs, fun q hq => .inl ((HR0.out wr HD.out).own q hq), HD.out⟩
      clear hxs
      go_wp2_with fail
      go_loopw [0, 3] (fun v x wr => ∃ (k : Nat) (a' : Option Addr) (cap' : Nat) (ys : List Value), v = .slice a' (len + k) cap' ∧ x = .int .i64 k ∧ k ≤ 20 ∧ Hid (Grw B w wr 55 2 (.slice a' (len + k) cap') (len + k) ys)) (fun _ x _ => 20 - (intOf x).toNat)
      case atStart => exact ⟨0, a, cap, xs, rfl, rfl, by omega, HG0.out⟩
      case round =>
        obtain ⟨k', a', cap', ys, rfl, rfl, hk', HG⟩ := hrel
        have hi0' : (0 : Int) ≤ (k' : Int) := Int.natCast_nonneg _
        by_cases hkl' : k' < 20
        · have hi1' : (k' : Int) < 20 := by omega
          go_wp2_with (at_builtin; refine wpList_app2 _ rfl _ _ 57 rfl 55 i0 _ 2 32 Tryz.undD hi hz0 hz1 hz2 rfl (by decide) _ _ ys rfl (HG.out.own.alloc _) ⟨wr.heap.size, 0, none⟩ 1 1 [.string ⟨#[103, 114, 111, 119, 110]⟩, .nilIface] rfl rfl (two_new _ _ _ _) (two_nil _) (by decide) (by unfold maxLen; omega) (by omega) (fun j u hu => .inr (.inr (.inl ⟨rfl, by
            match j, hu with
            | 0, hu => simp at hu; subst hu; exact .inl ⟨by omega, _, rfl⟩
            | 1, hu => simp at hu; subst hu; exact .inr ⟨by omega, .inl rfl⟩
            | j + 2, hu => simp at hu⟩))) ?_; intro g' cap2 w3 hown' hor hdg)
          have HN := HG.out.step HB.out rfl hown' hor hdg
          clear hown' hor hdg
          go_roundw
          case rel => exact ⟨k' + 1, some ⟨g', 0, none⟩, cap2, _, rfl, by go_num, by omega, HN⟩
          case measure => simp [intOf]; omega
        · have hi1' : ¬ ((k' : Int) < 20) := by omega
          go_wp2_with fail
          go_end0
          exact ⟨rfl, HG.out.dg⟩

set_option maxRecDepth 100000 in
set_option maxHeartbeats 1000000 in
theorem spoil_dict (n : Nat) (HC : SpC n) (a : Option Addr) (len cap : Nat) (B : Nat → Prop) (w : World) (hlen : len ≤ 4096) (h : WsF w B n a len cap) (hB : Sub B w) :
    Calls Tryz.prog 13 #[.iface 57 (.slice a len cap)] w fun e w' => e = .returned (.tuple #[]) ∧ Dg B w w' := by
  have HX : Hid (Calls Tryz.prog 30 #[.slice a len cap] w fun e w' => e = .returned (.tuple #[]) ∧ Dg B w w') := spoilt_any n HC a len cap B w hlen h hB
  clear h HC
  go_enter Tryz.func13, Tryz.ntmps13
  go_wp2_with fail
  refine HX.out.mono ?_
  rintro e w1 ⟨rfl, hd1⟩
  go_wp2_with fail
  go_end0
  exact ⟨rfl, hd1⟩
end Go.Proofs.YtjlhmgopmdcopaaGreat

/- tenonmake.Spoil at records, and at whatever value can be. -/
namespace Go.Proofs.YtjlhmgopmdcopaaGreat
open Go.RowKit

theorem Ws.rec {w : World} {B : Nat → Prop} {n g : Nat} (h : Ws w B (n + 1) (.iface 31 (.pointer (some ⟨g, 0, none⟩)))) :
    ∃ cur a len cap, B g ∧ w.heap[g]? = some (.cells cur 59 (0, 0)) ∧ (∃ s, cur[0]? = some (.string s)) ∧ (∃ i, cur[1]? = some (.int .i64 i)) ∧ cur[2]? = some (.slice a len cap) ∧ len ≤ 4096 ∧ WsF w B n a len cap := by
  rcases h with h | ⟨a, len, cap, h1, h2, h3⟩ | ⟨a, len, cap, h1, h2, h3⟩ | ⟨a, len, cap, h1, h2, h3⟩ | ⟨g', cur, a, len, cap, h1, h2, h3, h4, h5, h6, h7, h8⟩
  · rcases h with h | ⟨T, x, h, _, _, _, h4⟩ | h
    · simp at h
    · injection h with h; exact absurd h.symm h4
    · simp at h
  · injection h1 with h1; exact absurd h1 (by decide)
  · injection h1 with h1; exact absurd h1 (by decide)
  · injection h1 with h1; exact absurd h1 (by decide)
  · simp only [Value.iface.injEq, Value.pointer.injEq, Option.some.injEq, Addr.mk.injEq, and_true, true_and] at h1
    subst h1
    exact ⟨cur, a, len, cap, h2, h3, h4, h5, h6, h7, h8⟩

set_option maxRecDepth 100000 in
set_option maxHeartbeats 1000000 in
theorem spoil_rec (n : Nat) (HC : SpC n) (g : Nat) (B : Nat → Prop) (w : World) (h : Ws w B (n + 1) (.iface 31 (.pointer (some ⟨g, 0, none⟩)))) (hB : Sub B w) :
    Calls Tryz.prog 13 #[.iface 31 (.pointer (some ⟨g, 0, none⟩))] w fun e w' => e = .returned (.tuple #[]) ∧ Dg B w w' := by
  obtain ⟨cur, a, len, cap, h2, h3, _, _, h6, h7, h8⟩ := Ws.rec h
  have HX : Hid (Calls Tryz.prog 30 #[.slice a len cap] w fun e w' => e = .returned (.tuple #[]) ∧ Dg B w w') := spoilt_any n HC a len cap B w h7 h8 hB
  obtain ⟨c2, _⟩ := row_cell h3 h6
  have HN : Hid (∀ w1, Dg B w w1 → (∃ u, w1.cell? ⟨g, 0, none⟩ = some u) ∧ w1.frozen? ⟨g, 0, none⟩ = false ∧ (∃ u, w1.cell? ⟨g, 1, none⟩ = some u) ∧ w1.frozen? ⟨g, 1, none⟩ = false ∧ Dg B w ((w1.setCell ⟨g, 0, none⟩ (.string nmSpoilt)).setCell ⟨g, 1, none⟩ (.int .i64 999))) := fun w1 hd => by
    obtain ⟨cu, _, _, _, k2, k3, ⟨s, k4⟩, ⟨i, k5⟩, _⟩ := Ws.rec (Ws.dg hd _ _ h)
    obtain ⟨d0, f0⟩ := row_cell k3 k4
    obtain ⟨d1, f1⟩ := row_cell k3 k5
    exact ⟨⟨_, d0⟩, f0, ⟨_, d1⟩, f1, (hd.trans (Dg.set (v := .string nmSpoilt) k2 k3 (.inr (.inr (.inr ⟨rfl, .inl ⟨rfl, _, rfl⟩⟩))))).trans (Dg.set k2 (heap_setCell_same w1 g 0 _ _ _ k3) (.inr (.inr (.inr ⟨rfl, .inr ⟨rfl, _, rfl⟩⟩))))⟩
  clear h h2 h3 h6 h7 h8 HC
  go_enter Tryz.func13, Tryz.ntmps13
  go_wp2_with fail
  refine HX.out.mono ?_
  rintro e w1 ⟨rfl, hd1⟩
  obtain ⟨⟨u, c1⟩, f1, ⟨u2, c2'⟩, f2, hd2⟩ := HN.out w1 hd1
  have HN2 : Hid (Dg B w ((w1.setCell ⟨g, 0, none⟩ (.string nmSpoilt)).setCell ⟨g, 1, none⟩ (.int .i64 999))) := hd2
  clear hd1 hd2
  go_wp2_with fail
  go_end0
  exact ⟨rfl, HN2.out⟩

theorem spoil_any : ∀ n, SpC n
  | 0 => fun v B w h _ => spoil_lf v h B w
  | n + 1 => fun v B w h hB => by
    have ih := spoil_any n
    have h' := h
    rcases h with h | ⟨a, len, cap, rfl, h2, h3⟩ | ⟨a, len, cap, rfl, h2, h3⟩ | ⟨a, len, cap, rfl, h2, h3⟩ | ⟨g', cur, a, len, cap, rfl, h2, h3, h4, h5, h6, h7, h8⟩
    · exact spoil_lf v h B w
    · exact spoil_bytes a len cap B w h2 h3 hB
    · exact spoil_list n ih a len cap B w h2 h3 hB
    · exact spoil_dict n ih a len cap B w h2 h3 hB
    · exact spoil_rec n ih g' B w h' hB

/-- a row that is owned, by its cells -/
theorem Ln.rowk {w : World} {B : Nat → Prop} {e : TypeId} {size : Nat} {a : Option Addr} {n cap : Nat} {P : Nat → Value → Prop} (h : Ln w B e size a n cap) (hP : ∀ g j, a = some ⟨g, 0, none⟩ → j < n * size → ∃ x, w.cell? ⟨g, j, none⟩ = some x ∧ P j x) : Rowk w B e size a n cap P := by
  obtain ⟨h1, ⟨xs, h2, h3⟩, h4⟩ := h
  rcases h3 with ⟨h3, h5⟩ | ⟨g, c, cur, e1, _, e2, e3, e4, e5, _⟩
  · injection h3 with q1 q2 q3
    exact .inl ⟨q1, h5, q3⟩
  · simp only [Value.slice.injEq, true_and] at e1
    obtain ⟨rfl, rfl⟩ := e1
    refine .inr ⟨g, cur, rfl, h4 g 0 none rfl, e2, e3, e4, e5, fun j hj => ?_⟩
    obtain ⟨x, hx, hp⟩ := hP g j rfl hj
    rw [cell_of_row _ _ j _ _ _ e2] at hx
    exact ⟨x, hx, hp⟩
theorem Ws.up {w : World} {B : Nat → Prop} : ∀ n m v, n ≤ m → Ws w B n v → Ws w B m v
  | 0, m, v, _, h => Ws.lf h
  | n + 1, 0, _, h, _ => by omega
  | n + 1, m + 1, v, hm, h => by
    have hl : ∀ (j : Nat) x, Ws w B n x ∧ Shp x → Ws w B m x ∧ Shp x := fun _ x hx => ⟨Ws.up n m x (by omega) hx.1, hx.2⟩
    have hf : ∀ (j : Nat) x, ((j % 2 = 0 → ∃ s, x = .string s) ∧ (j % 2 = 1 → Ws w B n x ∧ Shp x)) → ((j % 2 = 0 → ∃ s, x = .string s) ∧ (j % 2 = 1 → Ws w B m x ∧ Shp x)) := fun j x hx => ⟨hx.1, fun e => hl j x (hx.2 e)⟩
    have hd := Dg.refl B w
    rcases h with h | ⟨a, len, cap, h1, h2, h3⟩ | ⟨a, len, cap, h1, h2, h3⟩ | ⟨a, len, cap, h1, h2, h3⟩ | ⟨g, cur, a, len, cap, h1, h2, h3, h4, h5, h6, h7, h8⟩
    · exact .inl h
    · exact .inr (.inl ⟨a, len, cap, h1, h2, h3⟩)
    · exact .inr (.inr (.inl ⟨a, len, cap, h1, h2, h3.dg hd hl (fun _ _ h => fits_list h)⟩))
    · exact .inr (.inr (.inr (.inl ⟨a, len, cap, h1, h2, h3.dg hd hf (fun _ _ h => fits_field h)⟩)))
    · exact .inr (.inr (.inr (.inr ⟨g, cur, a, len, cap, h1, h2, h3, h4, h5, h6, h7, h8.dg hd hf (fun _ _ h => fits_field h)⟩)))
end Go.Proofs.YtjlhmgopmdcopaaGreat

