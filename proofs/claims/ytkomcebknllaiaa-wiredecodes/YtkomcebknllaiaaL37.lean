/- tenonmake.Spoil at lists; spoilt; Spoil at dicts and records, and at whatever value. -/
import Derived.Test.YtkomcebknllaiaaL36
import Derived.Test.YtkomcebknllaiaaL6
import Derived.Test.YtkomcebknllaiaaL2
import Derived.Test.YtkomcebknllaiaaL33
import Derived.Test.YtkomcebknllaiaaL34
namespace Go.Proofs.Ytkomcebknllaiaa
open Go.RowKit

theorem lf_int (i : Int) : Lf (.iface 2 (.int .i64 i)) := .inr (.inl ⟨_, _, rfl, by decide, by decide, by decide, by decide⟩)
theorem lf_bool (b : Bool) : Lf (.iface 4 (.bool b)) := .inr (.inl ⟨_, _, rfl, by decide, by decide, by decide, by decide⟩)

set_option maxRecDepth 100000 in
set_option maxHeartbeats 1000000 in
theorem spoil_list (n : Nat) (HC : SpC n) (a : Option Addr) (len cap : Nat) (B : Nat → Prop) (w : World) (hlen : len ≤ 4096) (h : Rowk w B 20 1 a len cap (fun _ x => Ws w B n x ∧ Shp x)) (hB : Sub B w) :
    Calls Try.prog 16 #[.iface 71 (.slice a len cap)] w fun e w' => e = .returned (.tuple #[]) ∧ Dg B w w' := by
  obtain ⟨i0, hi, hz0, hz1, hz2⟩ := info_parts Try.infoI
  have HR0 : Hid (∀ W, Dg B w W → Rowk W B 20 1 a len cap (fun _ x => Ws W B n x ∧ Shp x)) := fun W hW => h.dg hW (fun _ x h => ⟨Ws.dg hW n x h.1, h.2⟩) (fun _ _ h => fits_list h)
  have HB : Hid (Sub B w) := hB
  have HCH : Hid (SpC n) := HC
  clear h hB HC
  go_enter Try.func16, Try.ntmps16
  go_wp2_with fail
  go_loopw [6] (fun x wr => ∃ k : Nat, x = .int .i64 k ∧ k ≤ len ∧ Hid (Dg B w wr)) (fun x _ => len - (intOf x).toNat)
  case atStart => exact ⟨0, rfl, by omega, Dg.refl _ _⟩
  case round =>
    obtain ⟨k, rfl, hk, HD⟩ := hrel
    have hi0 : (0 : Int) ≤ (k : Int) := Int.natCast_nonneg _
    by_cases hkl : k < len
    · have hi1 : (k : Int) < (len : Int) := by omega
      rcases HR0.out wr HD.out with ⟨_, rfl, _⟩ | ⟨g, cur, rfl, h2, h3, h4, h5, h6, h7⟩
      · omega
      · obtain ⟨x, hx, hws, hsh⟩ := h7 k (by omega)
        obtain ⟨c0, f0⟩ := row_cell h3 hx
        have HX : Hid (Calls Try.prog 16 #[x] wr fun e w' => e = .returned (.tuple #[]) ∧ Dg B wr w') := HCH.out x B wr hws (HD.out.sub HB.out)
        clear h2 h3 h4 h5 h6 h7 hx hws f0
        have HN : Hid (∀ w1, Dg B wr w1 → (∃ u, w1.cell? ⟨g, k, none⟩ = some u) ∧ w1.frozen? ⟨g, k, none⟩ = false ∧ Dg B w (w1.setCell ⟨g, k, none⟩ (.iface 2 (.int .i64 4711)))) := fun w1 hw1 => by
          have hd := HD.out.trans hw1
          rcases HR0.out w1 hd with ⟨e, _⟩ | ⟨g2, cur2, e, h2, h3, h4, h5, h6, h7⟩
          · simp at e
          · simp only [Option.some.injEq, Addr.mk.injEq, and_true] at e
            subst e
            obtain ⟨x2, hx2, _⟩ := h7 k (by omega)
            obtain ⟨c2, f2⟩ := row_cell h3 hx2
            exact ⟨⟨x2, c2⟩, f2, hd.trans (Dg.set h2 h3 (.inl ⟨rfl, lf_int _⟩))⟩
        rcases hsh with rfl | ⟨T, y, rfl⟩
        all_goals
          go_wp2_with fail
          refine HX.out.mono ?_
          rintro e w1 ⟨rfl, hd1⟩
          obtain ⟨⟨u, c1⟩, f1, hd2⟩ := HN.out w1 hd1
          have HN2 : Hid (Dg B w (w1.setCell ⟨g, k, none⟩ (.iface 2 (.int .i64 4711)))) := hd2
          clear hd1 hd2
          go_wp2_with fail
          go_roundw
          case rel => exact ⟨k + 1, by go_num, by omega, HN2.out⟩
          case measure => simp [intOf]; omega
    · have hi1 : ¬ ((k : Int) < (len : Int)) := by omega
      obtain ⟨xs, hxs⟩ := (HR0.out wr HD.out).owns
      have HG0 : Hid (Grw B w wr 20 1 (.slice a (len + 0) cap) (len + 0) xs) := ⟨hxs, fun q hq => .inl ((HR0.out wr HD.out).own q hq), HD.out⟩
      clear hxs
      go_wp2_with fail
      go_loopw [5, 7] (fun v x wr => ∃ (k : Nat) (a' : Option Addr) (cap' : Nat) (ys : List Value), v = .slice a' (len + k) cap' ∧ x = .int .i64 k ∧ k ≤ 20 ∧ Hid (Grw B w wr 20 1 (.slice a' (len + k) cap') (len + k) ys)) (fun _ x _ => 20 - (intOf x).toNat)
      case atStart => exact ⟨0, a, cap, xs, rfl, rfl, by omega, HG0.out⟩
      case round =>
        obtain ⟨k', a', cap', ys, rfl, rfl, hk', HG⟩ := hrel
        have hi0' : (0 : Int) ≤ (k' : Int) := Int.natCast_nonneg _
        by_cases hkl' : k' < 20
        · have hi1' : (k' : Int) < 20 := by omega
          go_wp2_with (at_builtin; refine wpList_app2 _ rfl _ _ 71 rfl 20 i0 .nilIface 1 16 Try.undL hi hz0 hz1 hz2 rfl (by decide) _ _ ys rfl (HG.out.own.alloc _) ⟨wr.heap.size, 0, none⟩ 1 1 [.iface 4 (.bool true)] rfl rfl (cell_one_new _ _ _) (one_iface _ _) (by decide) (by unfold maxLen; omega) (by omega) (fun j u hu => .inl ⟨rfl, by cases j <;> simp at hu; subst hu; exact lf_bool _⟩) ?_; intro g' cap2 w3 hown' hor hdg)
          have HN := HG.out.step HB.out rfl hown' hor hdg
          clear hown' hor hdg
          go_roundw
          case rel => exact ⟨k' + 1, some ⟨g', 0, none⟩, cap2, _, rfl, by go_num, by omega, HN⟩
          case measure => simp [intOf]; omega
        · have hi1' : ¬ ((k' : Int) < 20) := by omega
          go_wp2_with fail
          go_end0
          exact ⟨rfl, HG.out.dg⟩

def nmSpoilt : ByteArray := ⟨#[115, 112, 111, 105, 108, 116]⟩
theorem two_new (w : World) (x y : Value) (e : TypeId) : ∀ j u, [x, y][j]? = some u → (w.alloc (.cells #[x, y] e)).cell? ((⟨w.heap.size, 0, none⟩ : Addr).add j) = some u := by
  intro j u hu
  rw [addr_add]
  match j, hu with
  | 0, hu => simp at hu; subst hu; simp
  | 1, hu => simp at hu; subst hu; simp
  | j + 2, hu => simp at hu

set_option maxRecDepth 100000 in
set_option maxHeartbeats 1000000 in
theorem spoilt_any (n : Nat) (HC : SpC n) (a : Option Addr) (len cap : Nat) (B : Nat → Prop) (w : World) (hlen : len ≤ 4096) (h : WsF w B n a len cap) (hB : Sub B w) :
    Calls Try.prog 44 #[.slice a len cap] w fun e w' => e = .returned (.tuple #[]) ∧ Dg B w w' := by
  obtain ⟨i0, hi, hz0, hz1, hz2⟩ := info_parts Try.infoF
  have HR0 : Hid (∀ W, Dg B w W → WsF W B n a len cap) := fun W hW => h.dg hW (fun _ x h => ⟨h.1, fun e => ⟨Ws.dg hW n x (h.2 e).1, (h.2 e).2⟩⟩) (fun _ _ h => fits_field h)
  have HB : Hid (Sub B w) := hB
  have HCH : Hid (SpC n) := HC
  clear h hB HC
  go_enter Try.func44, Try.ntmps44
  go_wp2_with fail
  go_loopw [2] (fun x wr => ∃ k : Nat, x = .int .i64 k ∧ k ≤ len ∧ Hid (Dg B w wr)) (fun x _ => len - (intOf x).toNat)
  case atStart => exact ⟨0, rfl, by omega, Dg.refl _ _⟩
  case round =>
    obtain ⟨k, rfl, hk, HD⟩ := hrel
    have hi0 : (0 : Int) ≤ (k : Int) := Int.natCast_nonneg _
    by_cases hkl : k < len
    · have hi1 : (k : Int) < (len : Int) := by omega
      rcases HR0.out wr HD.out with ⟨_, rfl, _⟩ | ⟨g, cur, rfl, h2, h3, h4, h5, h6, h7⟩
      · omega
      · obtain ⟨x, hx, _, hws⟩ := h7 (k * 2 + 1) (by omega)
        obtain ⟨hws, hsh⟩ := hws (by omega)
        obtain ⟨c0, f0⟩ := row_cell h3 hx
        have HX : Hid (Calls Try.prog 16 #[x] wr fun e w' => e = .returned (.tuple #[]) ∧ Dg B wr w') := HCH.out x B wr hws (HD.out.sub HB.out)
        clear h2 h3 h4 h5 h6 h7 hx hws f0
        have HN : Hid (∀ w1, Dg B wr w1 → (∃ u, w1.cell? ⟨g, k * 2, none⟩ = some u) ∧ w1.frozen? ⟨g, k * 2, none⟩ = false ∧ (∃ u, w1.cell? ⟨g, k * 2 + 1, none⟩ = some u) ∧ w1.frozen? ⟨g, k * 2 + 1, none⟩ = false ∧ Dg B w ((w1.setCell ⟨g, k * 2, none⟩ (.string nmSpoilt)).setCell ⟨g, k * 2 + 1, none⟩ .nilIface)) := fun w1 hw1 => by
          have hd := HD.out.trans hw1
          rcases HR0.out w1 hd with ⟨e, _⟩ | ⟨g2, cur2, e, h2, h3, h4, h5, h6, h7⟩
          · simp at e
          · simp only [Option.some.injEq, Addr.mk.injEq, and_true] at e
            subst e
            obtain ⟨x2, hx2, _⟩ := h7 (k * 2) (by omega)
            obtain ⟨c2, f2⟩ := row_cell h3 hx2
            obtain ⟨x3, hx3, _⟩ := h7 (k * 2 + 1) (by omega)
            obtain ⟨c3, f3⟩ := row_cell h3 hx3
            refine ⟨⟨x2, c2⟩, f2, ⟨x3, c3⟩, f3, ?_⟩
            refine (hd.trans (Dg.set (v := .string nmSpoilt) h2 h3 (.inr (.inr (.inl ⟨rfl, .inl ⟨by omega, _, rfl⟩⟩))))).trans (Dg.set h2 (heap_setCell_same w1 g (k * 2) _ _ _ h3) (.inr (.inr (.inl ⟨rfl, .inr ⟨by omega, .inl rfl⟩⟩))))
        rcases hsh with rfl | ⟨T, y, rfl⟩
        all_goals
          go_wp2_with fail
          refine HX.out.mono ?_
          rintro e w1 ⟨rfl, hd1⟩
          obtain ⟨⟨u, c1⟩, f1, ⟨u2, c2⟩, f2, hd2⟩ := HN.out w1 hd1
          have HN2 : Hid (Dg B w ((w1.setCell ⟨g, k * 2, none⟩ (.string nmSpoilt)).setCell ⟨g, k * 2 + 1, none⟩ .nilIface)) := hd2
          clear hd1 hd2
          go_wp2_with fail
          go_roundw
          case rel => exact ⟨k + 1, by go_num, by omega, HN2.out⟩
          case measure => simp [intOf]; omega
    · have hi1 : ¬ ((k : Int) < (len : Int)) := by omega
      obtain ⟨xs, hxs⟩ := (HR0.out wr HD.out).owns
      have HG0 : Hid (Grw B w wr 112 2 (.slice a (len + 0) cap) (len + 0) xs) := ⟨hxs, fun q hq => .inl ((HR0.out wr HD.out).own q hq), HD.out⟩
      clear hxs
      go_wp2_with fail
      go_loopw [0, 3] (fun v x wr => ∃ (k : Nat) (a' : Option Addr) (cap' : Nat) (ys : List Value), v = .slice a' (len + k) cap' ∧ x = .int .i64 k ∧ k ≤ 20 ∧ Hid (Grw B w wr 112 2 (.slice a' (len + k) cap') (len + k) ys)) (fun _ x _ => 20 - (intOf x).toNat)
      case atStart => exact ⟨0, a, cap, xs, rfl, rfl, by omega, HG0.out⟩
      case round =>
        obtain ⟨k', a', cap', ys, rfl, rfl, hk', HG⟩ := hrel
        have hi0' : (0 : Int) ≤ (k' : Int) := Int.natCast_nonneg _
        by_cases hkl' : k' < 20
        · have hi1' : (k' : Int) < 20 := by omega
          go_wp2_with (at_builtin; refine wpList_app2 _ rfl _ _ 73 rfl 112 i0 _ 2 32 Try.undD hi hz0 hz1 hz2 rfl (by decide) _ _ ys rfl (HG.out.own.alloc _) ⟨wr.heap.size, 0, none⟩ 1 1 [.string ⟨#[103, 114, 111, 119, 110]⟩, .nilIface] rfl rfl (two_new _ _ _ _) (two_nil _) (by decide) (by unfold maxLen; omega) (by omega) (fun j u hu => .inr (.inr (.inl ⟨rfl, by
            match j, hu with
            | 0, hu => simp at hu; subst hu; exact .inl ⟨by omega, _, rfl⟩
            | 1, hu => simp at hu; subst hu; exact .inr ⟨by omega, .inl rfl⟩
            | j + 2, hu => simp at hu⟩))) ?_; intro g' cap2 w3 hown' hor hdg)
          have HN := HG.out.step HB.out rfl hown' hor hdg
          clear hown' hor hdg
          go_roundw
          case rel => exact ⟨k' + 1, some ⟨g', 0, none⟩, cap2, _, rfl, by go_num, by omega, HN⟩
          case measure => simp [intOf]; omega
        · have hi1' : ¬ ((k' : Int) < 20) := by omega
          go_wp2_with fail
          go_end0
          exact ⟨rfl, HG.out.dg⟩

set_option maxRecDepth 100000 in
set_option maxHeartbeats 1000000 in
theorem spoil_dict (n : Nat) (HC : SpC n) (a : Option Addr) (len cap : Nat) (B : Nat → Prop) (w : World) (hlen : len ≤ 4096) (h : WsF w B n a len cap) (hB : Sub B w) :
    Calls Try.prog 16 #[.iface 73 (.slice a len cap)] w fun e w' => e = .returned (.tuple #[]) ∧ Dg B w w' := by
  have HX : Hid (Calls Try.prog 44 #[.slice a len cap] w fun e w' => e = .returned (.tuple #[]) ∧ Dg B w w') := spoilt_any n HC a len cap B w hlen h hB
  clear h HC
  go_enter Try.func16, Try.ntmps16
  go_wp2_with fail
  refine HX.out.mono ?_
  rintro e w1 ⟨rfl, hd1⟩
  go_wp2_with fail
  go_end0
  exact ⟨rfl, hd1⟩
end Go.Proofs.Ytkomcebknllaiaa

/- tenonmake.Spoil at records, and at whatever value can be. -/
namespace Go.Proofs.Ytkomcebknllaiaa
open Go.RowKit

theorem Ws.rec {w : World} {B : Nat → Prop} {n g : Nat} (h : Ws w B (n + 1) (.iface 75 (.pointer (some ⟨g, 0, none⟩)))) :
    ∃ cur a len cap, B g ∧ w.heap[g]? = some (.cells cur 77 (0, 0)) ∧ (∃ s, cur[0]? = some (.string s)) ∧ (∃ i, cur[1]? = some (.int .i64 i)) ∧ cur[2]? = some (.slice a len cap) ∧ len ≤ 4096 ∧ WsF w B n a len cap := by
  rcases h with h | ⟨a, len, cap, h1, h2, h3⟩ | ⟨a, len, cap, h1, h2, h3⟩ | ⟨a, len, cap, h1, h2, h3⟩ | ⟨g', cur, a, len, cap, h1, h2, h3, h4, h5, h6, h7, h8⟩
  · rcases h with h | ⟨T, x, h, _, _, _, h4⟩ | h
    · simp at h
    · injection h with h; exact absurd h.symm h4
    · simp at h
  · injection h1 with h1; exact absurd h1 (by decide)
  · injection h1 with h1; exact absurd h1 (by decide)
  · injection h1 with h1; exact absurd h1 (by decide)
  · simp only [Value.iface.injEq, Value.pointer.injEq, Option.some.injEq, Addr.mk.injEq, and_true, true_and] at h1
    subst h1
    exact ⟨cur, a, len, cap, h2, h3, h4, h5, h6, h7, h8⟩

set_option maxRecDepth 100000 in
set_option maxHeartbeats 1000000 in
theorem spoil_rec (n : Nat) (HC : SpC n) (g : Nat) (B : Nat → Prop) (w : World) (h : Ws w B (n + 1) (.iface 75 (.pointer (some ⟨g, 0, none⟩)))) (hB : Sub B w) :
    Calls Try.prog 16 #[.iface 75 (.pointer (some ⟨g, 0, none⟩))] w fun e w' => e = .returned (.tuple #[]) ∧ Dg B w w' := by
  obtain ⟨cur, a, len, cap, h2, h3, _, _, h6, h7, h8⟩ := Ws.rec h
  have HX : Hid (Calls Try.prog 44 #[.slice a len cap] w fun e w' => e = .returned (.tuple #[]) ∧ Dg B w w') := spoilt_any n HC a len cap B w h7 h8 hB
  obtain ⟨c2, _⟩ := row_cell h3 h6
  have HN : Hid (∀ w1, Dg B w w1 → (∃ u, w1.cell? ⟨g, 0, none⟩ = some u) ∧ w1.frozen? ⟨g, 0, none⟩ = false ∧ (∃ u, w1.cell? ⟨g, 1, none⟩ = some u) ∧ w1.frozen? ⟨g, 1, none⟩ = false ∧ Dg B w ((w1.setCell ⟨g, 0, none⟩ (.string nmSpoilt)).setCell ⟨g, 1, none⟩ (.int .i64 999))) := fun w1 hd => by
    obtain ⟨cu, _, _, _, k2, k3, ⟨s, k4⟩, ⟨i, k5⟩, _⟩ := Ws.rec (Ws.dg hd _ _ h)
    obtain ⟨d0, f0⟩ := row_cell k3 k4
    obtain ⟨d1, f1⟩ := row_cell k3 k5
    exact ⟨⟨_, d0⟩, f0, ⟨_, d1⟩, f1, (hd.trans (Dg.set (v := .string nmSpoilt) k2 k3 (.inr (.inr (.inr ⟨rfl, .inl ⟨rfl, _, rfl⟩⟩))))).trans (Dg.set k2 (heap_setCell_same w1 g 0 _ _ _ k3) (.inr (.inr (.inr ⟨rfl, .inr ⟨rfl, _, rfl⟩⟩))))⟩
  clear h h2 h3 h6 h7 h8 HC
  go_enter Try.func16, Try.ntmps16
  go_wp2_with fail
  refine HX.out.mono ?_
  rintro e w1 ⟨rfl, hd1⟩
  obtain ⟨⟨u, c1⟩, f1, ⟨u2, c2'⟩, f2, hd2⟩ := HN.out w1 hd1
  have HN2 : Hid (Dg B w ((w1.setCell ⟨g, 0, none⟩ (.string nmSpoilt)).setCell ⟨g, 1, none⟩ (.int .i64 999))) := hd2
  clear hd1 hd2
  go_wp2_with fail
  go_end0
  exact ⟨rfl, HN2.out⟩

theorem spoil_any : ∀ n, SpC n
  | 0 => fun v B w h _ => spoil_lf v h B w
  | n + 1 => fun v B w h hB => by
    have ih := spoil_any n
    have h' := h
    rcases h with h | ⟨a, len, cap, rfl, h2, h3⟩ | ⟨a, len, cap, rfl, h2, h3⟩ | ⟨a, len, cap, rfl, h2, h3⟩ | ⟨g', cur, a, len, cap, rfl, h2, h3, h4, h5, h6, h7, h8⟩
    · exact spoil_lf v h B w
    · exact spoil_bytes a len cap B w h2 h3 hB
    · exact spoil_list n ih a len cap B w h2 h3 hB
    · exact spoil_dict n ih a len cap B w h2 h3 hB
    · exact spoil_rec n ih g' B w h' hB

/-- a row that is owned, by its cells -/
theorem Ln.rowk {w : World} {B : Nat → Prop} {e : TypeId} {size : Nat} {a : Option Addr} {n cap : Nat} {P : Nat → Value → Prop} (h : Ln w B e size a n cap) (hP : ∀ g j, a = some ⟨g, 0, none⟩ → j < n * size → ∃ x, w.cell? ⟨g, j, none⟩ = some x ∧ P j x) : Rowk w B e size a n cap P := by
  obtain ⟨h1, ⟨xs, h2, h3⟩, h4⟩ := h
  rcases h3 with ⟨h3, h5⟩ | ⟨g, c, cur, e1, _, e2, e3, e4, e5, _⟩
  · injection h3 with q1 q2 q3
    exact .inl ⟨q1, h5, q3⟩
  · simp only [Value.slice.injEq, true_and] at e1
    obtain ⟨rfl, rfl⟩ := e1
    refine .inr ⟨g, cur, rfl, h4 g 0 none rfl, e2, e3, e4, e5, fun j hj => ?_⟩
    obtain ⟨x, hx, hp⟩ := hP g j rfl hj
    rw [cell_of_row _ _ j _ _ _ e2] at hx
    exact ⟨x, hx, hp⟩
theorem Ws.up {w : World} {B : Nat → Prop} : ∀ n m v, n ≤ m → Ws w B n v → Ws w B m v
  | 0, m, v, _, h => Ws.lf h
  | n + 1, 0, _, h, _ => by omega
  | n + 1, m + 1, v, hm, h => by
    have hl : ∀ (j : Nat) x, Ws w B n x ∧ Shp x → Ws w B m x ∧ Shp x := fun _ x hx => ⟨Ws.up n m x (by omega) hx.1, hx.2⟩
    have hf : ∀ (j : Nat) x, ((j % 2 = 0 → ∃ s, x = .string s) ∧ (j % 2 = 1 → Ws w B n x ∧ Shp x)) → ((j % 2 = 0 → ∃ s, x = .string s) ∧ (j % 2 = 1 → Ws w B m x ∧ Shp x)) := fun j x hx => ⟨hx.1, fun e => hl j x (hx.2 e)⟩
    have hd := Dg.refl B w
    rcases h with h | ⟨a, len, cap, h1, h2, h3⟩ | ⟨a, len, cap, h1, h2, h3⟩ | ⟨a, len, cap, h1, h2, h3⟩ | ⟨g, cur, a, len, cap, h1, h2, h3, h4, h5, h6, h7, h8⟩
    · exact .inl h
    · exact .inr (.inl ⟨a, len, cap, h1, h2, h3⟩)
    · exact .inr (.inr (.inl ⟨a, len, cap, h1, h2, h3.dg hd hl (fun _ _ h => fits_list h)⟩))
    · exact .inr (.inr (.inr (.inl ⟨a, len, cap, h1, h2, h3.dg hd hf (fun _ _ h => fits_field h)⟩)))
    · exact .inr (.inr (.inr (.inr ⟨g, cur, a, len, cap, h1, h2, h3, h4, h5, h6, h7, h8.dg hd hf (fun _ _ h => fits_field h)⟩)))
end Go.Proofs.Ytkomcebknllaiaa

/- A value that can be can be written over; worlds that are alike but for some blocks. -/
namespace Go.Proofs.Ytkomcebknllaiaa
open Go.RowKit

mutual
theorem Tm.ws {w : World} {B : Nat → Prop} : (t : Tm) → ∀ v, t.V w B v → t.Ok → Ws w B t.sz v
  | .mk k b i f tx by' rf l fs c vr, v, hv, ho => by
    obtain ⟨p1, p2, p3, p4⟩ := ho.parts
    obtain ⟨q1, q2, q3, q4, q5⟩ := ho.bounds
    simp only [Tm.V] at hv
    obtain ⟨h1, h2, h3, h4, h5, h6, h7, h8, h9, h10, h11, h12⟩ := hv
    simp only [Tm.sz]
    by_cases k1 : k = 1
    · exact .inl (.inl (h1 k1))
    by_cases k2 : k = 2
    · exact .inl (.inr (.inl ⟨_, _, h2 k2, by decide, by decide, by decide, by decide⟩))
    by_cases k3 : k = 3
    · exact .inl (.inr (.inl ⟨_, _, h3 k3, by decide, by decide, by decide, by decide⟩))
    by_cases k4 : k = 4
    · exact .inl (.inr (.inl ⟨_, _, (h4 k4).1, by decide, by decide, by decide, by decide⟩))
    by_cases k5 : k = 5
    · exact .inl (.inr (.inl ⟨_, _, (h5 k5).1, by decide, by decide, by decide, by decide⟩))
    by_cases k6 : k = 6
    · obtain ⟨a, cap, e, hl, hb⟩ := h6 k6
      refine .inr (.inl ⟨a, _, cap, e, q2 k6, hl.rowk fun g j ha hj => ?_⟩)
      obtain ⟨g', o, e', _, hc⟩ := hb j (by omega)
      rw [ha] at e'
      simp only [Option.some.injEq, Addr.mk.injEq, and_true] at e'
      obtain ⟨rfl, rfl⟩ := e'
      exact ⟨_, by rw [← Nat.zero_add j]; exact hc, _, rfl, (byte_bd _ _).1, (byte_bd _ _).2⟩
    by_cases k7 : k = 7
    · exact .inl (.inr (.inl ⟨_, _, h7 k7, by decide, by decide, by decide, by decide⟩))
    by_cases k8 : k = 8
    · obtain ⟨a, cap, e, hl, hb⟩ := h8 k8
      refine .inr (.inr (.inl ⟨a, _, cap, e, q3 k8, hl.rowk fun g j ha hj => ?_⟩))
      obtain ⟨x, hx, hw, hs⟩ := TmL.ws l a 0 hb (p3 k8) g ha j (by omega)
      exact ⟨x, by rw [← Nat.zero_add j]; exact hx, Ws.up _ _ _ (by omega) hw, hs⟩
    by_cases k9 : k = 9
    · obtain ⟨a, cap, e, hl, hb⟩ := h9 k9
      refine .inr (.inr (.inr (.inl ⟨a, _, cap, e, (TmF.nm (q4 (.inl k9))).1, hl.rowk fun g j ha hj => ?_⟩)))
      obtain ⟨⟨s, hn⟩, x, hx, hw, hs⟩ := TmF.ws fs a 0 hb (p4 (.inl k9)) g ha (j / 2) (by omega)
      rw [Nat.zero_add] at hn hx
      by_cases hj2 : j % 2 = 0
      · exact ⟨_, by rw [show j = j / 2 * 2 by omega]; exact hn, fun _ => ⟨s, rfl⟩, fun h => by omega⟩
      · exact ⟨_, by rw [show j = j / 2 * 2 + 1 by omega]; exact hx, fun h => absurd h hj2, fun _ => ⟨Ws.up _ _ _ (by omega) hw, hs⟩⟩
    by_cases k10 : k = 10
    · obtain ⟨g, a, cap, e, hg, c0, c1, c2, ⟨_, cur, hcur⟩, hl, hb⟩ := h10 k10
      rw [cell_of_row _ _ _ _ _ _ hcur] at c0 c1 c2
      refine .inr (.inr (.inr (.inr ⟨g, cur, a, _, cap, e, hg, hcur, ⟨_, c0⟩, ⟨_, c1⟩, c2, (TmF.nm (q4 (.inr k10))).1, hl.rowk fun g j ha hj => ?_⟩)))
      obtain ⟨⟨s, hn⟩, x, hx, hw, hs⟩ := TmF.ws fs a 0 hb (p4 (.inr k10)) g ha (j / 2) (by omega)
      rw [Nat.zero_add] at hn hx
      by_cases hj2 : j % 2 = 0
      · exact ⟨_, by rw [show j = j / 2 * 2 by omega]; exact hn, fun _ => ⟨s, rfl⟩, fun h => by omega⟩
      · exact ⟨_, by rw [show j = j / 2 * 2 + 1 by omega]; exact hx, fun h => absurd h hj2, fun _ => ⟨Ws.up _ _ _ (by omega) hw, hs⟩⟩
    omega
theorem TmL.ws {w : World} {B : Nat → Prop} : (l : TmL) → ∀ a k, l.V w B a k → l.Ok → ∀ g, a = some ⟨g, 0, none⟩ → ∀ j, j < l.len → ∃ x, w.cell? ⟨g, k + j, none⟩ = some x ∧ Ws w B l.sz x ∧ Shp x
  | .nil, _, _, _, _, _, _, j, hj => by simp [TmL.len] at hj
  | .cons t l, a, k, h, ho, g, ha, j, hj => by
    simp only [TmL.V] at h
    obtain ⟨g', o, v, e, _, hc, ht, hl⟩ := h
    subst ha
    simp only [Option.some.injEq, Addr.mk.injEq, and_true] at e
    obtain ⟨rfl, rfl⟩ := e
    simp only [TmL.sz]
    cases j with
    | zero => exact ⟨v, by rw [Nat.zero_add] at hc; exact hc, Ws.up _ _ _ (by omega) (Tm.ws t v ht ho.head.1), t.V_shape v ht⟩
    | succ j =>
      obtain ⟨x, hx, hw, hs⟩ := TmL.ws l _ (k + 1) hl ho.head.2 g rfl j (by simp [TmL.len] at hj; omega)
      exact ⟨x, by rw [show k + (j + 1) = k + 1 + j by omega]; exact hx, Ws.up _ _ _ (by omega) hw, hs⟩
theorem TmF.ws {w : World} {B : Nat → Prop} : (l : TmF) → ∀ a k, l.V w B a k → l.Ok → ∀ g, a = some ⟨g, 0, none⟩ → ∀ j, j < l.len → (∃ s, w.cell? ⟨g, (k + j) * 2, none⟩ = some (.string s)) ∧ ∃ x, w.cell? ⟨g, (k + j) * 2 + 1, none⟩ = some x ∧ Ws w B l.sz x ∧ Shp x
  | .nil, _, _, _, _, _, _, j, hj => by simp [TmF.len] at hj
  | .cons n t l, a, k, h, ho, g, ha, j, hj => by
    simp only [TmF.V] at h
    obtain ⟨g', o, v, e, _, hn, hc, _, ht, hl⟩ := h
    subst ha
    simp only [Option.some.injEq, Addr.mk.injEq, and_true] at e
    obtain ⟨rfl, rfl⟩ := e
    simp only [TmF.sz]
    rw [Nat.zero_add] at hn hc
    cases j with
    | zero => exact ⟨⟨n, hn⟩, v, hc, Ws.up _ _ _ (by omega) (Tm.ws t v ht ho.head.1), t.V_shape v ht⟩
    | succ j =>
      obtain ⟨hs', x, hx, hw, hs⟩ := TmF.ws l _ (k + 1) hl ho.head.2 g rfl j (by simp [TmF.len] at hj; omega)
      rw [show k + (j + 1) = k + 1 + j by omega]
      exact ⟨hs', x, hx, Ws.up _ _ _ (by omega) hw, hs⟩
end

/-- Spoil of a value that lies in B: nothing else is written -/
theorem Spoil_any (t : Tm) (v : Value) (B : Nat → Prop) (w : World) (h : t.V w B v) (hB : Sub B w) (he : (t.wk 1 0 0).e = 0) :
    Calls Try.prog 16 #[v] w fun e w' => e = .returned (.tuple #[]) ∧ Dg B w w' :=
  spoil_any t.sz v B w (t.ws v h ⟨1, 0, 0, he⟩) hB

/-- w' is w with blocks more; those of w that D does not name are as they were -/
structure Far (D : Nat → Prop) (w w' : World) : Prop where
  os : w'.os = w.os
  tape : w'.tape = w.tape
  output : w'.output = w.output
  size : w.heap.size ≤ w'.heap.size
  block : ∀ k, k < w.heap.size → ¬ D k → w'.heap[k]? = w.heap[k]?
theorem Far.of {D : Nat → Prop} {w w' : World} (h : Below w.heap.size w w') : Far D w w' := ⟨h.os, h.tape, h.output, h.size, fun k hk _ => h.block k hk⟩
theorem Far.call {D : Nat → Prop} {w w1 w2 : World} (h : Far D w w1) (k : Below w1.heap.size w1 w2) : Far D w w2 :=
  ⟨k.os.trans h.os, k.tape.trans h.tape, k.output.trans h.output, Nat.le_trans h.size k.size, fun i hi hn => (k.block i (Nat.lt_of_lt_of_le hi h.size)).trans (h.block i hi hn)⟩
theorem Far.dg {D E : Nat → Prop} {w w1 w2 : World} (h : Far D w w1) (k : Dg E w1 w2) (hE : ∀ k, E k → D k) : Far D w w2 :=
  ⟨k.os.trans h.os, k.tape.trans h.tape, k.output.trans h.output, Nat.le_trans h.size k.size, fun i hi hn => (k.far i (Nat.lt_of_lt_of_le hi h.size) (fun e => hn (hE i e))).trans (h.block i hi hn)⟩
theorem Far.mono {D E : Nat → Prop} {w w1 : World} (h : Far D w w1) (hE : ∀ k, D k → E k) : Far E w w1 := ⟨h.os, h.tape, h.output, h.size, fun i hi hn => h.block i hi (fun e => hn (hE i e))⟩
theorem Far.same {D S : Nat → Prop} {w w1 : World} (h : Far D w w1) (hS : ∀ k, S k → k < w.heap.size ∧ ¬ D k) : Same S w w1 := fun k hk => h.block k (hS k hk).1 (hS k hk).2
theorem Far.below {D : Nat → Prop} {w0 w w1 : World} (h : Far D w w1) (h0 : Below w0.heap.size w0 w) (hD : ∀ k, D k → w0.heap.size ≤ k) : Below w0.heap.size w0 w1 :=
  ⟨h.os.trans h0.os, h.tape.trans h0.tape, h.output.trans h0.output, Nat.le_trans h0.size h.size, fun k hk => (h.block k (Nat.lt_of_lt_of_le hk h0.size) (fun e => by have := hD k e; omega)).trans (h0.block k hk)⟩
end Go.Proofs.Ytkomcebknllaiaa

/- Two boxes in new memory, each with a term's eleven cells. -/
namespace Go.Proofs.Ytkomcebknllaiaa
open Go.RowKit

def two (w : World) (a b : Array Value) : World := (w.alloc (.cells a 29 (0, 0))).alloc (.cells b 29 (0, 0))
end Go.Proofs.Ytkomcebknllaiaa

/- tenonmake.Plain and Is at a value that can be. -/
namespace Go.Proofs.Ytkomcebknllaiaa
open Go.RowKit

set_option maxRecDepth 100000 in
set_option maxHeartbeats 1000000 in
theorem mPlain_any (t : Tm) (v : Value) (w : World) (S : Nat → Prop) (h : t.V w S v) (hS : Sub S w) (he : t.all.e = 0) (hb : t.Bdd) :
    Calls Try.prog 26 #[v] w fun e w' => ∃ k b i f tx ab nb cb rf al nl cl af nf cf c vr, e = .returned (.agg (tcells k b i f tx (.slice ab nb cb) rf (.slice al nl cl) (.slice af nf cf) c vr)) ∧ Below w.heap.size w w' ∧ t.clean.In w' (Fr w w') (tcells k b i f tx (.slice ab nb cb) rf (.slice al nl cl) (.slice af nf cf) c vr) := by
  have HT := (plain_any t.sz).at (deep := 0) (n := 1) (Nat.le_refl _) h hS ⟨0, 0, he⟩ hb (by decide) (by decide)
  have HT : Hid _ := HT
  unfold tcells at HT
  clear h he hb
  unfold tcells
  go_enter Try.func26, Try.ntmps26
  go_wp2_with fail
  refine (HT.out _ ((Below.refl _ _).alloc (Nat.le_refl _) _)).mono ?_
  rintro e w1 ⟨k1, b1, i1, f1, tx1, ab1, nb1, cb1, rf1, al1, nl1, cl1, af1, nf1, cf1, cc1, vr1, rfl, hb1, hv1⟩
  obtain ⟨hR, hbw, hsz⟩ := box_at1 hb1
  obtain ⟨r0, r1, r2, r3, r4, r5, r6, r7, r8, r9, r10⟩ := tbox hR
  have hf := box_writes hR
  have z0 := hf 0; have z1 := hf 1; have z2 := hf 2; have z3 := hf 3; have z4 := hf 4; have z5 := hf 5; have z6 := hf 6; have z7 := hf 7; have z8 := hf 8; have z9 := hf 9; have z10 := hf 10
  have HE : Hid (Below w.heap.size w (setN w1 w.heap.size 0 [.int .i64 k1, .bool b1, .int .i64 i1, .float .f64 f1, .string tx1, .slice ab1 nb1 cb1, .int .u64 rf1, .slice al1 nl1 cl1, .slice af1 nf1 cf1, .string cc1, .int .i64 vr1]) ∧ t.clean.In (setN w1 w.heap.size 0 [.int .i64 k1, .bool b1, .int .i64 i1, .float .f64 f1, .string tx1, .slice ab1 nb1 cb1, .int .u64 rf1, .slice al1 nl1 cl1, .slice af1 nf1 cf1, .string cc1, .int .i64 vr1]) (Fr w (setN w1 w.heap.size 0 [.int .i64 k1, .bool b1, .int .i64 i1, .float .f64 f1, .string tx1, .slice ab1 nb1 cb1, .int .u64 rf1, .slice al1 nl1 cl1, .slice af1 nf1 cf1, .string cc1, .int .i64 vr1])) #[.int .i64 k1, .bool b1, .int .i64 i1, .float .f64 f1, .string tx1, .slice ab1 nb1 cb1, .int .u64 rf1, .slice al1 nl1 cl1, .slice af1 nf1 cf1, .string cc1, .int .i64 vr1]) := by
    refine ⟨setN_below (Nat.le_refl _) _ _ _ _ hbw, t.clean.In_same (fun k hk => setN_other (by have := hk.1; simp at this; omega) _ _ _) (fun k hk => ⟨by have := hk.1; simp at this; omega, by rw [setN_size]; exact hk.2⟩) _ hv1⟩
  clear hb1 hv1 hR hbw hf
  go_wp2_with fail
  refine bodyPost_ret (v := .agg #[.int .i64 k1, .bool b1, .int .i64 i1, .float .f64 f1, .string tx1, .slice ab1 nb1 cb1, .int .u64 rf1, .slice al1 nl1 cl1, .slice af1 nf1 cf1, .string cc1, .int .i64 vr1]) (by simp [results, Try.results26, go_sem, r0, r1, r2, r3, r4, r5, r6, r7, r8, r9, r10]) rfl ⟨k1, b1, i1, f1, tx1, ab1, nb1, cb1, rf1, al1, nl1, cl1, af1, nf1, cf1, cc1, vr1, rfl, HE.out.1, HE.out.2⟩

set_option maxRecDepth 100000 in
set_option maxHeartbeats 1000000 in
theorem Is_any (t : Tm) (v : Value) (ct : Array Value) (w : World) (S : Nat → Prop) (h : t.V w S v) (hi : t.In w S ct) (hS : Sub S w) (he : t.all.e = 0) :
    Calls Try.prog 14 #[v, .agg ct] w fun e w' => e = .returned (.bool true) ∧ Below w.heap.size w w' := by
  have hb := Tm.In_bdd t ct hi
  have HP : Hid (∀ W, Below w.heap.size w W → Calls Try.prog 26 #[v] W fun e w' => ∃ k b i f tx ab nb cb rf al nl cl af nf cf c vr, e = .returned (.agg (tcells k b i f tx (.slice ab nb cb) rf (.slice al nl cl) (.slice af nf cf) c vr)) ∧ Below W.heap.size W w' ∧ t.clean.In w' (Fr W w') (tcells k b i f tx (.slice ab nb cb) rf (.slice al nl cl) (.slice af nf cf) c vr)) := fun W hW =>
    mPlain_any t v W S (t.V_same (hS.same hW) (fun _ h => h) v h) (hS.later hW) he hb
  have HM : Hid (∀ W W' cs, Below w.heap.size w W → Below W.heap.size W W' → t.clean.In W' (Fr W W') cs → Calls Try.prog 22 #[.agg cs, .agg ct] W' fun e w' => e = .returned (.bool true) ∧ Below W'.heap.size W' w') := fun W W' cs hW hW' hc => by
    have hz := hW'.size
    exact msame_any t.clean.sz t.clean t (Nat.le_refl _) (Tm.clean_eqv t (Tm.ok_all he)) cs ct (Lo W'.heap.size) W' (t.clean.In_same (Same.refl _ _) (fun k hk => hk.2) cs hc) (t.In_same (hS.same (below_to hW hW')) (fun k hk => Nat.lt_of_lt_of_le (hS k hk) (Nat.le_trans hW.size hz)) ct hi) (Sub.lo (Nat.le_refl _))
  obtain ⟨b2, i2, f2, tx2, vb2, rf2, vl2, vf2, c2, vr2, rfl⟩ := Tm.In_box hi
  clear h hi he hb
  unfold tcells at HP HM ⊢
  go_enter Try.func14, Try.ntmps14
  have HX : Hid (∀ W, Below (w.alloc (.cells #[.int .i64 t.kind, .bool b2, .int .i64 i2, .float .f64 f2, .string tx2, vb2, .int .u64 rf2, vl2, vf2, .string c2, .int .i64 vr2] 29)).heap.size (w.alloc (.cells #[.int .i64 t.kind, .bool b2, .int .i64 i2, .float .f64 f2, .string tx2, vb2, .int .u64 rf2, vl2, vf2, .string c2, .int .i64 vr2] 29)) W → (W.cell? ⟨w.heap.size, 0, none⟩ = some (.int .i64 t.kind) ∧ W.cell? ⟨w.heap.size, 1, none⟩ = some (.bool b2) ∧ W.cell? ⟨w.heap.size, 2, none⟩ = some (.int .i64 i2) ∧ W.cell? ⟨w.heap.size, 3, none⟩ = some (.float .f64 f2) ∧ W.cell? ⟨w.heap.size, 4, none⟩ = some (.string tx2) ∧ W.cell? ⟨w.heap.size, 5, none⟩ = some (vb2) ∧ W.cell? ⟨w.heap.size, 6, none⟩ = some (.int .u64 rf2) ∧ W.cell? ⟨w.heap.size, 7, none⟩ = some (vl2) ∧ W.cell? ⟨w.heap.size, 8, none⟩ = some (vf2) ∧ W.cell? ⟨w.heap.size, 9, none⟩ = some (.string c2) ∧ W.cell? ⟨w.heap.size, 10, none⟩ = some (.int .i64 vr2)) ∧ Below w.heap.size w W) := fun W hW => ⟨tbox (box_at1 hW).1, (box_at1 hW).2.1⟩
  go_wp2_with fail
  go_region_held3 (fun W => W.cell? ⟨w.heap.size, 0, none⟩ = some (.int .i64 t.kind) ∧ W.cell? ⟨w.heap.size, 1, none⟩ = some (.bool b2) ∧ W.cell? ⟨w.heap.size, 2, none⟩ = some (.int .i64 i2) ∧ W.cell? ⟨w.heap.size, 3, none⟩ = some (.float .f64 f2) ∧ W.cell? ⟨w.heap.size, 4, none⟩ = some (.string tx2) ∧ W.cell? ⟨w.heap.size, 5, none⟩ = some (vb2) ∧ W.cell? ⟨w.heap.size, 6, none⟩ = some (.int .u64 rf2) ∧ W.cell? ⟨w.heap.size, 7, none⟩ = some (vl2) ∧ W.cell? ⟨w.heap.size, 8, none⟩ = some (vf2) ∧ W.cell? ⟨w.heap.size, 9, none⟩ = some (.string c2) ∧ W.cell? ⟨w.heap.size, 10, none⟩ = some (.int .i64 vr2))
    (first | with_reducible exact (HX.out w2 HB2.out).1 | with_reducible exact (HX.out w1 HB1.out).1 | exact (HX.out _ (Below.refl _ _)).1 | exact (HX.out _ (Below.refl _ _).drew).1)
    ((first
      | (go_at_call 26; refine (HP.out _ ?_).mono ?_; exact (HX.out _ (Below.refl _ _).drew).2; rintro e w1 ⟨k1, b1, i1, f1, tx1, ab1, nb1, cb1, rf1, al1, nl1, cl1, af1, nf1, cf1, cc1, vr1, rfl, hb1, hv1⟩; have HB1 : Hid (Below (w.alloc (.cells #[.int .i64 t.kind, .bool b2, .int .i64 i2, .float .f64 f2, .string tx2, vb2, .int .u64 rf2, vl2, vf2, .string c2, .int .i64 vr2] 29)).heap.size (w.alloc (.cells #[.int .i64 t.kind, .bool b2, .int .i64 i2, .float .f64 f2, .string tx2, vb2, .int .u64 rf2, vl2, vf2, .string c2, .int .i64 vr2] 29)) w1) := below_to (Below.refl _ _).drew hb1; have HBd : Hid _ := hb1; have HV1 : Hid _ := hv1; clear hb1 hv1)
      | (go_at_call 22; refine (HM.out _ w1 _ (HX.out _ (Below.refl _ _).drew).2 HBd.out HV1.out).mono ?_; rintro e w2 ⟨rfl, hb2⟩; have HB2 : Hid (Below (w.alloc (.cells #[.int .i64 t.kind, .bool b2, .int .i64 i2, .float .f64 f2, .string tx2, vb2, .int .u64 rf2, vl2, vf2, .string c2, .int .i64 vr2] 29)).heap.size (w.alloc (.cells #[.int .i64 t.kind, .bool b2, .int .i64 i2, .float .f64 f2, .string tx2, vb2, .int .u64 rf2, vl2, vf2, .string c2, .int .i64 vr2] 29)) w2) := below_to HB1.out hb2; clear hb2)))
  go_wp2_with fail
  go_ret
  exact ⟨rfl, (HX.out w2 HB2.out).2⟩
end Go.Proofs.Ytkomcebknllaiaa

