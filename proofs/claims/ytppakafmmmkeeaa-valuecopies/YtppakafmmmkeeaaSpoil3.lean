/- tenonmake.Spoil at records, and at whatever value can be. -/
import Derived.Test.YtppakafmmmkeeaaSpoil2
namespace Go.Proofs.Ytppakafmmmkeeaa
open Go.RowKit

theorem Ws.rec {w : World} {B : Nat → Prop} {n g : Nat} (h : Ws w B (n + 1) (.iface 55 (.pointer (some ⟨g, 0, none⟩)))) :
    ∃ cur a len cap, B g ∧ w.heap[g]? = some (.cells cur 69 (0, 0)) ∧ (∃ s, cur[0]? = some (.string s)) ∧ (∃ i, cur[1]? = some (.int .i64 i)) ∧ cur[2]? = some (.slice a len cap) ∧ len ≤ 4096 ∧ WsF w B n a len cap := by
  rcases h with h | ⟨a, len, cap, h1, h2, h3⟩ | ⟨a, len, cap, h1, h2, h3⟩ | ⟨a, len, cap, h1, h2, h3⟩ | ⟨g', cur, a, len, cap, h1, h2, h3, h4, h5, h6, h7, h8⟩
  · rcases h with h | ⟨T, x, h, _, _, _, h4⟩ | h
    · simp at h
    · injection h with h; exact absurd h.symm h4
    · simp at h
  · injection h1 with h1; exact absurd h1 (by decide)
  · injection h1 with h1; exact absurd h1 (by decide)
  · injection h1 with h1; exact absurd h1 (by decide)
  · simp only [Value.iface.injEq, Value.pointer.injEq, Option.some.injEq, Addr.mk.injEq, and_true, true_and] at h1
    subst h1
    exact ⟨cur, a, len, cap, h2, h3, h4, h5, h6, h7, h8⟩

set_option maxRecDepth 100000 in
set_option maxHeartbeats 1000000 in
theorem spoil_rec (n : Nat) (HC : SpC n) (g : Nat) (B : Nat → Prop) (w : World) (h : Ws w B (n + 1) (.iface 55 (.pointer (some ⟨g, 0, none⟩)))) (hB : Sub B w) :
    Calls Try.prog 21 #[.iface 55 (.pointer (some ⟨g, 0, none⟩))] w fun e w' => e = .returned (.tuple #[]) ∧ Dg B w w' := by
  obtain ⟨cur, a, len, cap, h2, h3, _, _, h6, h7, h8⟩ := Ws.rec h
  have HX : Hid (Calls Try.prog 40 #[.slice a len cap] w fun e w' => e = .returned (.tuple #[]) ∧ Dg B w w') := spoilt_any n HC a len cap B w h7 h8 hB
  obtain ⟨c2, _⟩ := row_cell h3 h6
  have HN : Hid (∀ w1, Dg B w w1 → (∃ u, w1.cell? ⟨g, 0, none⟩ = some u) ∧ w1.frozen? ⟨g, 0, none⟩ = false ∧ (∃ u, w1.cell? ⟨g, 1, none⟩ = some u) ∧ w1.frozen? ⟨g, 1, none⟩ = false ∧ Dg B w ((w1.setCell ⟨g, 0, none⟩ (.string nmSpoilt)).setCell ⟨g, 1, none⟩ (.int .i64 999))) := fun w1 hd => by
    obtain ⟨cu, _, _, _, k2, k3, ⟨s, k4⟩, ⟨i, k5⟩, _⟩ := Ws.rec (Ws.dg hd _ _ h)
    obtain ⟨d0, f0⟩ := row_cell k3 k4
    obtain ⟨d1, f1⟩ := row_cell k3 k5
    exact ⟨⟨_, d0⟩, f0, ⟨_, d1⟩, f1, (hd.trans (Dg.set (v := .string nmSpoilt) k2 k3 (.inr (.inr (.inr ⟨rfl, .inl ⟨rfl, _, rfl⟩⟩))))).trans (Dg.set k2 (heap_setCell_same w1 g 0 _ _ _ k3) (.inr (.inr (.inr ⟨rfl, .inr ⟨rfl, _, rfl⟩⟩))))⟩
  clear h h2 h3 h6 h7 h8 HC
  go_enter Try.func21, Try.ntmps21
  go_wp2_with fail
  refine HX.out.mono ?_
  rintro e w1 ⟨rfl, hd1⟩
  obtain ⟨⟨u, c1⟩, f1, ⟨u2, c2'⟩, f2, hd2⟩ := HN.out w1 hd1
  have HN2 : Hid (Dg B w ((w1.setCell ⟨g, 0, none⟩ (.string nmSpoilt)).setCell ⟨g, 1, none⟩ (.int .i64 999))) := hd2
  clear hd1 hd2
  go_wp2_with fail
  go_end0
  exact ⟨rfl, HN2.out⟩

theorem spoil_any : ∀ n, SpC n
  | 0 => fun v B w h _ => spoil_lf v h B w
  | n + 1 => fun v B w h hB => by
    have ih := spoil_any n
    have h' := h
    rcases h with h | ⟨a, len, cap, rfl, h2, h3⟩ | ⟨a, len, cap, rfl, h2, h3⟩ | ⟨a, len, cap, rfl, h2, h3⟩ | ⟨g', cur, a, len, cap, rfl, h2, h3, h4, h5, h6, h7, h8⟩
    · exact spoil_lf v h B w
    · exact spoil_bytes a len cap B w h2 h3 hB
    · exact spoil_list n ih a len cap B w h2 h3 hB
    · exact spoil_dict n ih a len cap B w h2 h3 hB
    · exact spoil_rec n ih g' B w h' hB

/-- a row that is owned, by its cells -/
theorem Ln.rowk {w : World} {B : Nat → Prop} {e : TypeId} {size : Nat} {a : Option Addr} {n cap : Nat} {P : Nat → Value → Prop} (h : Ln w B e size a n cap) (hP : ∀ g j, a = some ⟨g, 0, none⟩ → j < n * size → ∃ x, w.cell? ⟨g, j, none⟩ = some x ∧ P j x) : Rowk w B e size a n cap P := by
  obtain ⟨h1, ⟨xs, h2, h3⟩, h4⟩ := h
  rcases h3 with ⟨h3, h5⟩ | ⟨g, c, cur, e1, _, e2, e3, e4, e5, _⟩
  · injection h3 with q1 q2 q3
    exact .inl ⟨q1, h5, q3⟩
  · simp only [Value.slice.injEq, true_and] at e1
    obtain ⟨rfl, rfl⟩ := e1
    refine .inr ⟨g, cur, rfl, h4 g 0 none rfl, e2, e3, e4, e5, fun j hj => ?_⟩
    obtain ⟨x, hx, hp⟩ := hP g j rfl hj
    rw [cell_of_row _ _ j _ _ _ e2] at hx
    exact ⟨x, hx, hp⟩
theorem Ws.up {w : World} {B : Nat → Prop} : ∀ n m v, n ≤ m → Ws w B n v → Ws w B m v
  | 0, m, v, _, h => Ws.lf h
  | n + 1, 0, _, h, _ => by omega
  | n + 1, m + 1, v, hm, h => by
    have hl : ∀ (j : Nat) x, Ws w B n x ∧ Shp x → Ws w B m x ∧ Shp x := fun _ x hx => ⟨Ws.up n m x (by omega) hx.1, hx.2⟩
    have hf : ∀ (j : Nat) x, ((j % 2 = 0 → ∃ s, x = .string s) ∧ (j % 2 = 1 → Ws w B n x ∧ Shp x)) → ((j % 2 = 0 → ∃ s, x = .string s) ∧ (j % 2 = 1 → Ws w B m x ∧ Shp x)) := fun j x hx => ⟨hx.1, fun e => hl j x (hx.2 e)⟩
    have hd := Dg.refl B w
    rcases h with h | ⟨a, len, cap, h1, h2, h3⟩ | ⟨a, len, cap, h1, h2, h3⟩ | ⟨a, len, cap, h1, h2, h3⟩ | ⟨g, cur, a, len, cap, h1, h2, h3, h4, h5, h6, h7, h8⟩
    · exact .inl h
    · exact .inr (.inl ⟨a, len, cap, h1, h2, h3⟩)
    · exact .inr (.inr (.inl ⟨a, len, cap, h1, h2, h3.dg hd hl (fun _ _ h => fits_list h)⟩))
    · exact .inr (.inr (.inr (.inl ⟨a, len, cap, h1, h2, h3.dg hd hf (fun _ _ h => fits_field h)⟩)))
    · exact .inr (.inr (.inr (.inr ⟨g, cur, a, len, cap, h1, h2, h3, h4, h5, h6, h7, h8.dg hd hf (fun _ _ h => fits_field h)⟩)))
end Go.Proofs.Ytppakafmmmkeeaa
