/- The statement's own: hand and left. -/
import Derived.Test.YthnanblilofdpaaDoorPParse
import Derived.Test.YthnanblilofdpaaDoorPSame
namespace Go.Proofs.YthnanblilofdpaaDoor
open Go.RowKit

/-- the mark behind a way -/
def Stp.behind : Stp := ⟨⟨#[98, 101, 104, 105, 110, 100]⟩, false, 0⟩

theorem app_nil (ty : TypeId) (g : Nat) (ab : Option Addr) (cb : Nat) (w : World) : (Builtin.append_ #[22, 22] ty #[.slice (some ⟨g, 0, none⟩) 0 0, .slice ab 0 cb]).run Tryd.prog w = .ok (.slice (some ⟨g, 0, none⟩) 0 0) w := by
  cases ab <;> kernel_rfl

theorem rdw_cells {w : World} {b g o : Nat} {l : List Stp} (h : Rdw w b (some ⟨g, o, none⟩) l) : ∀ j u, (Sp.wcells l)[j]? = some u → w.cell? ((⟨g, o, none⟩ : Addr).add j) = some u := by
  intro j u hu
  have hj := (List.getElem?_eq_some_iff.1 hu).1
  rw [wcells_len] at hj
  have hq : j / 3 < l.length := by omega
  obtain ⟨g', o', e, hg, c0, c1, c2, _⟩ := h (j / 3) l[j / 3] (List.getElem?_eq_getElem hq)
  simp only [Option.some.injEq, Addr.mk.injEq, and_true] at e
  obtain ⟨rfl, rfl⟩ := e
  obtain ⟨k0, k1, k2⟩ := wcells_at l (j / 3) l[j / 3] (List.getElem?_eq_getElem hq)
  rw [addr_add]
  have hm : j % 3 = 0 ∨ j % 3 = 1 ∨ j % 3 = 2 := by omega
  rcases hm with hm | hm | hm
  · have ej : j = j / 3 * 3 := by omega
    rw [ej] at hu ⊢
    rw [k0] at hu; rw [c0]; exact hu
  · have ej : j = j / 3 * 3 + 1 := by omega
    rw [ej] at hu ⊢
    rw [k1] at hu; rw [← Nat.add_assoc, c1]; exact hu
  · have ej : j = j / 3 * 3 + 2 := by omega
    rw [ej] at hu ⊢
    rw [k2] at hu; rw [← Nat.add_assoc, c2]; exact hu

set_option maxRecDepth 100000 in
set_option maxHeartbeats 4000000 in
theorem hand_any (l : List Stp) (a : Option Addr) (cap : Nat) (w : World) (h : Rdw w w.heap.size a l) (hl : l.length * 32 ≤ 140737488351232) :
    Calls Tryd.prog 4 #[.slice a l.length cap] w fun e w' => ∃ g cap', e = .returned (.slice (some ⟨g, 0, none⟩) (l.length + 1) cap') ∧ w'.ownsRow w.heap.size 32 3 (.slice (some ⟨g, 0, none⟩) (l.length + 1) cap') (l.length + 1) (Sp.wcells (l ++ [Stp.behind])) ∧ Below w.heap.size w w' := by
  obtain ⟨i0, hi, hz0, hz1, hz2⟩ := info_parts Tryd.infoW
  by_cases h0 : l.length = 0
  · have hl0 : l = [] := List.length_eq_zero_iff.1 h0
    subst hl0
    have HO0 : Hid ((w.alloc (.cells #[] 32)).ownsRow w.heap.size 32 3 (.slice (some ⟨w.heap.size, 0, none⟩) 0 0) 0 []) := ⟨rfl, .inr ⟨w.heap.size, 0, #[], rfl, Nat.le_refl _, heap_alloc_new w _, Nat.le_refl _, by simp [maxLen], rfl, rfl⟩⟩
    have HX2 : Hid (((w.alloc (.cells #[] 32)).alloc (.cells #[.string ⟨#[98, 101, 104, 105, 110, 100]⟩, .bool false, .int .i64 0] 32)).ownsRow w.heap.size 32 3 (.slice (some ⟨w.heap.size, 0, none⟩) 0 0) 0 (([] : List Value)) ∧ (∀ j u, Stp.behind.cells[j]? = some u → ((w.alloc (.cells #[] 32)).alloc (.cells #[.string ⟨#[98, 101, 104, 105, 110, 100]⟩, .bool false, .int .i64 0] 32)).cell? ((⟨w.heap.size + 1, 0, none⟩ : Addr).add j) = some u) ∧ Below w.heap.size w ((w.alloc (.cells #[] 32)).alloc (.cells #[.string ⟨#[98, 101, 104, 105, 110, 100]⟩, .bool false, .int .i64 0] 32)) ∧ w.heap.size ≤ (w.alloc (.cells #[] 32)).heap.size) := ⟨HO0.out.alloc _, news_at _ Stp.behind _ (by simp), below_to ((Below.refl _ _).alloc (Nat.le_refl _) _) ((Below.refl _ _).alloc (Nat.le_refl _) _), by simp⟩
    have hz : ([] : List Stp).length = 0 := rfl
    rw [hz]
    go_enter Tryd.func4, Tryd.ntmps4
    go_wp2_with (first | (at_builtin; have hq := HX3.out; refine wpList_app _ rfl _ _ 22 rfl w.heap.size 32 i0 (.agg #[.string ByteArray.empty, .bool false, .int .i64 0]) 3 32 Tryd.undW hi hz0 hz1 hz2 rfl (by decide) _ 0 [] rfl HX2.out.1 ⟨_, 0, none⟩ 1 1 Stp.behind.cells rfl rfl HX2.out.2.1 (cells_one _) (by decide) (by unfold maxLen; omega) (by omega) (by have := HX2.out.2.2.2; simp; omega) ?_; intro g2 cap2 w4 hown2 hgrow2 hor2) | (at_builtin; refine wpList_ran _ rfl _ _ 22 rfl _ _ _ _ rfl rfl (app_nil _ _ _ _ _) ?_; have HX3 : Hid True := trivial))
    go_ret
    refine ⟨g2, cap2, rfl, ?_, ?_⟩
    · simpa [Sp.wcells] using hown2
    · exact HX2.out.2.2.1.grown hgrow2 (by simp; omega) (fun q hq => own_ge HX2.out.1 hq)
  · obtain ⟨g, o, rfl, hg, _, _, _, _⟩ := h 0 l[0] (List.getElem?_eq_getElem (by omega))
    have HNW : Hid (∀ j u, (Sp.wcells l)[j]? = some u → (w.alloc (.cells #[] 32)).cell? ((⟨g, o, none⟩ : Addr).add j) = some u) := fun j u hu => by
      have := rdw_cells h j u hu
      rw [addr_add] at this ⊢
      rw [((Below.refl w.heap.size w).alloc (Nat.le_refl _) _).cell (p := ⟨g, o + j, none⟩) hg]
      exact this
    have HO : Hid ((w.alloc (.cells #[] 32)).ownsRow w.heap.size 32 3 (.slice (some ⟨w.heap.size, 0, none⟩) 0 0) 0 []) := ⟨rfl, .inr ⟨w.heap.size, 0, #[], rfl, Nat.le_refl _, heap_alloc_new w _, Nat.le_refl _, by simp [maxLen], rfl, rfl⟩⟩
    have hp : 0 < l.length := by omega
    go_enter Tryd.func4, Tryd.ntmps4
    go_wp2_with (first | (at_builtin; have hq := HX2.out; refine wpList_app _ rfl _ _ 22 rfl w.heap.size 32 i0 (.agg #[.string ByteArray.empty, .bool false, .int .i64 0]) 3 32 Tryd.undW hi hz0 hz1 hz2 rfl (by decide) _ l.length (Sp.wcells l) rfl HX2.out.1 ⟨_, 0, none⟩ 1 1 Stp.behind.cells rfl rfl HX2.out.2.1 (cells_one _) (by decide) (by unfold maxLen; omega) (by omega) (by have := HX2.out.2.2.2; simp; omega) ?_; intro g2 cap2 w4 hown2 hgrow2 hor2) | (at_builtin; refine wpList_app _ rfl _ _ 22 rfl w.heap.size 32 i0 (.agg #[.string ByteArray.empty, .bool false, .int .i64 0]) 3 32 Tryd.undW hi hz0 hz1 hz2 rfl (by decide) _ 0 [] rfl HO.out ⟨g, o, none⟩ l.length cap (Sp.wcells l) rfl (wcells_len l) HNW.out (wcells_one l) hp (by unfold maxLen; omega) (by omega) (by simp) ?_; intro g' cap' w3 hown' hgrow hor; have HB3 : Below w.heap.size w w3 := ((Below.refl _ _).alloc (Nat.le_refl _) _).grown hgrow (by simp) (fun q hq => own_ge HO.out hq); have HX2 : Hid ((w3.alloc (.cells #[.string ⟨#[98, 101, 104, 105, 110, 100]⟩, .bool false, .int .i64 0] 32)).ownsRow w.heap.size 32 3 (.slice (some ⟨g', 0, none⟩) l.length cap') l.length (Sp.wcells l) ∧ (∀ j u, Stp.behind.cells[j]? = some u → (w3.alloc (.cells #[.string ⟨#[98, 101, 104, 105, 110, 100]⟩, .bool false, .int .i64 0] 32)).cell? ((⟨w3.heap.size, 0, none⟩ : Addr).add j) = some u) ∧ Below w.heap.size w (w3.alloc (.cells #[.string ⟨#[98, 101, 104, 105, 110, 100]⟩, .bool false, .int .i64 0] 32)) ∧ w.heap.size ≤ w3.heap.size) := ⟨(by rw [Nat.zero_add] at hown'; simpa using hown'.alloc _), news_at _ Stp.behind _ rfl, below_to HB3 ((Below.refl _ _).alloc (Nat.le_refl _) _), HB3.size⟩; clear hown' hgrow hor HB3))
    go_ret
    refine ⟨g2, cap2, rfl, ?_, ?_⟩
    · rw [wcells_app]
      simpa [Sp.wcells] using hown2
    · exact HX2.out.2.2.1.grown hgrow2 (by have := HX2.out.2.2.2; simp; omega) (fun q hq => own_ge HX2.out.1 hq)
end Go.Proofs.YthnanblilofdpaaDoor
