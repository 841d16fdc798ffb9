/- Thing.Get of a name that it has; Ask; New; ID. -/
import Derived.Test.YtgcgaekomegobaaR26
import Derived.Test.YtgcgaekomegobaaR25
namespace Go.Proofs.Ytgcgaekomegobaa
open Go.RowKit

theorem TmF.nth_name : (L : TmF) → ∀ j n t, L.nth j = some (n, t) → L.names[j]? = some n ∧ j < L.len
  | .cons _ _ _, 0, _, _, h => by simp only [TmF.nth, Option.some.injEq, Prod.mk.injEq] at h; obtain ⟨rfl, rfl⟩ := h; exact ⟨rfl, by simp [TmF.len]⟩
  | .cons _ _ l, j + 1, n, t, h => by obtain ⟨h1, h2⟩ := l.nth_name j n t h; exact ⟨by simpa [TmF.names] using h1, by simp [TmF.len]; omega⟩

set_option maxRecDepth 100000 in
set_option maxHeartbeats 2000000 in
theorem Get_th (b : Nat) (id : Int) (L : TmF) (J : Nat) (nm : ByteArray) (t : Tm) (w : World) (hT : Th w b id L) (hu : Sp.up L.names) (hg : L.gd) (hl : L.len ≤ 4096) (hJ : L.nth J = some (nm, t)) :
    Calls Try.prog 12 #[.pointer (some ⟨b, 0, none⟩), .string nm] w fun e w' => ∃ v, e = .returned (.tuple #[v, .bool true]) ∧ Below w.heap.size w w' ∧ t.V w' (Fr w w') v := by
  obtain ⟨t0, a, cap, t1, hLV⟩ := hT
  obtain ⟨hnm, hJl⟩ := L.nth_name J nm t hJ
  obtain ⟨g, rfl, hcap⟩ := L.LV_at hLV (by omega)
  obtain ⟨vs, hvl, hrow⟩ := L.V_row 0 hLV.2
  have hvJ : vs[J]? = some (vs[J]'(by rw [hvl, TmF.names_len]; exact hJl)) := List.getElem?_eq_getElem _
  generalize vs[J]'(by rw [hvl, TmF.names_len]; exact hJl) = v0 at hvJ
  have hrw : Rw w g L.names vs := ⟨hvl, fun j n v h1 h2 => by have := hrow j n v h1 h2; rw [Nat.zero_add] at this; exact ⟨this.1, this.2.1, this.2.2.1⟩⟩
  obtain ⟨c0, c1, _, t', ht', hv0⟩ := hrow J nm v0 hnm hvJ
  rw [Nat.zero_add] at c0 c1
  obtain rfl : t = t' := by rw [hJ] at ht'; injection ht' with e; injection e
  have HS : Hid (Calls Try.prog 26 #[.slice (some ⟨g, 0, none⟩) L.len cap, .string nm, .func (.func 27) #[] #[]] w fun e w' => e = .returned (.tuple #[.int .i64 (J : Int), .bool true]) ∧ Below w.heap.size w w') := search_any g L.len cap J L.names vs nm w (by rw [TmF.names_len]) hl hu hnm hrw
  have HV : Hid (t.V w (Lo w.heap.size) v0 ∧ t.all.e = 0) := ⟨hv0, L.nth_gd J nm t hg hJ⟩
  have HC : Hid (∀ W, Below w.heap.size w W → Calls Try.prog 21 #[v0] W fun e w' => ∃ v', e = .returned (.tuple #[v', .int .i64 0]) ∧ Below W.heap.size W w' ∧ t.V w' (Fr W w') v') := fun W hW =>
    Copy_ok t v0 W.heap.size W (Nat.le_refl _) (t.V_same (Same.of_below hW (Nat.le_refl _)) (fun k hk => Nat.lt_of_lt_of_le hk hW.size) v0 HV.out.1) HV.out.2
  have HLb : Hid (b < w.heap.size ∧ g < w.heap.size) := ⟨World.block_lt_of_cell? _ _ t1, World.block_lt_of_cell? _ _ c0⟩
  have hq : ∀ W, (binOp .eql 29 (.pointer (some ⟨b, 0, none⟩)) (.pointer none)).run Try.prog W = .ok (.bool false) W := fun W => by kernel_rfl
  have hgq : ∀ x y W, (eqGuard .eql 29 x y (.pointer (some ⟨b, 0, none⟩)) (.pointer none)).run Try.prog W = .ok () W := fun x y W => by kernel_rfl
  have hJi : (J : Int) < (L.len : Int) := by omega
  have hJ0 : (0 : Int) ≤ (J : Int) := by omega
  clear t0 hnm hLV hrow hrw hvl hvJ ht' hv0 hJ hu hg hl HV c0
  go_enter Try.func12, Try.ntmps12
  go_wp2_with fail
  refine HS.out.mono ?_
  rintro e w1 ⟨rfl, hb1⟩
  have HB1 : Hid (Below w.heap.size w w1) := hb1
  have d0 : w1.cell? ⟨b, 1, none⟩ = some (.slice (some ⟨g, 0, none⟩) L.len cap) := by rw [hb1.cell (p := ⟨b, 1, none⟩) HLb.out.1]; exact t1
  have d1 : w1.cell? ⟨g, J * 2 + 1, none⟩ = some v0 := by rw [hb1.cell (p := ⟨g, J * 2 + 1, none⟩) HLb.out.2]; exact c1
  clear hb1 c1 t1 HS
  go_wp2_with fail
  refine (HC.out _ HB1.out).mono ?_
  rintro e w2 ⟨v', rfl, hb2, hv'⟩
  have HR : Hid (Below w.heap.size w w2 ∧ t.V w2 (Fr w w2) v') := ⟨HB1.out.trans (hb2.mono HB1.out.size), t.V_same (Same.refl _ _) (fun k hk => ⟨Nat.le_trans HB1.out.size hk.1, hk.2⟩) v' hv'⟩
  clear hb2 hv' d0 d1
  go_wp2_with fail
  go_ret2
  exact ⟨v', rfl, HR.out⟩

set_option maxRecDepth 100000 in
set_option maxHeartbeats 2000000 in
theorem got_1_th (b : Nat) (id : Int) (L : TmF) (J : Nat) (nm : ByteArray) (t : Tm) (p : Nat) (w : World) (hT : Th w b id L) (hu : Sp.up L.names) (hg : L.gd) (hl : L.len ≤ 4096) (hJ : L.nth J = some (nm, t)) (c0 : w.cell? ⟨p, 0, none⟩ = some (.iface 29 (.pointer (some ⟨b, 0, none⟩)))) (c1 : w.cell? ⟨p + 1, 0, none⟩ = some (.string nm)) (c2 : w.cell? ⟨p + 2, 0, none⟩ = some .nilIface) (c3 : w.cell? ⟨p + 3, 0, none⟩ = some (.bool false)) (z2 : w.frozen? ⟨p + 2, 0, none⟩ = false) (z3 : w.frozen? ⟨p + 3, 0, none⟩ = false) :
    Calls Try.prog 58 #[.pointer (some ⟨p, 0, none⟩), .pointer (some ⟨p + 1, 0, none⟩), .pointer (some ⟨p + 2, 0, none⟩), .pointer (some ⟨p + 3, 0, none⟩)] w fun e w' => e = .returned (.tuple #[]) ∧ ∃ v w1, Below w.heap.size w w1 ∧ t.V w1 (Fr w w1) v ∧ w' = (w1.setCell ⟨p + 2, 0, none⟩ v).setCell ⟨p + 3, 0, none⟩ (.bool true) := by
  have HG : Hid (Calls Try.prog 12 #[.pointer (some ⟨b, 0, none⟩), .string nm] w fun e w' => ∃ v, e = .returned (.tuple #[v, .bool true]) ∧ Below w.heap.size w w' ∧ t.V w' (Fr w w') v) := Get_th b id L J nm t w hT hu hg hl hJ
  have HL : Hid (p + 3 < w.heap.size) := World.block_lt_of_cell? _ _ c3
  clear hT hu hg hl hJ
  go_enter Try.func58, Try.ntmps58
  go_wp2_with fail
  refine HG.out.mono ?_
  rintro e w1 ⟨v, rfl, hb1, hv⟩
  have HB1 : Hid (Below w.heap.size w w1) := hb1
  have hif := V_if hv
  have HV : Hid (t.V w1 (Fr w w1) v) := hv
  have d2 : w1.cell? ⟨p + 2, 0, none⟩ = some .nilIface := by rw [hb1.cell (p := ⟨p + 2, 0, none⟩) (by have := HL.out; show p + 2 < _; omega)]; exact c2
  have d3 : w1.cell? ⟨p + 3, 0, none⟩ = some (.bool false) := by rw [hb1.cell (p := ⟨p + 3, 0, none⟩) HL.out]; exact c3
  have y2 : w1.frozen? ⟨p + 2, 0, none⟩ = false := by rw [hb1.frozen (p := ⟨p + 2, 0, none⟩) (by have := HL.out; show p + 2 < _; omega)]; exact z2
  have y3 : w1.frozen? ⟨p + 3, 0, none⟩ = false := by rw [hb1.frozen (p := ⟨p + 3, 0, none⟩) HL.out]; exact z3
  have d3' : ∀ v, (w1.setCell ⟨p + 2, 0, none⟩ v).cell? ⟨p + 3, 0, none⟩ = some (.bool false) := fun v => by rw [World.cell?_setCell_other _ _ _ _ (by intro e; injection e with e1 _; omega)]; exact d3
  clear hb1 HG c0 c1 c2 c3 z2 z3 hv
  rcases hif with rfl | ⟨T, x, rfl⟩
  · go_wp2_with fail
    go_end0
    exact ⟨rfl, _, w1, HB1.out, HV.out, rfl⟩
  · go_wp2_with fail
    go_end0
    exact ⟨rfl, _, w1, HB1.out, HV.out, rfl⟩

theorem got_safe_th (b : Nat) (id : Int) (L : TmF) (J : Nat) (nm : ByteArray) (t : Tm) (w W : World) (hT : Th w b id L) (hu : Sp.up L.names) (hg : L.gd) (hl : L.len ≤ 4096) (hJ : L.nth J = some (nm, t)) (hW : W = (((w.alloc (.cells #[.iface 29 (.pointer (some ⟨b, 0, none⟩))] 88)).alloc (.cells #[.string nm] 9)).alloc (.cells #[.nilIface] 20)).alloc (.cells #[.bool false] 4)) :
    Calls Try.prog 57 #[.func (.func 58) #[] #[.pointer (some ⟨w.heap.size, 0, none⟩), .pointer (some ⟨w.heap.size + 1, 0, none⟩), .pointer (some ⟨w.heap.size + 2, 0, none⟩), .pointer (some ⟨w.heap.size + 3, 0, none⟩)]] W fun e w' => e = .returned (.int .i64 0) ∧ ∃ v, w'.cell? ⟨w.heap.size + 2, 0, none⟩ = some v ∧ w'.cell? ⟨w.heap.size + 3, 0, none⟩ = some (.bool true) ∧ Below w.heap.size w w' ∧ t.V w' (Lo w'.heap.size) v := by
  have hs : W.heap.size = w.heap.size + 4 := by subst hW; simp only [World.size_alloc]
  have hb : Below w.heap.size w W := by subst hW; exact ((((Below.refl _ _).alloc (Nat.le_refl _) _).alloc (by simp only [World.size_alloc]; omega) _).alloc (by simp only [World.size_alloc]; omega) _).alloc (by simp only [World.size_alloc]; omega) _
  obtain ⟨g0, g1, g2, g3⟩ := al4 w (.cells #[.iface 29 (.pointer (some ⟨b, 0, none⟩))] 88) (.cells #[.string nm] 9) (.cells #[.nilIface] 20) (.cells #[.bool false] 4)
  rw [← hW] at g0 g1 g2 g3
  clear hW
  refine ((safely_ok2 _ _ W (fun w' => ∃ v S, w'.cell? ⟨w.heap.size + 2, 0, none⟩ = some v ∧ w'.cell? ⟨w.heap.size + 3, 0, none⟩ = some (.bool true) ∧ Below w.heap.size w w' ∧ t.V w' S v ∧ ∀ k, S k → w.heap.size + 6 ≤ k ∧ k < w'.heap.size) (fun W => by kernel_rfl) ?_ ?_)).mono ?_
  · intro X Y hXY ⟨v, S, h1, h2, h3, h4, h5⟩
    rw [hs] at hXY
    refine ⟨v, S, ?_, ?_, h3.trans ⟨hXY.os, hXY.tape, hXY.output, Nat.le_of_eq hXY.size.symm, fun j hj => hXY.block j (by omega) (by omega)⟩, t.V_same (fun k hk => hXY.block k (by have := h5 k hk; omega) (by have := h5 k hk; omega)) (fun _ h => h) v h4, fun k hk => by have := h5 k hk; rw [hXY.size]; exact this⟩
    · rw [World.cell?_of_block (w := X) (hXY.block (w.heap.size + 2) (by omega) (by omega))]; exact h1
    · rw [World.cell?_of_block (w := X) (hXY.block (w.heap.size + 3) (by omega) (by omega))]; exact h2
  · intro W1 hb1 hs1
    rw [hs] at hb1 hs1
    have k0 := (hb1.block w.heap.size (by omega)).trans g0
    have k1 := (hb1.block (w.heap.size + 1) (by omega)).trans g1
    have k2 := (hb1.block (w.heap.size + 2) (by omega)).trans g2
    have k3 := (hb1.block (w.heap.size + 3) (by omega)).trans g3
    have hwb : Below w.heap.size w W1 := hb.trans (hb1.mono (by omega))
    refine (got_1_th b id L J nm t w.heap.size W1 (hT.keep hwb) hu hg hl hJ (by rw [cell_of_row _ _ 0 _ _ _ k0]; rfl) (by rw [cell_of_row _ _ 0 _ _ _ k1]; rfl) (by rw [cell_of_row _ _ 0 _ _ _ k2]; rfl) (by rw [cell_of_row _ _ 0 _ _ _ k3]; rfl) (frozen_of_row _ _ 0 _ _ k2) (frozen_of_row _ _ 0 _ _ k3)).mono ?_
    rintro e w' ⟨rfl, v, w1, hb2, hv, rfl⟩
    have c2 : w1.cell? ⟨w.heap.size + 2, 0, none⟩ = some .nilIface := by rw [hb2.cell (p := ⟨w.heap.size + 2, 0, none⟩) (by show w.heap.size + 2 < _; omega), cell_of_row _ _ 0 _ _ _ k2]; rfl
    have c3 : w1.cell? ⟨w.heap.size + 3, 0, none⟩ = some (.bool false) := by rw [hb2.cell (p := ⟨w.heap.size + 3, 0, none⟩) (by show w.heap.size + 3 < _; omega), cell_of_row _ _ 0 _ _ _ k3]; rfl
    have hk : ∀ j (u v : Value), j ≠ w.heap.size + 2 → j ≠ w.heap.size + 3 → ((w1.setCell ⟨w.heap.size + 2, 0, none⟩ u).setCell ⟨w.heap.size + 3, 0, none⟩ v).heap[j]? = w1.heap[j]? := fun j u v h2 h3 => (Below.heap_setCell _ _ _ _ h3).trans (Below.heap_setCell _ _ _ _ h2)
    refine ⟨.inl ⟨rfl, rfl, rfl⟩, ?_, ?_, v, Fr W1 w1, ?_, ?_, ?_, ?_, ?_⟩
    · rw [hs]; exact (hk _ _ _ (by omega) (by omega)).trans (hb2.block _ (by omega))
    · rw [hs]; exact (hk _ _ _ (by omega) (by omega)).trans (hb2.block _ (by omega))
    · rw [World.cell?_setCell_other _ _ _ _ (by intro e; injection e with e1 _; omega)]; exact sc_eq' c2
    · exact sc_eq' (by rw [World.cell?_setCell_other _ _ _ _ (by intro e; injection e with e1 _; omega)]; exact c3)
    · exact ((hwb.trans (hb2.mono (by omega))).setCell (p := ⟨w.heap.size + 2, 0, none⟩) (by show _ ≤ w.heap.size + 2; omega) _).setCell (p := ⟨w.heap.size + 3, 0, none⟩) (by show _ ≤ w.heap.size + 3; omega) _
    · exact t.V_same (fun k hk2 => hk k _ _ (by have := hk2.1; omega) (by have := hk2.1; omega)) (fun _ h => h) v hv
    · intro k hk2
      exact ⟨by have := hk2.1; omega, by have := hk2.2; simpa [World.setCell] using this⟩
  · rintro e w' ⟨rfl, v, S, h1, h2, h3, h4, h5⟩
    exact ⟨rfl, v, h1, h2, h3, t.V_same (Same.refl _ _) (fun k hk => (h5 k hk).2) v h4⟩
end Go.Proofs.Ytgcgaekomegobaa

