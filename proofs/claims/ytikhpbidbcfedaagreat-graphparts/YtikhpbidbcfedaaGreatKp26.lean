/- graph.walk.one, given all; both by fuel. -/
import Derived.Test.YtikhpbidbcfedaaGreatKp25
import Derived.Deep.RegionWith
import Derived.Deep.RegionHeld3
namespace Go.Proofs.YtikhpbidbcfedaaGreat
open Go.RowKit Go.ChangeMaps

section
variable {σ : Type} {V : Vr σ} {zf : σ → Nat} {n m0 eb : Nat} {M : Nat → Option Obj → Prop} {I : σ → World → Prop} {Fe Fl : Nat} {ce cl : Array Value} {nx : Nat → List Nat} {lo xb : Nat} {bl : Nat → Option Nat} {cp : Nat → Nat}
set_option maxRecDepth 100000 in
set_option maxHeartbeats 8000000 in
theorem one_ofO (hV : VisO σ V zf n m0 eb M I Fe Fl ce cl) (f : Nat) (hnl : ∀ t, t < n → (nx t).length ≤ 4096) (hAll : AllD σ V zf n m0 eb M I Fe Fl ce cl nx lo xb bl cp f) : OneD σ V zf n m0 eb M I Fe Fl ce cl nx lo xb bl cp (f + 1) := by
  intro T j st W hW hj hst hcf
  obtain ⟨W0, hW0⟩ : ∃ W0, W.alloc (.cells (wsC xb eb n Fe Fl ce cl) 83) = W0 := ⟨_, rfl⟩
  have hwz := hW.sz
  have hebl := hV.eo.1
  have hebz : eb ≠ W.heap.size := by omega
  have h00 : W0.heap[W.heap.size]? = some (.cells (wsC xb eb n Fe Fl ce cl) 83 (0, 0)) := by rw [← hW0]; exact heap_alloc_new _ _
  have hW0i : WkJ σ zf T n m0 eb M I nx lo xb bl cp st W0 := by rw [← hW0]; exact hW.alloc hV _
  have hce0 : W0.cell? ⟨eb, j, none⟩ = some (.bool false) := hW0i.ent.cell (by simp [bv, hst])
  have hcf0 : W0.frozen? ⟨eb, j, none⟩ = false := hW0i.ent.free j
  have hb01 : W0.cell? ⟨W.heap.size, 1, none⟩ = some (.slice (some ⟨eb, 0, none⟩) n n) := by simp [World.cell?, h00, wsC]
  have hBOX : ¬ M W.heap.size (some (.cells (wsC xb eb n Fe Fl ce cl) 83 (0, 0))) := hV.box _ _ hwz
  obtain ⟨W1, hW1⟩ : ∃ W1, W0.setCell ⟨eb, j, none⟩ (.bool true) = W1 := ⟨_, rfl⟩
  have h1i : WkJ σ zf (T - 2) n m0 eb M I nx lo xb bl cp (st.1.set j true, st.2) W1 := by rw [← hW1]; exact hW0i.mark hV hst
  have h10 : W1.heap[W.heap.size]? = some (.cells (wsC xb eb n Fe Fl ce cl) 83 (0, 0)) := by rw [← hW1]; exact (Below.heap_setCell W0 _ _ _ (show W.heap.size ≠ eb from hebz.symm)).trans h00
  have hk1 : KwO (fun k o => M k o ∨ k = eb) W W1 := by rw [← hW1, ← hW0]; exact ((KwO.refl _ _).alloc _).set (.inl (fun _ => .inr rfl)) _
  have HK1 : Hid (KwO (fun k o => M k o ∨ k = eb) W W1) := hk1
  have H1 : Hid (WkJ σ zf (T - 2) n m0 eb M I nx lo xb bl cp (st.1.set j true, st.2) W1) := h1i
  have hcf1 : Sp.cf (st.1.set j true) ≤ f := by have := cf_set hst; omega
  have HBX : Hid (∀ X, KwO (fun k o => M k o ∨ k = eb) W1 X → X.cell? ⟨W.heap.size, 0, none⟩ = some (.slice (some ⟨xb, 0, none⟩) n n) ∧ X.cell? ⟨W.heap.size, 1, none⟩ = some (.slice (some ⟨eb, 0, none⟩) n n) ∧ X.cell? ⟨W.heap.size, 2, none⟩ = some (.func (.func Fe) #[] ce) ∧ X.cell? ⟨W.heap.size, 3, none⟩ = some (.func (.func Fl) #[] cl)) := fun X hX => by
    have e := (hX.block _ (Array.getElem?_eq_some_iff.1 h10).1 (by rintro (h | h); rw [h10] at h; exact hBOX h; exact hebz h.symm)).trans h10
    exact ⟨by simp [World.cell?, e, wsC], by simp [World.cell?, e, wsC], by simp [World.cell?, e, wsC], by simp [World.cell?, e, wsC]⟩
  obtain ⟨k0, k1, k2, k3⟩ := HBX.out W1 (KwO.refl _ _)
  have kx : W1.cell? ⟨xb, j, none⟩ = some (.slice (adr (bl j)) (nx j).length (cp j)) := by have := (h1i.nxt.cell hj).1; rwa [List.length_map] at this
  have hEn := hV.enter st.2 j W1.drew hj (by have := cf_set hst; have := hW.bud; have := h1i.bud; dsimp only at this; omega) (h1i.drew hV).inv
  have HT : Hid (2 ≤ T ∧ T ≤ 16384) := by have := cf_set hst; have := hW.bud; show 2 ≤ T ∧ T ≤ 16384; omega
  have HLv : Hid (∀ s X, WkJ σ zf (T - 1) n m0 eb M I nx lo xb bl cp s X → Calls Tryz.prog Fl (#[.int .i64 (j : Nat)] ++ cl) X fun e X' => BEnd (V.leave s.2 j).1 e ∧ WkJ σ zf T n m0 eb M I nx lo xb bl cp (s.1, (V.leave s.2 j).2) X' ∧ KwO (fun k o => M k o ∨ k = eb) X X') := fun s X hX => (hV.leave s.2 j X hj (by have := hX.bud; have := HT.out; omega) hX.inv).mono (fun e X' ⟨q1, q2, q3⟩ => ⟨q1, hX.step q3 hV.eo.2 q2 (by have := hX.bud; have := HT.out; have := hV.szl s.2 j; omega), q3.mono (fun _ _ h => .inl h)⟩)
  obtain ⟨r1, hr1⟩ : ∃ r1, r1 = V.enter st.2 j := ⟨_, rfl⟩
  rw [← hr1] at hEn
  have HEn : Hid (Calls Tryz.prog Fe (#[.int .i64 (j : Nat)] ++ ce) W1.drew fun e X => BEnd r1.1 e ∧ WkJ σ zf (T - 1) n m0 eb M I nx lo xb bl cp (st.1.set j true, r1.2) X ∧ KwO (fun k o => M k o ∨ k = eb) W1 X) := hEn.mono (fun e X ⟨q1, q2, q3⟩ => ⟨q1, (h1i.drew hV).step q3 hV.eo.2 q2 (by have := h1i.bud; have h9 := hV.sze st.2 j; rw [← hr1] at h9; have h8 := HT.out; show _ + 2 * Sp.cf (st.1.set j true) ≤ _ ∧ _; dsimp only at this; omega), ((KwO.refl _ _).drew.trans (q3.mono (fun _ _ h => .inl h)))⟩)
  have HAl : Hid (∀ X, WkJ σ zf (T - 1) n m0 eb M I nx lo xb bl cp (st.1.set j true, r1.2) X → Calls Tryz.prog 46 #[.agg (wsC xb eb n Fe Fl ce cl), .slice (adr (bl j)) (nx j).length (cp j)] X (WkF σ zf (T - 1) n m0 eb M I nx lo xb bl cp (wAll (wOne V nx f) (nx j) (st.1.set j true, r1.2)) X)) := fun X hX => hAll (T - 1) (nx j) (st.1.set j true, r1.2) X (bl j) (cp j) hX hcf1 (hX.nb j hj) (hX.nxt.row j hj) (hX.sb j hj) (by have := hnl j hj; omega)
  have E1 : Hid (wOne V nx (f + 1) j st = if r1.1 = some true then (if (wAll (wOne V nx f) (nx j) (st.1.set j true, r1.2)).1 = some true then wLeave V j (wAll (wOne V nx f) (nx j) (st.1.set j true, r1.2)).2 else wAll (wOne V nx f) (nx j) (st.1.set j true, r1.2)) else if r1.1 = some false then wLeave V j (st.1.set j true, r1.2) else (none, (st.1.set j true, r1.2))) := by
    show _ = _
    rw [wOne, ← hr1]
  have hnz : (j : Int) < (n : Int) := by omega
  have hcfe := hV.ecf j
  have hcfl := hV.lcf j
  clear hEn hr1 hAll hV hW0i h00 h10 h1i hk1 hcf1 hcf hst hW hwz hebl hnl
  obtain ⟨r1b, s1⟩ := r1
  generalize wOne V nx (f + 1) j st = RES at E1 ⊢
  generalize wAll (wOne V nx f) (nx j) (st.1.set j true, s1) = r2 at E1 HAl
  obtain ⟨r2b, s2⟩ := r2
  cases r1b with
  | none =>
    go_enter Tryz.func67, Tryz.ntmps67
    go_wp2_with fail
    refine wp_region_held_drew (S := fun X => X.cell? ⟨W.heap.size, 0, none⟩ = some (.slice (some ⟨xb, 0, none⟩) n n) ∧ X.cell? ⟨W.heap.size, 1, none⟩ = some (.slice (some ⟨eb, 0, none⟩) n n) ∧ X.cell? ⟨W.heap.size, 2, none⟩ = some (.func (.func Fe) #[] ce) ∧ X.cell? ⟨W.heap.size, 3, none⟩ = some (.func (.func Fl) #[] cl) ∧ X.cell? ⟨xb, j, none⟩ = some (.slice (adr (bl j)) (nx j).length (cp j))) (by kernel_rfl) ?_ (fun hHeld => ?_)
    · exact ⟨k0, k1, k2, k3, kx⟩
    refine wpAnyH_take (i := 0) (oi := { dst := some 9, op := Go.Op.fieldAddr 83 (Go.Operand.tmp 2) 2, type := 0, pos := "walk.go:34", after := #[], guard := none }) (v := ?_) rfl (by kernel_rfl) (by kernel_rfl) (by kernel_rfl) (fun _ _ _ h => h) (Or.inl ⟨by rfl, ?_⟩) (by assumption) ?_
    rotate_left
    · intro w hSw; (try dsimp only at hSw); go_simp; try (with_reducible rfl)
    simp only [Act.put, List.setIfInBounds_toArray, List.set_cons_zero, List.set_cons_succ]
    refine wpAnyH_take (i := 1) (oi := { dst := some 10, op := Go.Op.load 67 (Go.Operand.tmp 9), type := 67, pos := "walk.go:34", after := #[{ on := 0, ground := Go.Ground.data }], guard := none }) (v := ?_) rfl (by kernel_rfl) (by kernel_rfl) (by kernel_rfl) (fun _ _ _ h => h) (Or.inl ⟨by rfl, ?_⟩) (by assumption) ?_
    rotate_left
    · intro w hSw; (try dsimp only at hSw); go_simp; try (with_reducible rfl)
    simp only [Act.put, List.setIfInBounds_toArray, List.set_cons_zero, List.set_cons_succ]
    refine wpAnyH_take (i := 2) (oi := { dst := some 11, op := Go.Op.move (Go.Operand.tmp 1), type := 3, pos := "walk.go:34", after := #[], guard := none }) (v := ?_) rfl (by kernel_rfl) (by kernel_rfl) (by kernel_rfl) (fun _ _ _ h => h) (Or.inl ⟨by rfl, ?_⟩) (by assumption) ?_
    rotate_left
    · intro w hSw; (try dsimp only at hSw); go_simp; try (with_reducible rfl)
    simp only [Act.put, List.setIfInBounds_toArray, List.set_cons_zero, List.set_cons_succ]
    refine wpAnyH_ready (rs := [3]) (by kernel_rfl) (by simp) ?_
    refine AllReadyH.cons (o := { dst := some 12, op := Go.Op.call { callee := Go.Callee.value (Go.Operand.tmp 10), args := #[Go.Operand.tmp 11], argTypes := #[3] }, type := 4, pos := "walk.go:34", after := #[{ on := 1, ground := Go.Ground.data }, { on := 2, ground := Go.Ground.data }], guard := none }) rfl (fun K hK => ?_) AllReadyH.nil
    go_simp
    refine HEn.out.mono ?_
    rintro e w2 ⟨⟨v, rfl⟩, q1, q2⟩
    exact ⟨rfl, by rw [E1.out]; exact ⟨⟨v, rfl⟩, WkJ.more (T := T - 1) q1 (by omega) HT.out.2, HK1.out.trans q2⟩⟩
  | some b1 =>
    cases b1 with
    | false =>
      go_enter Tryz.func67, Tryz.ntmps67
      go_wp2_with fail
      refine wp_region_held_drew (S := fun X => X.cell? ⟨W.heap.size, 0, none⟩ = some (.slice (some ⟨xb, 0, none⟩) n n) ∧ X.cell? ⟨W.heap.size, 1, none⟩ = some (.slice (some ⟨eb, 0, none⟩) n n) ∧ X.cell? ⟨W.heap.size, 2, none⟩ = some (.func (.func Fe) #[] ce) ∧ X.cell? ⟨W.heap.size, 3, none⟩ = some (.func (.func Fl) #[] cl) ∧ X.cell? ⟨xb, j, none⟩ = some (.slice (adr (bl j)) (nx j).length (cp j))) (by kernel_rfl) ?_ (fun hHeld => ?_)
      · exact ⟨k0, k1, k2, k3, kx⟩
      refine wpAnyH_take (i := 0) (oi := { dst := some 9, op := Go.Op.fieldAddr 83 (Go.Operand.tmp 2) 2, type := 0, pos := "walk.go:34", after := #[], guard := none }) (v := ?_) rfl (by kernel_rfl) (by kernel_rfl) (by kernel_rfl) (fun _ _ _ h => h) (Or.inl ⟨by rfl, ?_⟩) (by assumption) ?_
      rotate_left
      · intro w hSw; (try dsimp only at hSw); go_simp; try (with_reducible rfl)
      simp only [Act.put, List.setIfInBounds_toArray, List.set_cons_zero, List.set_cons_succ]
      refine wpAnyH_take (i := 1) (oi := { dst := some 10, op := Go.Op.load 67 (Go.Operand.tmp 9), type := 67, pos := "walk.go:34", after := #[{ on := 0, ground := Go.Ground.data }], guard := none }) (v := ?_) rfl (by kernel_rfl) (by kernel_rfl) (by kernel_rfl) (fun _ _ _ h => h) (Or.inl ⟨by rfl, ?_⟩) (by assumption) ?_
      rotate_left
      · intro w hSw; (try dsimp only at hSw); go_simp; try (with_reducible rfl)
      simp only [Act.put, List.setIfInBounds_toArray, List.set_cons_zero, List.set_cons_succ]
      refine wpAnyH_take (i := 2) (oi := { dst := some 11, op := Go.Op.move (Go.Operand.tmp 1), type := 3, pos := "walk.go:34", after := #[], guard := none }) (v := ?_) rfl (by kernel_rfl) (by kernel_rfl) (by kernel_rfl) (fun _ _ _ h => h) (Or.inl ⟨by rfl, ?_⟩) (by assumption) ?_
      rotate_left
      · intro w hSw; (try dsimp only at hSw); go_simp; try (with_reducible rfl)
      simp only [Act.put, List.setIfInBounds_toArray, List.set_cons_zero, List.set_cons_succ]
      refine wpAnyH_ready (rs := [3]) (by kernel_rfl) (by simp) ?_
      refine AllReadyH.cons (o := { dst := some 12, op := Go.Op.call { callee := Go.Callee.value (Go.Operand.tmp 10), args := #[Go.Operand.tmp 11], argTypes := #[3] }, type := 4, pos := "walk.go:34", after := #[{ on := 1, ground := Go.Ground.data }, { on := 2, ground := Go.Ground.data }], guard := none }) rfl (fun K hK => ?_) AllReadyH.nil
      go_simp
      refine HEn.out.mono ?_
      rintro e w2 ⟨q0, q1, q2⟩
      obtain rfl : e = .returned (.bool false) := q0
      obtain ⟨y0, y1, y2, y3⟩ := HBX.out w2 q2
      have yx : w2.cell? ⟨xb, j, none⟩ = some (.slice (adr (bl j)) (nx j).length (cp j)) := by have := (q1.nxt.cell hj).1; rwa [List.length_map] at this
      have HQ1 : Hid (WkJ σ zf (T - 1) n m0 eb M I nx lo xb bl cp (st.1.set j true, s1) w2) := q1
      have HQ2 : Hid (KwO (fun k o => M k o ∨ k = eb) W1 w2) := q2
      clear q1 q2
      refine hK.out _ _ ?_ (fun hHeld => ?_)
      · exact ⟨y0, y1, y2, y3, yx⟩
      clear hK K
      refine wpAnyH_take (i := 4) (oi := { dst := some 13, op := Go.Op.move (Go.Operand.tmp 12), type := 4, pos := "walk.go:34", after := #[{ on := 3, ground := Go.Ground.data }, { on := 3, ground := Go.Ground.chain }], guard := none }) (v := ?_) rfl (by kernel_rfl) (by kernel_rfl) (by kernel_rfl) (fun _ _ _ h => h) (Or.inl ⟨by rfl, ?_⟩) (by assumption) ?_
      rotate_left
      · intro w hSw; (try dsimp only at hSw); go_simp; try (with_reducible rfl)
      simp only [Act.put, List.setIfInBounds_toArray, List.set_cons_zero, List.set_cons_succ]
      refine wpAnyH_take (i := 5) (oi := { dst := some 14, op := Go.Op.load 83 (Go.Operand.tmp 2), type := 83, pos := "walk.go:34", after := #[{ on := 4, ground := Go.Ground.guard }], guard := some (4, true) }) (v := _) rfl (by kernel_rfl) (by kernel_rfl) (by kernel_rfl) (fun _ _ _ h => h) (Or.inr ⟨by rfl, rfl⟩) (by assumption) ?_
      simp only [Act.put, List.setIfInBounds_toArray, List.set_cons_zero, List.set_cons_succ]
      refine wpAnyH_take (i := 6) (oi := { dst := some 15, op := Go.Op.fieldAddr 83 (Go.Operand.tmp 2) 0, type := 0, pos := "walk.go:34", after := #[{ on := 4, ground := Go.Ground.guard }], guard := some (4, true) }) (v := _) rfl (by kernel_rfl) (by kernel_rfl) (by kernel_rfl) (fun _ _ _ h => h) (Or.inr ⟨by rfl, rfl⟩) (by assumption) ?_
      simp only [Act.put, List.setIfInBounds_toArray, List.set_cons_zero, List.set_cons_succ]
      refine wpAnyH_take (i := 7) (oi := { dst := some 16, op := Go.Op.load 70 (Go.Operand.tmp 15), type := 70, pos := "walk.go:34", after := #[{ on := 6, ground := Go.Ground.data }, { on := 4, ground := Go.Ground.guard }], guard := some (4, true) }) (v := _) rfl (by kernel_rfl) (by kernel_rfl) (by kernel_rfl) (fun _ _ _ h => h) (Or.inr ⟨by rfl, rfl⟩) (by assumption) ?_
      simp only [Act.put, List.setIfInBounds_toArray, List.set_cons_zero, List.set_cons_succ]
      refine wpAnyH_take (i := 8) (oi := { dst := some 17, op := Go.Op.move (Go.Operand.tmp 1), type := 3, pos := "walk.go:34", after := #[{ on := 4, ground := Go.Ground.guard }], guard := some (4, true) }) (v := _) rfl (by kernel_rfl) (by kernel_rfl) (by kernel_rfl) (fun _ _ _ h => h) (Or.inr ⟨by rfl, rfl⟩) (by assumption) ?_
      simp only [Act.put, List.setIfInBounds_toArray, List.set_cons_zero, List.set_cons_succ]
      refine wpAnyH_take (i := 9) (oi := { dst := some 18, op := Go.Op.indexAddr 70 (Go.Operand.tmp 16) (Go.Operand.tmp 17), type := 0, pos := "walk.go:34", after := #[{ on := 7, ground := Go.Ground.data }, { on := 8, ground := Go.Ground.data }, { on := 4, ground := Go.Ground.guard }], guard := some (4, true) }) (v := _) rfl (by kernel_rfl) (by kernel_rfl) (by kernel_rfl) (fun _ _ _ h => h) (Or.inr ⟨by rfl, rfl⟩) (by assumption) ?_
      simp only [Act.put, List.setIfInBounds_toArray, List.set_cons_zero, List.set_cons_succ]
      refine wpAnyH_take (i := 10) (oi := { dst := some 19, op := Go.Op.load 60 (Go.Operand.tmp 18), type := 60, pos := "walk.go:34", after := #[{ on := 9, ground := Go.Ground.data }, { on := 4, ground := Go.Ground.guard }], guard := some (4, true) }) (v := _) rfl (by kernel_rfl) (by kernel_rfl) (by kernel_rfl) (fun _ _ _ h => h) (Or.inr ⟨by rfl, rfl⟩) (by assumption) ?_
      simp only [Act.put, List.setIfInBounds_toArray, List.set_cons_zero, List.set_cons_succ]
      refine wpAnyH_take (i := 11) (oi := { dst := some 20, op := Go.Op.call { callee := Go.Callee.value (Go.Operand.func 46), args := #[Go.Operand.tmp 14, Go.Operand.tmp 19], argTypes := #[83, 60] }, type := 4, pos := "walk.go:34", after := #[{ on := 5, ground := Go.Ground.data }, { on := 10, ground := Go.Ground.data }, { on := 4, ground := Go.Ground.chain }, { on := 4, ground := Go.Ground.guard }], guard := some (4, true) }) (v := _) rfl (by kernel_rfl) (by kernel_rfl) (by kernel_rfl) (fun _ _ _ h => h) (Or.inr ⟨by rfl, rfl⟩) (by assumption) ?_
      simp only [Act.put, List.setIfInBounds_toArray, List.set_cons_zero, List.set_cons_succ]
      refine wpAnyH_take (i := 12) (oi := { dst := some 21, op := Go.Op.unOp Go.UnOp.not 4 (Go.Operand.tmp 20), type := 4, pos := "walk.go:34", after := #[{ on := 11, ground := Go.Ground.data }, { on := 4, ground := Go.Ground.guard }], guard := some (4, true) }) (v := _) rfl (by kernel_rfl) (by kernel_rfl) (by kernel_rfl) (fun _ _ _ h => h) (Or.inr ⟨by rfl, rfl⟩) (by assumption) ?_
      simp only [Act.put, List.setIfInBounds_toArray, List.set_cons_zero, List.set_cons_succ]
      refine wpAnyH_take (i := 13) (oi := { dst := some 22, op := Go.Op.pick (Go.Operand.tmp 13) (Go.Operand.tmp 21) (Go.Operand.const (Go.Value.bool false)), type := 4, pos := "walk.go:34", after := #[{ on := 4, ground := Go.Ground.data }, { on := 12, ground := Go.Ground.data }], guard := none }) (v := ?_) rfl (by kernel_rfl) (by kernel_rfl) (by kernel_rfl) (fun _ _ _ h => h) (Or.inl ⟨by rfl, ?_⟩) (by assumption) ?_
      rotate_left
      · intro w hSw; (try dsimp only at hSw); go_simp; try (with_reducible rfl)
      simp only [Act.put, List.setIfInBounds_toArray, List.set_cons_zero, List.set_cons_succ]
      refine wpAnyH_done (by kernel_rfl) ?_ _
      obtain ⟨_, _, _, hz3⟩ := HBX.out w2 HQ2.out
      have hL := HLv.out (st.1.set j true, s1) w2 HQ1.out
      obtain ⟨r3, hr3⟩ : ∃ r3, r3 = V.leave (st.1.set j true, s1).2 j := ⟨_, rfl⟩
      rw [← hr3] at hL
      have E3 : Hid (RES = (r3.1, ((st.1.set j true, s1).1, r3.2))) := by show _ = _; rw [E1.out, if_neg (by simp), if_pos trivial]; unfold wLeave; rw [← hr3]
      clear hr3 E1
      obtain ⟨r3b, s3⟩ := r3
      cases r3b with
      | none =>
        go_wp2_with fail
        refine hL.mono ?_
        rintro e w4 ⟨⟨v, rfl⟩, o1, o2⟩
        exact ⟨rfl, by rw [E3.out]; exact ⟨⟨v, rfl⟩, o1, HK1.out.trans (HQ2.out.trans o2)⟩⟩
      | some b3 =>
        go_wp2_with fail
        refine hL.mono ?_
        rintro e w4 ⟨o0, o1, o2⟩
        obtain rfl : e = .returned (.bool b3) := o0
        go_wp2_with fail
        go_ret
        rw [E3.out]
        exact ⟨rfl, o1, HK1.out.trans (HQ2.out.trans o2)⟩
    | true =>
      go_enter Tryz.func67, Tryz.ntmps67
      go_wp2_with fail
      refine wp_region_held_drew (S := fun X => X.cell? ⟨W.heap.size, 0, none⟩ = some (.slice (some ⟨xb, 0, none⟩) n n) ∧ X.cell? ⟨W.heap.size, 1, none⟩ = some (.slice (some ⟨eb, 0, none⟩) n n) ∧ X.cell? ⟨W.heap.size, 2, none⟩ = some (.func (.func Fe) #[] ce) ∧ X.cell? ⟨W.heap.size, 3, none⟩ = some (.func (.func Fl) #[] cl) ∧ X.cell? ⟨xb, j, none⟩ = some (.slice (adr (bl j)) (nx j).length (cp j))) (by kernel_rfl) ?_ (fun hHeld => ?_)
      · exact ⟨k0, k1, k2, k3, kx⟩
      refine wpAnyH_take (i := 0) (oi := { dst := some 9, op := Go.Op.fieldAddr 83 (Go.Operand.tmp 2) 2, type := 0, pos := "walk.go:34", after := #[], guard := none }) (v := ?_) rfl (by kernel_rfl) (by kernel_rfl) (by kernel_rfl) (fun _ _ _ h => h) (Or.inl ⟨by rfl, ?_⟩) (by assumption) ?_
      rotate_left
      · intro w hSw; (try dsimp only at hSw); go_simp; try (with_reducible rfl)
      simp only [Act.put, List.setIfInBounds_toArray, List.set_cons_zero, List.set_cons_succ]
      refine wpAnyH_take (i := 1) (oi := { dst := some 10, op := Go.Op.load 67 (Go.Operand.tmp 9), type := 67, pos := "walk.go:34", after := #[{ on := 0, ground := Go.Ground.data }], guard := none }) (v := ?_) rfl (by kernel_rfl) (by kernel_rfl) (by kernel_rfl) (fun _ _ _ h => h) (Or.inl ⟨by rfl, ?_⟩) (by assumption) ?_
      rotate_left
      · intro w hSw; (try dsimp only at hSw); go_simp; try (with_reducible rfl)
      simp only [Act.put, List.setIfInBounds_toArray, List.set_cons_zero, List.set_cons_succ]
      refine wpAnyH_take (i := 2) (oi := { dst := some 11, op := Go.Op.move (Go.Operand.tmp 1), type := 3, pos := "walk.go:34", after := #[], guard := none }) (v := ?_) rfl (by kernel_rfl) (by kernel_rfl) (by kernel_rfl) (fun _ _ _ h => h) (Or.inl ⟨by rfl, ?_⟩) (by assumption) ?_
      rotate_left
      · intro w hSw; (try dsimp only at hSw); go_simp; try (with_reducible rfl)
      simp only [Act.put, List.setIfInBounds_toArray, List.set_cons_zero, List.set_cons_succ]
      refine wpAnyH_ready (rs := [3]) (by kernel_rfl) (by simp) ?_
      refine AllReadyH.cons (o := { dst := some 12, op := Go.Op.call { callee := Go.Callee.value (Go.Operand.tmp 10), args := #[Go.Operand.tmp 11], argTypes := #[3] }, type := 4, pos := "walk.go:34", after := #[{ on := 1, ground := Go.Ground.data }, { on := 2, ground := Go.Ground.data }], guard := none }) rfl (fun K hK => ?_) AllReadyH.nil
      go_simp
      refine HEn.out.mono ?_
      rintro e w2 ⟨q0, q1, q2⟩
      obtain rfl : e = .returned (.bool true) := q0
      have hA := HAl.out w2 q1
      obtain ⟨y0, y1, y2, y3⟩ := HBX.out w2 q2
      have yx : w2.cell? ⟨xb, j, none⟩ = some (.slice (adr (bl j)) (nx j).length (cp j)) := by have := (q1.nxt.cell hj).1; rwa [List.length_map] at this
      have HQ2 : Hid (KwO (fun k o => M k o ∨ k = eb) W1 w2) := q2
      clear q1 q2
      refine hK.out _ _ ?_ (fun hHeld => ?_)
      · exact ⟨y0, y1, y2, y3, yx⟩
      clear hK K
      refine wpAnyH_take (i := 4) (oi := { dst := some 13, op := Go.Op.move (Go.Operand.tmp 12), type := 4, pos := "walk.go:34", after := #[{ on := 3, ground := Go.Ground.data }, { on := 3, ground := Go.Ground.chain }], guard := none }) (v := ?_) rfl (by kernel_rfl) (by kernel_rfl) (by kernel_rfl) (fun _ _ _ h => h) (Or.inl ⟨by rfl, ?_⟩) (by assumption) ?_
      rotate_left
      · intro w hSw; (try dsimp only at hSw); go_simp; try (with_reducible rfl)
      simp only [Act.put, List.setIfInBounds_toArray, List.set_cons_zero, List.set_cons_succ]
      refine wpAnyH_take (i := 5) (oi := { dst := some 14, op := Go.Op.load 83 (Go.Operand.tmp 2), type := 83, pos := "walk.go:34", after := #[{ on := 4, ground := Go.Ground.guard }], guard := some (4, true) }) (v := ?_) rfl (by kernel_rfl) (by kernel_rfl) (by kernel_rfl) (fun _ _ _ h => h) (Or.inl ⟨by rfl, ?_⟩) (by assumption) ?_
      rotate_left
      · intro w hSw; (try dsimp only at hSw); go_simp; try (with_reducible rfl)
      simp only [Act.put, List.setIfInBounds_toArray, List.set_cons_zero, List.set_cons_succ]
      refine wpAnyH_take (i := 6) (oi := { dst := some 15, op := Go.Op.fieldAddr 83 (Go.Operand.tmp 2) 0, type := 0, pos := "walk.go:34", after := #[{ on := 4, ground := Go.Ground.guard }], guard := some (4, true) }) (v := ?_) rfl (by kernel_rfl) (by kernel_rfl) (by kernel_rfl) (fun _ _ _ h => h) (Or.inl ⟨by rfl, ?_⟩) (by assumption) ?_
      rotate_left
      · intro w hSw; (try dsimp only at hSw); go_simp; try (with_reducible rfl)
      simp only [Act.put, List.setIfInBounds_toArray, List.set_cons_zero, List.set_cons_succ]
      refine wpAnyH_take (i := 7) (oi := { dst := some 16, op := Go.Op.load 70 (Go.Operand.tmp 15), type := 70, pos := "walk.go:34", after := #[{ on := 6, ground := Go.Ground.data }, { on := 4, ground := Go.Ground.guard }], guard := some (4, true) }) (v := ?_) rfl (by kernel_rfl) (by kernel_rfl) (by kernel_rfl) (fun _ _ _ h => h) (Or.inl ⟨by rfl, ?_⟩) (by assumption) ?_
      rotate_left
      · intro w hSw; (try dsimp only at hSw); go_simp; try (with_reducible rfl)
      simp only [Act.put, List.setIfInBounds_toArray, List.set_cons_zero, List.set_cons_succ]
      refine wpAnyH_take (i := 8) (oi := { dst := some 17, op := Go.Op.move (Go.Operand.tmp 1), type := 3, pos := "walk.go:34", after := #[{ on := 4, ground := Go.Ground.guard }], guard := some (4, true) }) (v := ?_) rfl (by kernel_rfl) (by kernel_rfl) (by kernel_rfl) (fun _ _ _ h => h) (Or.inl ⟨by rfl, ?_⟩) (by assumption) ?_
      rotate_left
      · intro w hSw; (try dsimp only at hSw); go_simp; try (with_reducible rfl)
      simp only [Act.put, List.setIfInBounds_toArray, List.set_cons_zero, List.set_cons_succ]
      refine wpAnyH_take (i := 9) (oi := { dst := some 18, op := Go.Op.indexAddr 70 (Go.Operand.tmp 16) (Go.Operand.tmp 17), type := 0, pos := "walk.go:34", after := #[{ on := 7, ground := Go.Ground.data }, { on := 8, ground := Go.Ground.data }, { on := 4, ground := Go.Ground.guard }], guard := some (4, true) }) (v := ?_) rfl (by kernel_rfl) (by kernel_rfl) (by kernel_rfl) (fun _ _ _ h => h) (Or.inl ⟨by rfl, ?_⟩) (by assumption) ?_
      rotate_left
      · intro w hSw; (try dsimp only at hSw); go_simp; try (with_reducible rfl)
      simp only [Act.put, List.setIfInBounds_toArray, List.set_cons_zero, List.set_cons_succ]
      refine wpAnyH_take (i := 10) (oi := { dst := some 19, op := Go.Op.load 60 (Go.Operand.tmp 18), type := 60, pos := "walk.go:34", after := #[{ on := 9, ground := Go.Ground.data }, { on := 4, ground := Go.Ground.guard }], guard := some (4, true) }) (v := ?_) rfl (by kernel_rfl) (by kernel_rfl) (by kernel_rfl) (fun _ _ _ h => h) (Or.inl ⟨by rfl, ?_⟩) (by assumption) ?_
      rotate_left
      · intro w hSw; (try dsimp only at hSw); go_simp; try (with_reducible rfl)
      simp only [Act.put, List.setIfInBounds_toArray, List.set_cons_zero, List.set_cons_succ]
      refine wpAnyH_ready (rs := [11]) (by kernel_rfl) (by simp) ?_
      refine AllReadyH.cons (o := { dst := some 20, op := Go.Op.call { callee := Go.Callee.value (Go.Operand.func 46), args := #[Go.Operand.tmp 14, Go.Operand.tmp 19], argTypes := #[83, 60] }, type := 4, pos := "walk.go:34", after := #[{ on := 5, ground := Go.Ground.data }, { on := 10, ground := Go.Ground.data }, { on := 4, ground := Go.Ground.chain }, { on := 4, ground := Go.Ground.guard }], guard := some (4, true) }) rfl (fun K hK => ?_) AllReadyH.nil
      go_simp
      cases r2b with
      | none =>
        refine hA.mono ?_
        rintro e w3 ⟨⟨v, rfl⟩, p1, p2⟩
        exact ⟨rfl, by rw [E1.out, if_pos trivial, if_neg (by simp)]; exact ⟨⟨v, rfl⟩, WkJ.more (T := T - 1) p1 (by omega) HT.out.2, HK1.out.trans (HQ2.out.trans p2)⟩⟩
      | some b2 =>
        cases b2 with
        | false =>
          refine hA.mono ?_
          rintro e w3 ⟨p0, p1, p2⟩
          obtain rfl : e = .returned (.bool false) := p0
          obtain ⟨z0, z1, z2, z3⟩ := HBX.out w3 (HQ2.out.trans p2)
          have zx : w3.cell? ⟨xb, j, none⟩ = some (.slice (adr (bl j)) (nx j).length (cp j)) := by have := (p1.nxt.cell hj).1; rwa [List.length_map] at this
          have HP1 : Hid (WkJ σ zf (T - 1) n m0 eb M I nx lo xb bl cp s2 w3) := p1
          have HP2 : Hid (KwO (fun k o => M k o ∨ k = eb) W1 w3) := HQ2.out.trans p2
          clear p1 p2
          refine hK.out _ _ ?_ (fun hHeld => ?_)
          · exact ⟨z0, z1, z2, z3, zx⟩
          clear hK K
          refine wpAnyH_take (i := 12) (oi := { dst := some 21, op := Go.Op.unOp Go.UnOp.not 4 (Go.Operand.tmp 20), type := 4, pos := "walk.go:34", after := #[{ on := 11, ground := Go.Ground.data }, { on := 4, ground := Go.Ground.guard }], guard := some (4, true) }) (v := ?_) rfl (by kernel_rfl) (by kernel_rfl) (by kernel_rfl) (fun _ _ _ h => h) (Or.inl ⟨by rfl, ?_⟩) (by assumption) ?_
          rotate_left
          · intro w hSw; (try dsimp only at hSw); go_simp; try (with_reducible rfl)
          simp only [Act.put, List.setIfInBounds_toArray, List.set_cons_zero, List.set_cons_succ]
          refine wpAnyH_take (i := 13) (oi := { dst := some 22, op := Go.Op.pick (Go.Operand.tmp 13) (Go.Operand.tmp 21) (Go.Operand.const (Go.Value.bool false)), type := 4, pos := "walk.go:34", after := #[{ on := 4, ground := Go.Ground.data }, { on := 12, ground := Go.Ground.data }], guard := none }) (v := ?_) rfl (by kernel_rfl) (by kernel_rfl) (by kernel_rfl) (fun _ _ _ h => h) (Or.inl ⟨by rfl, ?_⟩) (by assumption) ?_
          rotate_left
          · intro w hSw; (try dsimp only at hSw); go_simp; try (with_reducible rfl)
          simp only [Act.put, List.setIfInBounds_toArray, List.set_cons_zero, List.set_cons_succ]
          refine wpAnyH_done (by kernel_rfl) ?_ _
          go_wp2_with fail
          go_ret
          rw [E1.out, if_pos trivial, if_neg (by simp)]
          exact ⟨rfl, WkJ.more (T := T - 1) HP1.out (by omega) HT.out.2, HK1.out.trans HP2.out⟩
        | true =>
          refine hA.mono ?_
          rintro e w3 ⟨p0, p1, p2⟩
          obtain rfl : e = .returned (.bool true) := p0
          obtain ⟨z0, z1, z2, z3⟩ := HBX.out w3 (HQ2.out.trans p2)
          have zx : w3.cell? ⟨xb, j, none⟩ = some (.slice (adr (bl j)) (nx j).length (cp j)) := by have := (p1.nxt.cell hj).1; rwa [List.length_map] at this
          have HP1 : Hid (WkJ σ zf (T - 1) n m0 eb M I nx lo xb bl cp s2 w3) := p1
          have HP2 : Hid (KwO (fun k o => M k o ∨ k = eb) W1 w3) := HQ2.out.trans p2
          clear p1 p2
          refine hK.out _ _ ?_ (fun hHeld => ?_)
          · exact ⟨z0, z1, z2, z3, zx⟩
          clear hK K
          refine wpAnyH_take (i := 12) (oi := { dst := some 21, op := Go.Op.unOp Go.UnOp.not 4 (Go.Operand.tmp 20), type := 4, pos := "walk.go:34", after := #[{ on := 11, ground := Go.Ground.data }, { on := 4, ground := Go.Ground.guard }], guard := some (4, true) }) (v := ?_) rfl (by kernel_rfl) (by kernel_rfl) (by kernel_rfl) (fun _ _ _ h => h) (Or.inl ⟨by rfl, ?_⟩) (by assumption) ?_
          rotate_left
          · intro w hSw; (try dsimp only at hSw); go_simp; try (with_reducible rfl)
          simp only [Act.put, List.setIfInBounds_toArray, List.set_cons_zero, List.set_cons_succ]
          refine wpAnyH_take (i := 13) (oi := { dst := some 22, op := Go.Op.pick (Go.Operand.tmp 13) (Go.Operand.tmp 21) (Go.Operand.const (Go.Value.bool false)), type := 4, pos := "walk.go:34", after := #[{ on := 4, ground := Go.Ground.data }, { on := 12, ground := Go.Ground.data }], guard := none }) (v := ?_) rfl (by kernel_rfl) (by kernel_rfl) (by kernel_rfl) (fun _ _ _ h => h) (Or.inl ⟨by rfl, ?_⟩) (by assumption) ?_
          rotate_left
          · intro w hSw; (try dsimp only at hSw); go_simp; try (with_reducible rfl)
          simp only [Act.put, List.setIfInBounds_toArray, List.set_cons_zero, List.set_cons_succ]
          refine wpAnyH_done (by kernel_rfl) ?_ _
          obtain ⟨_, _, _, hz3⟩ := HBX.out w3 HP2.out
          have hL := HLv.out s2 w3 HP1.out
          obtain ⟨r3, hr3⟩ : ∃ r3, r3 = V.leave s2.2 j := ⟨_, rfl⟩
          rw [← hr3] at hL
          have E3 : Hid (RES = (r3.1, (s2.1, r3.2))) := by show _ = _; rw [E1.out, if_pos trivial, if_pos rfl]; unfold wLeave; rw [← hr3]
          clear hr3 E1
          obtain ⟨r3b, s3⟩ := r3
          cases r3b with
          | none =>
            go_wp2_with fail
            refine hL.mono ?_
            rintro e w4 ⟨⟨v, rfl⟩, o1, o2⟩
            exact ⟨rfl, by rw [E3.out]; exact ⟨⟨v, rfl⟩, o1, HK1.out.trans (HP2.out.trans o2)⟩⟩
          | some b3 =>
            go_wp2_with fail
            refine hL.mono ?_
            rintro e w4 ⟨o0, o1, o2⟩
            obtain rfl : e = .returned (.bool b3) := o0
            go_wp2_with fail
            go_ret
            rw [E3.out]
            exact ⟨rfl, o1, HK1.out.trans (HP2.out.trans o2)⟩
theorem walk_allO (hV : VisO σ V zf n m0 eb M I Fe Fl ce cl) (hnl : ∀ t, t < n → (nx t).length ≤ 4096) : ∀ f, AllD σ V zf n m0 eb M I Fe Fl ce cl nx lo xb bl cp f
  | 0 => all_ofO hV 0 fun T j st W _ _ h1 h2 => by have := cf_set h1; omega
  | f + 1 => all_ofO hV (f + 1) (one_ofO hV f hnl (walk_allO hV hnl f))
end
end Go.Proofs.YtikhpbidbcfedaaGreat

