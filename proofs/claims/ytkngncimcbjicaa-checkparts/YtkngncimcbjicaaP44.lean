/- The Go function tenonlaw07.CheckParts returns true. -/
import Derived.Test.YtkngncimcbjicaaP43
import Derived.Test.YtkngncimcbjicaaP33
import Derived.Laws.CopyOwn
namespace Go.Proofs.Ytkngncimcbjicaa
open Go.RowKit

theorem lt_some {w : World} {k : Nat} {o : Obj} (h : w.heap[k]? = some o) : k < w.heap.size := (Array.getElem?_eq_some_iff.1 h).1
theorem both_a {ca cb : Array Value} {x : Nat} (ha : ca.size = 18) (hx : x < 18) : (both ca cb)[x]? = ca[x]? := by
  have hx' : x < ca.toList.length := by rw [Array.length_toList]; omega
  simp only [both, List.getElem?_toArray]
  rw [List.getElem?_append_left hx', Array.getElem?_toList]
theorem both_b {ca cb : Array Value} {x : Nat} (ha : ca.size = 18) : (both ca cb)[18 + x]? = cb[x]? := by
  have hx' : ca.toList.length ≤ 18 + x := by rw [Array.length_toList]; omega
  simp only [both, List.getElem?_toArray]
  rw [List.getElem?_append_right hx', Array.length_toList, ha, Array.getElem?_toList, Nat.add_sub_cancel_left]

set_option maxRecDepth 100000 in
set_option maxHeartbeats 8000000 in
theorem CheckParts_any (a b : Ty) (ca cb : Array Value) (L : TmL) (al : Option Addr) (cl : Nat) (op : Bool) (w : World) (ha : a.In w (Lo w.heap.size) ca) (hb : b.In w (Lo w.heap.size) cb) (hL : L.In w (Lo w.heap.size) al 0) (hlen : L.len * 152 ≤ 140737488355328) :
    Calls Try.prog 6 #[.agg (both ca cb), .slice al L.len cl, .bool op] w fun e w' => e = .returned (.bool true) ∧ Below w.heap.size w w' := by
  obtain ⟨hsa, hoa⟩ := Ty.In_cells ha
  obtain ⟨hsb, hob⟩ := Ty.In_cells hb
  obtain ⟨i0, hi, hz0, hz1, hz2⟩ := info_parts Try.infoI
  have HL0a : Hid (∀ W, Below (w.alloc (.cells (both ca cb) 53)).heap.size (w.alloc (.cells (both ca cb) 53)) W → (loadVar 34 ⟨w.heap.size, 0, none⟩).run Try.prog W = .ok (.agg ca) W) := fun W hW =>
    yldE hsa (fun x hx => by rw [Nat.zero_add, hW.cell (p := ⟨w.heap.size, x, none⟩) (by simp), cell_of_row _ _ _ _ _ _ (heap_alloc_new w _)]; exact both_a hsa hx)
  have HL0b : Hid (∀ W, Below (w.alloc (.cells (both ca cb) 53)).heap.size (w.alloc (.cells (both ca cb) 53)) W → (loadVar 34 ⟨w.heap.size, 18, none⟩).run Try.prog W = .ok (.agg cb) W) := fun W hW =>
    yldE hsb (fun x hx => by rw [hW.cell (p := ⟨w.heap.size, 18 + x, none⟩) (by simp), cell_of_row _ _ _ _ _ _ (heap_alloc_new w _)]; exact both_b hsa)
  go_enter Try.func6, Try.ntmps6
  go_wp2_with fail
  refine wp_cut_two (.pointer (some ⟨w.heap.size, 0, none⟩)) (.agg ca) (.pointer (some ⟨w.heap.size, 18, none⟩)) (.agg cb) (fun ba bb W => Below (w.alloc (.cells (both ca cb) 53)).heap.size (w.alloc (.cells (both ca cb) 53)) W ∧ W.heap[ba]? = some (.cells ca 34 (0, 0)) ∧ W.heap[bb]? = some (.cells cb 34 (0, 0))) ?_ ?_
  · refine wp_region_held_drew (S := fun W => Below (w.alloc (.cells (both ca cb) 53)).heap.size (w.alloc (.cells (both ca cb) 53)) W) (by kernel_rfl) ?_ (fun hHeld => ?_)
    · exact (Below.refl _ _).drew
    have hS := hHeld
    clear hHeld
    refine wpAnyH_take (i := 0) (oi := { dst := some 31, op := Go.Op.indexAddr 53 (Go.Operand.tmp 3) (Go.Operand.const (Go.Value.int Go.IntKind.i64 0)), type := 0, pos := "law.go:166", after := #[], guard := none }) (v := ?_) rfl (by kernel_rfl) (by kernel_rfl) (by kernel_rfl) (fun _ _ _ h => absurd h.1 (fun e => by cases e)) (Or.inl ⟨by rfl, ?_⟩) (by assumption) ?_
    rotate_left
    · intro w hSw; (try dsimp only at hSw); go_simp; try (with_reducible rfl)
    simp only [Act.put, List.setIfInBounds_toArray, List.set_cons_zero, List.set_cons_succ]
    refine wpAnyH_take (i := 1) (oi := { dst := some 32, op := Go.Op.load 34 (Go.Operand.tmp 31), type := 34, pos := "law.go:166", after := #[{ on := 0, ground := Go.Ground.data }], guard := none }) (v := (.agg ca)) rfl (by kernel_rfl) (by kernel_rfl) (by kernel_rfl) (fun _ _ _ h => absurd h.1 (fun e => by cases e)) (take_ld rfl rfl rfl (fun w hSw => HL0a.out _ hSw)) (by assumption) ?_
    simp only [Act.put, List.setIfInBounds_toArray, List.set_cons_zero, List.set_cons_succ]
    refine wpAnyH_take (i := 2) (oi := { dst := some 33, op := Go.Op.indexAddr 53 (Go.Operand.tmp 3) (Go.Operand.const (Go.Value.int Go.IntKind.i64 1)), type := 0, pos := "law.go:166", after := #[{ on := 6, ground := Go.Ground.gcOnly Go.Departure.lateStores }], guard := none }) (v := ?_) rfl (by kernel_rfl) (by kernel_rfl) (by kernel_rfl) (fun _ _ _ h => absurd h.1 (fun e => by cases e)) (Or.inl ⟨by rfl, ?_⟩) (by assumption) ?_
    rotate_left
    · intro w hSw; (try dsimp only at hSw); go_simp; try (with_reducible rfl)
    simp only [Act.put, List.setIfInBounds_toArray, List.set_cons_zero, List.set_cons_succ]
    refine wpAnyH_take (i := 3) (oi := { dst := some 34, op := Go.Op.load 34 (Go.Operand.tmp 33), type := 34, pos := "law.go:166", after := #[{ on := 2, ground := Go.Ground.data }, { on := 6, ground := Go.Ground.gcOnly Go.Departure.lateStores }], guard := none }) (v := (.agg cb)) rfl (by kernel_rfl) (by kernel_rfl) (by kernel_rfl) (fun _ _ _ h => absurd h.1 (fun e => by cases e)) (take_ld rfl rfl rfl (fun w hSw => HL0b.out _ hSw)) (by assumption) ?_
    simp only [Act.put, List.setIfInBounds_toArray, List.set_cons_zero, List.set_cons_succ]
    generalize (w.alloc (.cells (both ca cb) 53)).drew = WD at hS ⊢
    refine wpAnyH_ready (rs := [4, 5]) (by kernel_rfl) (by simp) (AllReadyH.cons (o := { dst := some 7, op := Go.Op.alloc 34, type := 0, pos := "law.go:166", after := #[], guard := none }) rfl (fun K hK => ?_) (AllReadyH.cons (o := { dst := some 8, op := Go.Op.alloc 34, type := 0, pos := "law.go:166", after := #[], guard := none }) rfl (fun K hK => ?_) AllReadyH.nil))
    · rw [if_pos (by rfl)]
      refine wp_alloc_type rfl (fun za hz => ?_)
      have hS' := hS.alloc hS.size (.cells za 34)
      have hA := heap_alloc_new _ (.cells za 34) |> fun (h : (World.alloc WD (.cells za 34)).heap[(WD).heap.size]? = _) => h
      have hgeA := hS.size
      have hzA := hz
      refine hK.out _ _ hS' (fun hS => ?_)
      clear hK K hS'
      simp only [Act.put, List.setIfInBounds_toArray, List.set_cons_zero, List.set_cons_succ]
      refine wpAnyH_ready (rs := [5]) (by kernel_rfl) (by simp) (AllReadyH.cons (o := { dst := some 8, op := Go.Op.alloc 34, type := 0, pos := "law.go:166", after := #[], guard := none }) rfl (fun K hK => ?_) AllReadyH.nil)
      · rw [if_pos (by rfl)]
        refine wp_alloc_type rfl (fun zb hz => ?_)
        have hS' := hS.alloc hS.size (.cells zb 34)
        have hB := heap_alloc_new _ (.cells zb 34) |> fun (h : (World.alloc (World.alloc WD (.cells za 34)) (.cells zb 34)).heap[((World.alloc WD (.cells za 34))).heap.size]? = _) => h
        have hgeB := hS.size
        have hzB := hz
        have hltA := lt_some hA
        have hne : (WD).heap.size ≠ ((World.alloc WD (.cells za 34))).heap.size := Nat.ne_of_lt hltA
        have hA := (old_alloc (.cells zb 34) hltA).trans hA
        refine hK.out _ _ hS' (fun hS => ?_)
        clear hK K hS'
        simp only [Act.put, List.setIfInBounds_toArray, List.set_cons_zero, List.set_cons_succ]
        refine wpAnyH_ready (rs := [6]) (by kernel_rfl) (by simp) (AllReadyH.cons (o := { dst := none, op := Go.Op.store 34 (Go.Operand.tmp 7) (Go.Operand.tmp 32), type := 0, pos := "law.go:166", after := #[{ on := 4, ground := Go.Ground.data }, { on := 1, ground := Go.Ground.data }, { on := 0, ground := Go.Ground.phase }, { on := 1, ground := Go.Ground.phase }, { on := 2, ground := Go.Ground.textOnly Go.Departure.lateStores }, { on := 3, ground := Go.Ground.textOnly Go.Departure.lateStores }, { on := 4, ground := Go.Ground.phase }, { on := 5, ground := Go.Ground.phase }], guard := none }) rfl (fun K hK => ?_) AllReadyH.nil)
        · rw [if_pos (by rfl)]
          refine wp_store_row 34 _ _ rfl (WD).heap.size ca rfl rfl 34 za hA (by rw [hsa]; exact ysz) (by rw [hsa]; exact hzA) hoa ?_
          have hS' := below_setRow hS hgeA ca
          have hA := setRow_heap _ _ _ ca _ _ hA
          have hB := (setRow_other _ _ ((World.alloc WD (.cells za 34))).heap.size ca (by first | exact hne | exact hne.symm)).trans hB
          refine hK.out _ _ hS' (fun hS => ?_)
          clear hK K hS'
          dsimp only [Act.put]
          refine wpAnyH_ready (rs := [7]) (by kernel_rfl) (by simp) (AllReadyH.cons (o := { dst := none, op := Go.Op.store 34 (Go.Operand.tmp 8) (Go.Operand.tmp 34), type := 0, pos := "law.go:166", after := #[{ on := 5, ground := Go.Ground.data }, { on := 3, ground := Go.Ground.data }, { on := 6, ground := Go.Ground.chain }, { on := 0, ground := Go.Ground.phase }, { on := 1, ground := Go.Ground.phase }, { on := 2, ground := Go.Ground.phase }, { on := 3, ground := Go.Ground.phase }, { on := 4, ground := Go.Ground.phase }, { on := 5, ground := Go.Ground.phase }, { on := 6, ground := Go.Ground.phase }], guard := none }) rfl (fun K hK => ?_) AllReadyH.nil)
          · rw [if_pos (by rfl)]
            refine wp_store_row 34 _ _ rfl ((World.alloc WD (.cells za 34))).heap.size cb rfl rfl 34 zb hB (by rw [hsb]; exact ysz) (by rw [hsb]; exact hzB) hob ?_
            have hS' := below_setRow hS hgeB cb
            have hB := setRow_heap _ _ _ cb _ _ hB
            have hA := (setRow_other _ _ (WD).heap.size cb (by first | exact hne | exact hne.symm)).trans hA
            refine hK.out _ _ hS' (fun hS => ?_)
            clear hK K hS'
            dsimp only [Act.put]
            refine wpAnyH_done (by kernel_rfl) ?_ _
            exact ⟨rfl, _, _, rfl, hS, hA, hB⟩
    · rw [if_pos (by rfl)]
      refine wp_alloc_type rfl (fun zb hz => ?_)
      have hS' := hS.alloc hS.size (.cells zb 34)
      have hB := heap_alloc_new _ (.cells zb 34) |> fun (h : (World.alloc WD (.cells zb 34)).heap[(WD).heap.size]? = _) => h
      have hgeB := hS.size
      have hzB := hz
      refine hK.out _ _ hS' (fun hS => ?_)
      clear hK K hS'
      simp only [Act.put, List.setIfInBounds_toArray, List.set_cons_zero, List.set_cons_succ]
      refine wpAnyH_ready (rs := [4]) (by kernel_rfl) (by simp) (AllReadyH.cons (o := { dst := some 7, op := Go.Op.alloc 34, type := 0, pos := "law.go:166", after := #[], guard := none }) rfl (fun K hK => ?_) AllReadyH.nil)
      · rw [if_pos (by rfl)]
        refine wp_alloc_type rfl (fun za hz => ?_)
        have hS' := hS.alloc hS.size (.cells za 34)
        have hA := heap_alloc_new _ (.cells za 34) |> fun (h : (World.alloc (World.alloc WD (.cells zb 34)) (.cells za 34)).heap[((World.alloc WD (.cells zb 34))).heap.size]? = _) => h
        have hgeA := hS.size
        have hzA := hz
        have hltB := lt_some hB
        have hne : (WD).heap.size ≠ ((World.alloc WD (.cells zb 34))).heap.size := Nat.ne_of_lt hltB
        have hB := (old_alloc (.cells za 34) hltB).trans hB
        refine hK.out _ _ hS' (fun hS => ?_)
        clear hK K hS'
        simp only [Act.put, List.setIfInBounds_toArray, List.set_cons_zero, List.set_cons_succ]
        refine wpAnyH_ready (rs := [6]) (by kernel_rfl) (by simp) (AllReadyH.cons (o := { dst := none, op := Go.Op.store 34 (Go.Operand.tmp 7) (Go.Operand.tmp 32), type := 0, pos := "law.go:166", after := #[{ on := 4, ground := Go.Ground.data }, { on := 1, ground := Go.Ground.data }, { on := 0, ground := Go.Ground.phase }, { on := 1, ground := Go.Ground.phase }, { on := 2, ground := Go.Ground.textOnly Go.Departure.lateStores }, { on := 3, ground := Go.Ground.textOnly Go.Departure.lateStores }, { on := 4, ground := Go.Ground.phase }, { on := 5, ground := Go.Ground.phase }], guard := none }) rfl (fun K hK => ?_) AllReadyH.nil)
        · rw [if_pos (by rfl)]
          refine wp_store_row 34 _ _ rfl ((World.alloc WD (.cells zb 34))).heap.size ca rfl rfl 34 za hA (by rw [hsa]; exact ysz) (by rw [hsa]; exact hzA) hoa ?_
          have hS' := below_setRow hS hgeA ca
          have hA := setRow_heap _ _ _ ca _ _ hA
          have hB := (setRow_other _ _ (WD).heap.size ca (by first | exact hne | exact hne.symm)).trans hB
          refine hK.out _ _ hS' (fun hS => ?_)
          clear hK K hS'
          dsimp only [Act.put]
          refine wpAnyH_ready (rs := [7]) (by kernel_rfl) (by simp) (AllReadyH.cons (o := { dst := none, op := Go.Op.store 34 (Go.Operand.tmp 8) (Go.Operand.tmp 34), type := 0, pos := "law.go:166", after := #[{ on := 5, ground := Go.Ground.data }, { on := 3, ground := Go.Ground.data }, { on := 6, ground := Go.Ground.chain }, { on := 0, ground := Go.Ground.phase }, { on := 1, ground := Go.Ground.phase }, { on := 2, ground := Go.Ground.phase }, { on := 3, ground := Go.Ground.phase }, { on := 4, ground := Go.Ground.phase }, { on := 5, ground := Go.Ground.phase }, { on := 6, ground := Go.Ground.phase }], guard := none }) rfl (fun K hK => ?_) AllReadyH.nil)
          · rw [if_pos (by rfl)]
            refine wp_store_row 34 _ _ rfl (WD).heap.size cb rfl rfl 34 zb hB (by rw [hsb]; exact ysz) (by rw [hsb]; exact hzB) hob ?_
            have hS' := below_setRow hS hgeB cb
            have hB := setRow_heap _ _ _ cb _ _ hB
            have hA := (setRow_other _ _ ((World.alloc WD (.cells zb 34))).heap.size cb (by first | exact hne | exact hne.symm)).trans hA
            refine hK.out _ _ hS' (fun hS => ?_)
            clear hK K hS'
            dsimp only [Act.put]
            refine wpAnyH_done (by kernel_rfl) ?_ _
            exact ⟨rfl, _, _, rfl, hS, hA, hB⟩
  intro ba bb W2 hF
  obtain ⟨hW2, hba, hbb⟩ := hF
  have hbw : Below w.heap.size w W2 := ((Below.refl _ _).alloc (Nat.le_refl _) _).trans (hW2.mono (by simp))
  have HLo : Hid (∀ W, Below W2.heap.size W2 W → Below w.heap.size w W) := fun W hW => below_to hbw hW
  have HA : Hid (∀ W, Below W2.heap.size W2 W → (loadVar 34 ⟨ba, 0, none⟩).run Try.prog W = .ok (.agg ca) W) := fun W hW => yld hsa ((hW.block ba (lt_some hba)).trans hba)
  have HB : Hid (∀ W, Below W2.heap.size W2 W → (loadVar 34 ⟨bb, 0, none⟩).run Try.prog W = .ok (.agg cb) W) := fun W hW => yld hsb ((hW.block bb (lt_some hbb)).trans hbb)
  have hSm : ∀ W, Below W2.heap.size W2 W → Same (Lo w.heap.size) w W := fun W hW => Same.of_below (HLo.out W hW) (Nat.le_refl _)
  have hUp : ∀ W, Below W2.heap.size W2 W → ∀ k, Lo w.heap.size k → Lo W.heap.size k := fun W hW k hk => Nat.lt_of_lt_of_le hk (HLo.out W hW).size
  have hAI : ∀ W, Below W2.heap.size W2 W → a.In W (Lo W.heap.size) ca := fun W hW => a.In_same (hSm W hW) (hUp W hW) ca ha
  have hBI : ∀ W, Below W2.heap.size W2 W → b.In W (Lo W.heap.size) cb := fun W hW => b.In_same (hSm W hW) (hUp W hW) cb hb
  have HBU : Hid (∀ (v : Tm) (ct : Array Value) (W : World), v.In w (Lo w.heap.size) ct → Below W2.heap.size W2 W → Calls Try.prog 7 #[.agg ct] W fun e w' => ∃ x, e = .returned x ∧ Below W.heap.size W w' ∧ v.V w' (Fr W w') x) := fun v ct W hv hW =>
    built_any v.sz v (Nat.le_refl _) ct (Lo w.heap.size) W (v.In_same (hSm W hW) (fun _ h => h) ct hv) (Sub.lo (HLo.out W hW).size)
  have HIA : Hid (∀ (v : Tm) (x : Value) (W : World), v.V W (Lo W.heap.size) x → Below W2.heap.size W2 W → Calls Try.prog 8 #[x, .agg ca] W fun e w' => e = .returned (.tuple #[.bool (Sp.isA v a).1, .int .i64 (Sp.isA v a).2.1, .int .i64 (Sp.isA v a).2.2]) ∧ Below W.heap.size W w') := fun v x W hv hW =>
    Is_all v x a ca W.heap.size W (Nat.le_refl _) hv (hAI W hW)
  have HIB : Hid (∀ (v : Tm) (x : Value) (W : World), v.V W (Lo W.heap.size) x → Below W2.heap.size W2 W → Calls Try.prog 8 #[x, .agg cb] W fun e w' => e = .returned (.tuple #[.bool (Sp.isA v b).1, .int .i64 (Sp.isA v b).2.1, .int .i64 (Sp.isA v b).2.2]) ∧ Below W.heap.size W w') := fun v x W hv hW =>
    Is_all v x b cb W.heap.size W (Nat.le_refl _) hv (hBI W hW)
  have HIU := fun (v : Tm) (x : Value) (W : World) (hv : v.V W (Lo W.heap.size) x) (hW : Below W2.heap.size W2 W) => is_union v x a b ca cb W hv (hAI W hW) (hBI W hW)
  have HIU : Hid _ := HIU
  have HID := fun (v : Tm) (x : Value) (W : World) (hv : v.V W (Lo W.heap.size) x) (hW : Below W2.heap.size W2 W) => is_dict v x a ca op W hv (hAI W hW)
  have HID : Hid _ := HID
  have HIL := fun (g cap : Nat) (W : World) (hv : L.LV W (Lo W.heap.size) (some ⟨g, 0, none⟩) cap) (hW : Below W2.heap.size W2 W) => is_list a ca W L g cap hv (hAI W hW)
  have HIL : Hid _ := HIL
  have HTD : Hid (∀ (g q : Nat) (ct : Array Value) (W : World), ct.size = 11 → g < w.heap.size → (∀ x, x < 11 → w.cell? ⟨g, q + x, none⟩ = ct[x]?) → Below W2.heap.size W2 W → (loadVar 29 ⟨g, q, none⟩).run Try.prog W = .ok (.agg ct) W) := fun g q ct W hs hg hc hW =>
    yldT hs (fun x hx => by rw [(HLo.out W hW).cell (p := ⟨g, q + x, none⟩) hg]; exact hc x hx)
  have HLI : Hid (L.In w (Lo w.heap.size) al 0) := hL
  have HQ : Hid (∀ v, _) := parts_of a b op
  have HY2 : Hid (∀ W : World, (Instr.buildSlice 30 2 #[(0, .agg ca), (1, .agg cb)]).run Try.prog W = .ok (.slice (some ⟨W.heap.size, 0, none⟩) 2 2) (Wu W ca cb)) := fun W => ybs W hsa hsb
  have HY1 : Hid (∀ W : World, (Instr.buildSlice 30 1 #[(0, .agg ca)]).run Try.prog W = .ok (.slice (some ⟨W.heap.size, 0, none⟩) 1 1) (W.alloc (.cells ca 34))) := fun W => ybs1 W hsa
  have HY0 : Hid (∀ W : World, (Instr.buildSlice 30 1 #[(0, .agg (kcells 2 (.slice none 0 0) (.slice none 0 0) (.slice none 0 0) false))]).run Try.prog W = .ok (.slice (some ⟨W.heap.size, 0, none⟩) 1 1) (W.alloc (.cells (kcells 2 (.slice none 0 0) (.slice none 0 0) (.slice none 0 0) false) 34))) := fun W => ybs1 W rfl
  have HX0 : Hid (XL L W2 (W2.alloc (.cells #[] 20)) 0 W2.heap.size 0 [] L) := XL.start L W2
  have HLS : Hid ((Sp.isA (mkL L) (tyLs a)).2.2 = 0 → (Sp.isA (mkL L) (tyLs a)).1 = L.inA a) := tyLs_isA
  clear ha hb hL hsa hsb hoa hob hW2 hba hbb hbw hSm hUp hAI hBI HL0a HL0b
  simp only [Act.put, List.setIfInBounds_toArray, List.set_cons_zero, List.set_cons_succ]
  go_wp2_with fail
  go_loopw [9, 10, 11] (fun xv iv i wr => ∃ (k g cap : Nat) (xs : List Value) (r : TmL) (ib : Bool), xv = .slice (some ⟨g, 0, none⟩) k cap ∧ iv = .bool ib ∧ i = .int .i64 (k : Int) ∧ k ≤ L.len ∧ Hid (r.len + k = L.len ∧ r.In w (Lo w.heap.size) al k ∧ XL L W2 wr k g cap xs r ∧ (ib && r.inA a) = L.inA a)) (fun _ _ i _ => L.len - (intOf i).toNat)
  case atStart => exact ⟨0, W2.heap.size, 0, [], L, true, rfl, rfl, rfl, Nat.zero_le _, ⟨by omega, HLI.out, HX0.out, by simp⟩⟩
  case round =>
    obtain ⟨k, g, cap, xs, r, ib, rfl, rfl, rfl, hkl, HK⟩ := hrel
    cases r with
    | nil =>
      obtain rfl : k = L.len := by have := HK.out.1; simp [TmL.len] at this; omega
      have HBR : Hid (Below W2.heap.size W2 wr) := HK.out.2.2.1.bel
      have hib : Hid (ib = L.inA a) := by show _ = _; have := HK.out.2.2.2; simpa [TmL.inA] using this
      have HV : Hid (L.LV wr (Lo wr.heap.size) (some ⟨g, 0, none⟩) cap) := HK.out.2.2.1.done rfl
      have HAr : Hid ((loadVar 34 ⟨ba, 0, none⟩).run Try.prog wr = .ok (.agg ca) wr) := HA.out wr HBR.out
      have HYr : Hid ((Instr.buildSlice 30 1 #[(0, .agg ca)]).run Try.prog wr = .ok (.slice (some ⟨wr.heap.size, 0, none⟩) 1 1) (wr.alloc (.cells ca 34))) := HY1.out wr
      have HBA : Hid (Below W2.heap.size W2 (wr.alloc (.cells ca 34))) := HBR.out.alloc HBR.out.size _
      have hll : (L.inA a) = (L.inA a) := rfl
      clear HK hll
      go_wp2_with (first | ((with_reducible refine ld_row ?_ ?_ HAr.out ?_); rfl; rfl) | ((with_reducible refine bs_row ?_ ?_ HYr.out ?_); rfl; rfl))
      refine (HIL.out g cap wr HV.out HBR.out).mono ?_
      rintro e w8 ⟨rfl, hb8⟩
      have HB8 : Hid (Below W2.heap.size W2 w8) := below_to HBA.out hb8
      have HLS' := HLS.out
      clear hb8 HV
      generalize Sp.isA (mkL L) (tyLs a) = rl at *
      obtain ⟨ro, rm, re⟩ := rl
      have HY9 : Hid ((Instr.buildSlice 30 1 #[(0, .agg (kcells 2 (.slice none 0 0) (.slice none 0 0) (.slice none 0 0) false))]).run Try.prog (w8.alloc (.cells #[] 20)) = .ok (.slice (some ⟨w8.heap.size + 1, 0, none⟩) 1 1) ((w8.alloc (.cells #[] 20)).alloc (.cells (kcells 2 (.slice none 0 0) (.slice none 0 0) (.slice none 0 0) false) 34))) := by
        show _ = _; show _ = _; have := HY0.out (w8.alloc (.cells #[] 20)); simpa using this
      have HBN : Hid (Below W2.heap.size W2 ((w8.alloc (.cells #[] 20)).alloc (.cells (kcells 2 (.slice none 0 0) (.slice none 0 0) (.slice none 0 0) false) 34))) := (HB8.out.alloc HB8.out.size _).alloc (by have := HB8.out.size; simp; omega) _
      go_wp2_with ((with_reducible refine bs_row ?_ ?_ HY9.out ?_); rfl; rfl)
      refine (is_none w8).mono ?_
      rintro e w9 ⟨rfl, hb9⟩
      have HB9 : Hid (Below W2.heap.size W2 w9) := below_to HBN.out hb9
      clear hb9
      by_cases hre : re = 0
      · subst hre
        have hro : ro = ib := by rw [hib.out]; exact HLS' rfl
        subst hro
        clear HLS' hib
        cases ro
        all_goals
          go_wp2_with fail
          go_ret
          exact ⟨rfl, HLo.out _ HB9.out⟩
      · have hre' : (re == 0) = false := by simp [hre]
        clear HLS' hib
        go_wp2_with fail
        go_ret
        exact ⟨rfl, HLo.out _ HB9.out⟩
    | cons v r =>
      have hk1 : k < L.len := by have := HK.out.1; simp only [TmL.len] at this; omega
      have hi0 : (0 : Int) ≤ (k : Int) := Int.natCast_nonneg _
      have hi1 : (k : Int) < (L.len : Int) := by omega
      have hin := HK.out.2.1
      simp only [TmL.In] at hin
      obtain ⟨g0, o0, ct, rfl, hg0, hc, hvi, hin'⟩ := hin
      have HXL : Hid (XL L W2 wr k g cap xs (.cons v r)) := HK.out.2.2.1
      have HBR : Hid (Below W2.heap.size W2 wr) := HXL.out.bel
      have HN : Hid (r.len + (k + 1) = L.len ∧ r.In w (Lo w.heap.size) (some ⟨g0, o0, none⟩) (k + 1)) := ⟨by have := HK.out.1; simp only [TmL.len] at this; omega, hin'⟩
      have HNb : Hid ((ib && (decide ((Sp.isA v a).2.2 = 0) && (Sp.isA v a).1 && r.inA a)) = L.inA a) := HK.out.2.2.2
      have HTL : Hid ((loadVar 29 ⟨g0, o0 + k * 11, none⟩).run Try.prog wr = .ok (.agg ct) wr) := HTD.out g0 (o0 + k * 11) ct wr (Tm.In_size hvi) hg0 hc HBR.out
      have HBC : Hid (Calls Try.prog 7 #[.agg ct] wr fun e w' => ∃ x, e = .returned x ∧ Below wr.heap.size wr w' ∧ v.V w' (Fr wr w') x) := HBU.out v ct wr hvi HBR.out
      have HGB : Hid (W2.heap.size ≤ wr.heap.size) := HBR.out.size
      clear hg0 hc hvi hin' HK
      go_wp2_with ((with_reducible refine ld_row ?_ ?_ HTL.out ?_); rfl; rfl)
      refine HBC.out.mono ?_
      rintro e w3 ⟨x, rfl, hb3, hx⟩
      have HB3 : Hid (Below W2.heap.size W2 w3) := below_to HBR.out hb3
      have HX3 : Hid (v.V w3 (Lo w3.heap.size) x) := v.V_same (Same.refl _ _) (fun k hk => hk.2) x hx
      have HA3 : Hid ((loadVar 34 ⟨ba, 0, none⟩).run Try.prog w3 = .ok (.agg ca) w3) := HA.out w3 HB3.out
      have hxs := v.V_shape x hx
      have HX0' : Hid (Below wr.heap.size wr w3 ∧ v.V w3 (Fr wr w3) x) := ⟨hb3, hx⟩
      clear hb3 hx
      have hone : ∀ u ∈ [x], u.oneCell' = true := by
        rcases hxs with rfl | ⟨T0, y0, rfl⟩
        · exact one_nil
        · exact one_iface T0 y0
      have HONE : Hid (∀ u ∈ [x], u.oneCell' = true) := hone
      clear hone
      have HFB : Hid (∀ W : World, (Instr.build 55 #[(0, .string { data := #[97] }), (1, x)]).run Try.prog W = .ok (.agg #[.string { data := #[97] }, x]) W) := fbuild x hxs _
      have HLBB : Hid (∀ W : World, (Instr.buildSlice 49 1 #[(0, x)]).run Try.prog W = .ok (.slice (some ⟨W.heap.size, 0, none⟩) 1 1) (W.alloc (.cells #[x] 20))) := lbuild x hxs
      clear hxs
      go_wp2_with ((with_reducible refine ld_row ?_ ?_ HA3.out ?_); rfl; rfl)
      refine (HIA.out v _ w3 HX3.out HB3.out).mono ?_
      rintro e w4 ⟨rfl, hb4⟩
      have HB4 : Hid (Below W2.heap.size W2 w4) := below_to HB3.out hb4
      have HX4 := v.V_same (Same.of_below hb4 (Nat.le_refl _)) (fun k (hk : k < w3.heap.size) => Nat.lt_of_lt_of_le hk hb4.size) _ HX3.out
      have HI4 := HIB.out v _ w4 HX4 HB4.out
      have HBB4 : Hid ((loadVar 34 ⟨bb, 0, none⟩).run Try.prog w4 = .ok (.agg cb) w4) := HB.out w4 HB4.out
      have hide : Hid _ := HI4
      have HX4 : Hid _ := HX4
      have HP4 := hb4
      have HP4 : Hid _ := HP4
      clear hb4 HI4
      go_wp2_with ((with_reducible refine ld_row ?_ ?_ HBB4.out ?_); rfl; rfl)
      refine (show Calls _ _ _ _ _ from hide.out).mono ?_
      rintro e w5 ⟨rfl, hb5⟩
      have HB5 : Hid (Below W2.heap.size W2 w5) := below_to HB4.out hb5
      have HX5 := v.V_same (Same.of_below hb5 (Nat.le_refl _)) (fun k (hk : k < w4.heap.size) => Nat.lt_of_lt_of_le hk hb5.size) _ HX4.out
      have HX5 : Hid _ := HX5
      have HP5 := below_to HP4.out hb5
      have HP5 : Hid _ := HP5
      have HA5 : Hid ((loadVar 34 ⟨ba, 0, none⟩).run Try.prog w5 = .ok (.agg ca) w5) := HA.out w5 HB5.out
      have HBB5 : Hid ((loadVar 34 ⟨bb, 0, none⟩).run Try.prog w5 = .ok (.agg cb) w5) := HB.out w5 HB5.out
      have HY5 : Hid ((Instr.buildSlice 30 2 #[(0, .agg ca), (1, .agg cb)]).run Try.prog w5 = .ok (.slice (some ⟨w5.heap.size, 0, none⟩) 2 2) (Wu w5 ca cb)) := HY2.out w5
      have HI5 := HIU.out v _ w5 HX5.out HB5.out
      have HI5 : Hid _ := HI5
      have HBU5 : Hid (Below w5.heap.size w5 (Wu w5 ca cb)) := (Below.refl _ _).alloc (Nat.le_refl _) _
      clear hb5 hide
      go_wp2_with (first | ((with_reducible refine ld_row ?_ ?_ HA5.out ?_); rfl; rfl) | ((with_reducible refine ld_row ?_ ?_ HBB5.out ?_); rfl; rfl) | ((with_reducible refine bs_row ?_ ?_ HY5.out ?_); rfl; rfl))
      refine (show Calls _ _ _ _ _ from HI5.out).mono ?_
      rintro e w6 ⟨rfl, hb6⟩
      have hb6 := below_to HBU5.out hb6
      have HB6 : Hid (Below W2.heap.size W2 w6) := below_to HB5.out hb6
      have HX6 := v.V_same (Same.of_below hb6 (Nat.le_refl _)) (fun k (hk : k < w5.heap.size) => Nat.lt_of_lt_of_le hk hb6.size) _ HX5.out
      have HI6 := HID.out v _ w6 HX6 HB6.out
      have HI6 : Hid _ := HI6
      have HP6 := below_to HP5.out hb6
      have HP6 : Hid _ := HP6
      clear hb6 HI5 HX6
      have HWD := Wd_below x ca w6
      have HWD : Hid _ := HWD
      have HA6 := HA.out (((w6.alloc (.cells #[.string { data := #[97] }, x, .string { data := #[122] }, .iface 4 (.bool true)] 55)).alloc (.cells #[.string { data := #[97] }] 9)).alloc (.cells #[.bool false] 4)) (((HB6.out.alloc HB6.out.size _).alloc (by have := HB6.out.size; simp; omega) _).alloc (by have := HB6.out.size; simp; omega) _)
      have HA6 : Hid _ := HA6
      have HY6 : Hid ((Instr.buildSlice 30 1 #[(0, .agg ca)]).run Try.prog (((w6.alloc (.cells #[.string { data := #[97] }, x, .string { data := #[122] }, .iface 4 (.bool true)] 55)).alloc (.cells #[.string { data := #[97] }] 9)).alloc (.cells #[.bool false] 4)) = .ok (.slice (some ⟨w6.heap.size + 1 + 1 + 1, 0, none⟩) 1 1) (Wd w6 x ca)) := by
        show _ = _
        have := HY1.out (((w6.alloc (.cells #[.string { data := #[97] }, x, .string { data := #[122] }, .iface 4 (.bool true)] 55)).alloc (.cells #[.string { data := #[97] }] 9)).alloc (.cells #[.bool false] 4))
        simpa using this
      clear HA HB HBU HTD HLI HY2 HY1 HY0 HX0 HIL HLS
      rcases HQ.out v with hne | ⟨p, i1, h1, hbu, hdd⟩
      · have HLF : Hid (L.inA a = false) := by show _ = _; have := HNb.out; rw [decide_eq_false hne] at this; simpa using this.symm
        have hne' : ((Sp.isA v a).2.2 == 0) = false := by simp [hne]
        clear hne HNb HQ HIA HIB HIU HID
        generalize Sp.isA v a = ra at *
        generalize Sp.isA v b = rb at *
        generalize Sp.isA v (tyU a b) = ru at *
        obtain ⟨ra0, ra1, ra2⟩ := ra
        obtain ⟨rb0, rb1, rb2⟩ := rb
        obtain ⟨ru0, ru1, ru2⟩ := ru
        go_wp2_with (first | ((with_reducible refine bd_row ?_ ?_ (HFB.out _) ?_); rfl; rfl) | ((with_reducible refine ld_row ?_ ?_ HA6.out ?_); rfl; rfl) | ((with_reducible refine bs_row ?_ ?_ HY6.out ?_); rfl; rfl))
        refine (show Calls _ _ _ _ _ from HI6.out).mono ?_
        rintro e w7 ⟨rfl, hb7⟩
        have hb7 := below_to HWD.out hb7
        have HB7 : Hid (Below W2.heap.size W2 w7) := below_to HB6.out hb7
        have HP7 := below_to HP6.out hb7
        have HX7 := v.V_same (fun k hk => HP7.block k hk.2) (fun k hk => ⟨hk.1, Nat.lt_of_lt_of_le hk.2 HP7.size⟩ : ∀ k, Fr wr w3 k → Fr wr w7 k) _ HX0'.out.2
        have HX7 : Hid _ := HX7
        have HPW : Hid (Below wr.heap.size wr w7) := below_to HX0'.out.1 HP7
        have hw7 := HPW.out.size
        have hw2 := HGB.out
        have HLB : Hid ((Instr.buildSlice 49 1 #[(0, x)]).run Try.prog w7 = .ok (.slice (some ⟨w7.heap.size, 0, none⟩) 1 1) (w7.alloc (.cells #[x] 20))) := HLBB.out w7
        clear hb7 HI6 HP7
        generalize Sp.isA (dT v) (tyDc a op) = rd at *
        obtain ⟨rd0, rd1, rd2⟩ := rd
        cases ib
        all_goals
          go_wp2_with (first | ((with_reducible refine bs_row ?_ ?_ HLB.out ?_); rfl; rfl) | (at_builtin; refine wpList_app _ rfl _ _ 49 rfl W2.heap.size 20 i0 .nilIface 1 16 Try.undL hi hz0 hz1 hz2 rfl (by decide) _ _ xs rfl ((owns_below HPW.out HXL.out.own).alloc _) ⟨w7.heap.size, 0, none⟩ 1 1 [x] rfl rfl (cell_one_new _ _ _) HONE.out (by decide) (by unfold maxLen; omega) (by omega) (by simp; omega) ?_; intro g' cap' w8 hown' hgrow hor))
          have HN8 := HXL.out.step HPW.out HX7.out hown' hgrow hor
          go_roundw
          case rel => exact ⟨k + 1, g', cap', _, r, _, rfl, rfl, by go_num, by omega, ⟨HN.out.1, HN.out.2, HN8, by rw [HLF.out]; rfl⟩⟩
          case measure => simp [intOf]; omega
      · have HNc : Hid ((ib && (p && r.inA a)) = L.inA a) := by show _ = _; have := HNb.out; rw [h1] at this; simpa using this
        clear HNb HQ HIA HIB HIU HID
        rw [h1]
        rcases hbu with hbn | ⟨q, j1, h2, hu⟩
        · have hbn' : ((Sp.isA v b).2.2 == 0) = false := by simp [hbn]
          clear hbn h1
          generalize Sp.isA v b = rb at *
          generalize Sp.isA v (tyU a b) = ru at *
          obtain ⟨rb0, rb1, rb2⟩ := rb
          obtain ⟨ru0, ru1, ru2⟩ := ru
          go_wp2_with (first | ((with_reducible refine bd_row ?_ ?_ (HFB.out _) ?_); rfl; rfl) | ((with_reducible refine ld_row ?_ ?_ HA6.out ?_); rfl; rfl) | ((with_reducible refine bs_row ?_ ?_ HY6.out ?_); rfl; rfl))
          refine (show Calls _ _ _ _ _ from HI6.out).mono ?_
          rintro e w7 ⟨rfl, hb7⟩
          have hb7 := below_to HWD.out hb7
          have HB7 : Hid (Below W2.heap.size W2 w7) := below_to HB6.out hb7
          have HP7 := below_to HP6.out hb7
          have HX7 := v.V_same (fun k hk => HP7.block k hk.2) (fun k hk => ⟨hk.1, Nat.lt_of_lt_of_le hk.2 HP7.size⟩ : ∀ k, Fr wr w3 k → Fr wr w7 k) _ HX0'.out.2
          have HX7 : Hid _ := HX7
          have HPW : Hid (Below wr.heap.size wr w7) := below_to HX0'.out.1 HP7
          have hw7 := HPW.out.size
          have hw2 := HGB.out
          have HLB : Hid ((Instr.buildSlice 49 1 #[(0, x)]).run Try.prog w7 = .ok (.slice (some ⟨w7.heap.size, 0, none⟩) 1 1) (w7.alloc (.cells #[x] 20))) := HLBB.out w7
          clear hb7 HI6 HP7
          rcases hdd with hd | hd | ⟨m, hd⟩
          · rw [hd]
            clear hd
            go_wp2_with fail
            go_ret
            exact ⟨rfl, HLo.out _ HB7.out⟩
          · rw [hd]
            clear hd
            go_wp2_with fail
            go_ret
            exact ⟨rfl, HLo.out _ HB7.out⟩
          · rw [hd]
            clear hd
            cases p <;> cases ib
            all_goals
              go_wp2_with (first | ((with_reducible refine bs_row ?_ ?_ HLB.out ?_); rfl; rfl) | (at_builtin; refine wpList_app _ rfl _ _ 49 rfl W2.heap.size 20 i0 .nilIface 1 16 Try.undL hi hz0 hz1 hz2 rfl (by decide) _ _ xs rfl ((owns_below HPW.out HXL.out.own).alloc _) ⟨w7.heap.size, 0, none⟩ 1 1 [x] rfl rfl (cell_one_new _ _ _) HONE.out (by decide) (by unfold maxLen; omega) (by omega) (by simp; omega) ?_; intro g' cap' w8 hown' hgrow hor))
              have HN8 := HXL.out.step HPW.out HX7.out hown' hgrow hor
              go_roundw
              case rel => exact ⟨k + 1, g', cap', _, r, _, rfl, rfl, by go_num, by omega, ⟨HN.out.1, HN.out.2, HN8, by have := HNc.out; simpa using this⟩⟩
              case measure => simp [intOf]; omega
        · rw [h2]
          clear h1 h2
          rcases hu with hu | hu
          · rw [hu]
            clear hu hdd
            go_wp2_with fail
            go_ret
            exact ⟨rfl, HLo.out _ HB6.out⟩
          · rw [hu]
            clear hu
            cases p
            all_goals
              go_wp2_with (first | ((with_reducible refine bd_row ?_ ?_ (HFB.out _) ?_); rfl; rfl) | ((with_reducible refine ld_row ?_ ?_ HA6.out ?_); rfl; rfl) | ((with_reducible refine bs_row ?_ ?_ HY6.out ?_); rfl; rfl))
              refine (show Calls _ _ _ _ _ from HI6.out).mono ?_
              rintro e w7 ⟨rfl, hb7⟩
              have hb7 := below_to HWD.out hb7
              have HB7 : Hid (Below W2.heap.size W2 w7) := below_to HB6.out hb7
              have HP7 := below_to HP6.out hb7
              have HX7 := v.V_same (fun k hk => HP7.block k hk.2) (fun k hk => ⟨hk.1, Nat.lt_of_lt_of_le hk.2 HP7.size⟩ : ∀ k, Fr wr w3 k → Fr wr w7 k) _ HX0'.out.2
              have HX7 : Hid _ := HX7
              have HPW : Hid (Below wr.heap.size wr w7) := below_to HX0'.out.1 HP7
              have hw7 := HPW.out.size
              have hw2 := HGB.out
              have HLB : Hid ((Instr.buildSlice 49 1 #[(0, x)]).run Try.prog w7 = .ok (.slice (some ⟨w7.heap.size, 0, none⟩) 1 1) (w7.alloc (.cells #[x] 20))) := HLBB.out w7
              clear hb7 HI6 HP7
              rcases hdd with hd | hd | ⟨m, hd⟩
              · rw [hd]
                clear hd
                go_wp2_with fail
                go_ret
                exact ⟨rfl, HLo.out _ HB7.out⟩
              · rw [hd]
                clear hd
                go_wp2_with fail
                go_ret
                exact ⟨rfl, HLo.out _ HB7.out⟩
              · rw [hd]
                clear hd
                cases ib
                all_goals
                  go_wp2_with (first | ((with_reducible refine bs_row ?_ ?_ HLB.out ?_); rfl; rfl) | (at_builtin; refine wpList_app _ rfl _ _ 49 rfl W2.heap.size 20 i0 .nilIface 1 16 Try.undL hi hz0 hz1 hz2 rfl (by decide) _ _ xs rfl ((owns_below HPW.out HXL.out.own).alloc _) ⟨w7.heap.size, 0, none⟩ 1 1 [x] rfl rfl (cell_one_new _ _ _) HONE.out (by decide) (by unfold maxLen; omega) (by omega) (by simp; omega) ?_; intro g' cap' w8 hown' hgrow hor))
                  have HN8 := HXL.out.step HPW.out HX7.out hown' hgrow hor
                  go_roundw
                  case rel => exact ⟨k + 1, g', cap', _, r, _, rfl, rfl, by go_num, by omega, ⟨HN.out.1, HN.out.2, HN8, by have := HNc.out; simpa using this⟩⟩
                  case measure => simp [intOf]; omega
end Go.Proofs.Ytkngncimcbjicaa

