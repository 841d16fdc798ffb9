/- types.Can, check.Valid. -/
import Derived.Test.YtjdjpbdfchhcfaaGreatKE21
import Derived.Test.YtjdjpbdfchhcfaaGreatKE20
namespace Go.Proofs.YtjdjpbdfchhcfaaGreat
open Go.RowKit

set_option maxRecDepth 100000 in
set_option maxHeartbeats 4000000 in
theorem Can_any (t : Ty) (cs : Array Value) (B : Nat → Prop) (w : World) (h : t.In w B cs) (hB : Sub B w) :
    Calls Tryz.prog 87 #[.agg cs] w fun e w' => e = .returned (.bool t.can) ∧ Below w.heap.size w w' := by
  obtain ⟨hsz, -⟩ := Ty.In_cells h
  obtain ⟨W, HW⟩ : ∃ W, (w.alloc (.cells cs 34)).alloc (.cells #[.int .i64 0] 174) = W := ⟨_, rfl⟩
  have hzw : W.heap.size = w.heap.size + 2 := by rw [← HW]; simp
  have hbx : W.heap[w.heap.size]? = some (.cells cs 34 (0, 0)) := by
    rw [← HW, heap_alloc_old _ _ (by simp)]; exact heap_alloc_new w _
  have hcn : Cnt W (w.heap.size + 1) 0 := by
    unfold Cnt; rw [← HW]
    have := heap_alloc_new (w.alloc (.cells cs 34)) (.cells #[.int .i64 0] 174)
    simpa using this
  have HBW : Hid (Below w.heap.size w W) := by rw [← HW]; exact ((Below.refl _ _).alloc (Nat.le_refl _) _).alloc (by simp) _
  have HL : Hid ((loadVar 34 ⟨w.heap.size, 0, none⟩).run Tryz.prog W = .ok (.agg cs) W) := yld hsz hbx
  have HF : Hid (Calls Tryz.prog 108 #[.pointer (some ⟨w.heap.size + 1, 0, none⟩), .agg cs, .int .i64 1] W (FitE (w.heap.size + 1) (t.fit 1 0) W)) :=
    fits_any t.sz t (Nat.le_refl _) cs W (w.heap.size + 1) 0 1 (t.In_same (hB.same HBW.out) (fun k hk => Nat.lt_succ_of_lt (hB k hk)) cs h) hcn (by decide) (by decide) (by decide) (by decide)
  have HT : Hid (∀ w2, Below w.heap.size w w2 → Calls Tryz.prog 109 #[.agg cs] w2 fun e w' => e = .returned (.bool t.terms) ∧ Below w2.heap.size w2 w') := fun w2 h2 =>
    yterms_any t.sz t (Nat.le_refl _) cs B w2 (t.In_same (hB.same h2) (fun _ h => h) cs h) (hB.later h2)
  have HL2 : Hid (∀ w2, Below (w.heap.size + 1) W w2 → (loadVar 34 ⟨w.heap.size, 0, none⟩).run Tryz.prog w2 = .ok (.agg cs) w2) := fun w2 h2 => yld hsz (by rw [h2.block w.heap.size (by omega)]; exact hbx)
  have hcan : t.can = ((t.fit 1 0).1 && t.terms) := rfl
  rw [hcan]
  clear hcan h hB hbx hcn
  generalize t.fit 1 0 = x at *
  obtain ⟨xb, xm⟩ := x
  simp only
  cases xb with
  | false =>
    go_enter Tryz.func87, Tryz.ntmps87
    go_wp2_with ((with_reducible refine ld_row ?_ ?_ HL.out ?_); rfl; rfl)
    refine HF.out.mono ?_
    rintro e w2 ⟨rfl, -, hb2⟩
    have H2 : Hid (Below w.heap.size w w2) := HBW.out.trans (hb2.mono (by omega))
    clear hb2
    go_wp2_with fail
    go_ret
    exact ⟨rfl, H2.out⟩
  | true =>
    go_enter Tryz.func87, Tryz.ntmps87
    go_wp2_with ((with_reducible refine ld_row ?_ ?_ HL.out ?_); rfl; rfl)
    refine HF.out.mono ?_
    rintro e w2 ⟨rfl, -, hb2⟩
    have H2 : Hid (Below w.heap.size w w2 ∧ w.heap.size ≤ w2.heap.size) := ⟨HBW.out.trans (hb2.mono (by omega)), by have := hb2.size; omega⟩
    have HL3 : Hid ((loadVar 34 ⟨w.heap.size, 0, none⟩).run Tryz.prog w2 = .ok (.agg cs) w2) := HL2.out w2 hb2
    clear hb2
    go_wp2_with ((with_reducible refine ld_row ?_ ?_ HL3.out ?_); rfl; rfl)
    refine (HT.out w2 H2.out.1).mono ?_
    rintro e w3 ⟨rfl, hb3⟩
    have H3 : Hid (Below w.heap.size w w3) := H2.out.1.trans (hb3.mono H2.out.2)
    clear hb3
    go_wp2_with fail
    go_ret
    exact ⟨by simp, H3.out⟩
end Go.Proofs.YtjdjpbdfchhcfaaGreat

