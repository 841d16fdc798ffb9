/- (*shape).asType of the type of one value alone. -/
import Derived.Test.YtjdjpbdfchhcfaaGreatKE52
import Derived.Laws.CopyRow
namespace Go.Proofs.YtjdjpbdfchhcfaaGreat
open Go.RowKit

theorem tsz11 : (Tryz.prog.info? 29).map (·.size) = some 11 := by kernel_rfl
abbrev acs4 (k : Int) (b : Bool) (i : Int) (f : Nat) (tx : ByteArray) (vb : Value) (rf : Int) (vl vf : Value) (c : ByteArray) (vr : Int) (vk : Value) : Array Value := #[.int .i64 4, .int .i64 0, .int .i64 k, .bool b, .int .i64 i, .float .f64 f, .string tx, vb, .int .u64 rf, vl, vf, .string c, .int .i64 vr, .slice none 0 0, .slice none 0 0, vk, .bool false, .string ByteArray.empty]
theorem only_st {w : World} {TB : Nat} {vk : Value} (k : Int) (b : Bool) (i : Int) (f : Nat) (tx : ByteArray) (a1 : Option Addr) (n1 c1 : Nat) (rf : Int) (a2 : Option Addr) (n2 c2 : Nat) (a3 : Option Addr) (n3 c3 : Nat) (c : ByteArray) (vr : Int) (h : w.heap[TB]? = some (.cells (acs 4 0 vk false ByteArray.empty) 34 (0, 0))) :
    (storeVar 29 ⟨TB, 2, none⟩ (.agg (tcells k b i f tx (.slice a1 n1 c1) rf (.slice a2 n2 c2) (.slice a3 n3 c3) c vr))).run Tryz.prog w = .ok () (w.setRow TB (acs4 k b i f tx (.slice a1 n1 c1) rf (.slice a2 n2 c2) (.slice a3 n3 c3) c vr vk)) := by
  have hs := run_storeCells_at (P := Tryz.prog) TB 2 34 (tcells k b i f tx (.slice a1 n1 c1) rf (.slice a2 n2 c2) (.slice a3 n3 c3) c vr).toList 0 _ w h (by simp [tcells]) (fun v hv => by
    simp only [tcells, List.mem_cons, List.not_mem_nil, or_false] at hv
    rcases hv with rfl | rfl | rfl | rfl | rfl | rfl | rfl | rfl | rfl | rfl | rfl <;> rfl)
  cases hq : Tryz.prog.info? 29 with
  | none => have := tsz11; rw [hq] at this; simp at this
  | some i0 =>
    have hsz : i0.size = 11 := by have := tsz11; rw [hq] at this; simpa using this
    simp [storeVar, sizeOf, typeInfo, hq, Value.cells, hsz, tcells]
    exact hs
theorem acs4_one (k : Int) (b : Bool) (i : Int) (f : Nat) (tx : ByteArray) (a1 : Option Addr) (n1 c1 : Nat) (rf : Int) (a2 : Option Addr) (n2 c2 : Nat) (a3 : Option Addr) (n3 c3 : Nat) (c : ByteArray) (vr : Int) (a4 : Option Addr) (n4 c4 : Nat) : (acs4 k b i f tx (.slice a1 n1 c1) rf (.slice a2 n2 c2) (.slice a3 n3 c3) c vr (.slice a4 n4 c4)).all (·.oneCell') = true := by kernel_rfl
theorem Tm.In_boxT {w : World} {B : Nat → Prop} {t : Tm} {cs : Array Value} (h : t.In w B cs) : ∃ b i f x ab nb cb r al nl cl af nf cf c v, cs = tcells t.kind b i f x (.slice ab nb cb) r (.slice al nl cl) (.slice af nf cf) c v := by
  cases t with
  | mk k b i f tx by' rf l fs c vr =>
    simp only [Tm.In] at h
    obtain ⟨ab, cb, al, cl, af, cf, e, _⟩ := h
    exact ⟨b, i, f, tx, ab, by'.size, cb, rf, al, l.len, cl, af, fs.len, cf, c, vr, e⟩

set_option maxRecDepth 100000 in
set_option maxHeartbeats 8000000 in
theorem as_only (s x y : Int) (v : Value) (t : Tm) (b B : Nat) (w : World) (hB : B ≤ w.heap.size) (hb : b < B)
    (hh : w.heap[b]? = some (.cells (shc 4 0 v s (.slice none 0 0) (.slice none 0 0) (.slice none 0 0) false ByteArray.empty x y) 102 (0, 0))) (hv : t.V w (Lo B) v) (hg : t.all.e = 0) (hbd : t.Bdd) :
    Calls Tryz.prog 29 #[.pointer (some ⟨b, 0, none⟩)] w fun e w' => ∃ cs, e = .returned (.agg cs) ∧ Below w.heap.size w w' ∧ (Ty.mk 4 0 t.clean .nil [] [] false ByteArray.empty).In w' (Fr w w') cs := by
  have hbw : b < w.heap.size := Nat.lt_of_lt_of_le hb hB
  obtain ⟨W0, hW0⟩ : ∃ W0, W0 = w.alloc (.cells (acs 0 0 (.slice none 0 0) false { data := #[] }) 34) := ⟨_, rfl⟩
  have hz0 : W0.heap.size = w.heap.size + 1 := by rw [hW0]; simp
  have HW0 : Hid (Below w.heap.size w W0 ∧ ∃ z : Array Value, z.size = 18 ∧ W0.heap[w.heap.size]? = some (.cells z 34 (0, 0))) := ⟨by rw [hW0]; exact (Below.refl _ _).alloc (Nat.le_refl _) _, _, rfl, by rw [hW0]; exact heap_alloc_new w _⟩
  have HCL : Hid (∀ W, Below W0.heap.size W0 W → W.cell? ⟨b, 0, none⟩ = some (.int .i64 4) ∧ W.cell? ⟨b, 1, none⟩ = some (.int .i64 0) ∧ W.cell? ⟨b, 6, none⟩ = some (.slice none 0 0) ∧ W.cell? ⟨b, 7, none⟩ = some (.bool false) ∧ W.cell? ⟨b, 8, none⟩ = some (.string ByteArray.empty)) := fun W hW => by
    have hk : W.heap[b]? = some (.cells (shc 4 0 v s (.slice none 0 0) (.slice none 0 0) (.slice none 0 0) false ByteArray.empty x y) 102 (0, 0)) := by rw [hW.block b (by omega), HW0.out.1.block b hbw]; exact hh
    refine ⟨?_, ?_, ?_, ?_, ?_⟩ <;> (rw [cell_of_row _ _ _ _ _ _ hk]; rfl)
  have HCl : Hid (∀ W, Below W0.heap.size W0 W → Calls Tryz.prog 58 #[.slice none 0 0] W fun e w' => ∃ a cap, e = .returned (.slice a 0 cap) ∧ Below W.heap.size W w' ∧ BoolsAt w' (Fr W w') a []) := fun W hW => by
    have hbW : Below w.heap.size w W := HW0.out.1.trans (hW.mono (by omega))
    exact boolClone_any [] none 0 (Lo B) W (Sub.lo (by have := hbW.size; omega)) (fun j s hj => by simp at hj) (by simp)
  have HSc : Hid (∀ W, Calls Tryz.prog 59 #[.string ByteArray.empty] W fun e w' => e = .returned (.string ByteArray.empty) ∧ Below W.heap.size W w') := fun W => sClone_any ByteArray.empty W (by decide)
  go_enter Tryz.func29, Tryz.ntmps29
  go_wp2_with fail
  rw [← hW0]
  refine wp_cutG (fun (g : Nat × Option Addr × Nat) => [(8, .pointer (some ⟨b, 0, none⟩)), (9, .pointer (some ⟨b, 0, none⟩)), (10, .pointer (some ⟨b, 0, none⟩)), (11, .int .i64 4), (12, .pointer (some ⟨b, 0, none⟩)), (13, .pointer (some ⟨b, 0, none⟩)), (14, .pointer (some ⟨b, 1, none⟩)), (15, .int .i64 0), (16, .pointer (some ⟨b, 0, none⟩)), (17, .pointer (some ⟨b, 0, none⟩)), (18, .pointer (some ⟨b, 6, none⟩)), (19, .slice none 0 0), (20, .slice g.2.1 0 g.2.2), (21, .pointer (some ⟨b, 0, none⟩)), (22, .pointer (some ⟨b, 0, none⟩)), (23, .pointer (some ⟨b, 7, none⟩)), (24, .bool false), (25, .pointer (some ⟨b, 0, none⟩)), (26, .pointer (some ⟨b, 0, none⟩)), (27, .pointer (some ⟨b, 8, none⟩)), (28, .string ByteArray.empty), (29, .string ByteArray.empty), (30, .agg (acs 4 0 (.slice g.2.1 0 g.2.2) false ByteArray.empty)), (3, .pointer (some ⟨g.1, 0, none⟩))]) (fun g W => AF 4 0 false ByteArray.empty [] w g.1 g.2.1 g.2.2 W) ?_ ?_
  · refine wp_region_held_drew (S := fun W => Below W0.heap.size W0 W) (by kernel_rfl) (Below.refl _ _).drew (fun hHeld => ?_)
    have hS : Below W0.heap.size W0 W0.drew := (Below.refl _ _).drew
    generalize W0.drew = WD at hS hHeld ⊢
    refine tkH (i := 0) (v := ?_) rfl (by kernel_rfl) (by rfl) ?_ (by assumption) ?_
    rotate_left
    · intro W hSw; obtain ⟨e0, e1, e6, e7, e8⟩ := HCL.out W hSw; go_simp; try (with_reducible rfl)
    simp only [Act.put, lsA, lsB, lsC]
    refine tkH (i := 1) (v := ?_) rfl (by kernel_rfl) (by rfl) ?_ (by assumption) ?_
    rotate_left
    · intro W hSw; obtain ⟨e0, e1, e6, e7, e8⟩ := HCL.out W hSw; go_simp; try (with_reducible rfl)
    simp only [Act.put, lsA, lsB, lsC]
    refine tkH (i := 2) (v := ?_) rfl (by kernel_rfl) (by rfl) ?_ (by assumption) ?_
    rotate_left
    · intro W hSw; obtain ⟨e0, e1, e6, e7, e8⟩ := HCL.out W hSw; go_simp; try (with_reducible rfl)
    simp only [Act.put, lsA, lsB, lsC]
    refine tkH (i := 3) (v := ?_) rfl (by kernel_rfl) (by rfl) ?_ (by assumption) ?_
    rotate_left
    · intro W hSw; obtain ⟨e0, e1, e6, e7, e8⟩ := HCL.out W hSw; go_simp; try (with_reducible rfl)
    simp only [Act.put, lsA, lsB, lsC]
    refine tkH (i := 4) (v := ?_) rfl (by kernel_rfl) (by rfl) ?_ (by assumption) ?_
    rotate_left
    · intro W hSw; obtain ⟨e0, e1, e6, e7, e8⟩ := HCL.out W hSw; go_simp; try (with_reducible rfl)
    simp only [Act.put, lsA, lsB, lsC]
    refine tkH (i := 5) (v := ?_) rfl (by kernel_rfl) (by rfl) ?_ (by assumption) ?_
    rotate_left
    · intro W hSw; obtain ⟨e0, e1, e6, e7, e8⟩ := HCL.out W hSw; go_simp; try (with_reducible rfl)
    simp only [Act.put, lsA, lsB, lsC]
    refine tkH (i := 6) (v := ?_) rfl (by kernel_rfl) (by rfl) ?_ (by assumption) ?_
    rotate_left
    · intro W hSw; obtain ⟨e0, e1, e6, e7, e8⟩ := HCL.out W hSw; go_simp; try (with_reducible rfl)
    simp only [Act.put, lsA, lsB, lsC]
    refine tkH (i := 7) (v := ?_) rfl (by kernel_rfl) (by rfl) ?_ (by assumption) ?_
    rotate_left
    · intro W hSw; obtain ⟨e0, e1, e6, e7, e8⟩ := HCL.out W hSw; go_simp; try (with_reducible rfl)
    simp only [Act.put, lsA, lsB, lsC]
    refine tkH (i := 8) (v := ?_) rfl (by kernel_rfl) (by rfl) ?_ (by assumption) ?_
    rotate_left
    · intro W hSw; obtain ⟨e0, e1, e6, e7, e8⟩ := HCL.out W hSw; go_simp; try (with_reducible rfl)
    simp only [Act.put, lsA, lsB, lsC]
    refine tkH (i := 9) (v := ?_) rfl (by kernel_rfl) (by rfl) ?_ (by assumption) ?_
    rotate_left
    · intro W hSw; obtain ⟨e0, e1, e6, e7, e8⟩ := HCL.out W hSw; go_simp; try (with_reducible rfl)
    simp only [Act.put, lsA, lsB, lsC]
    refine tkH (i := 10) (v := ?_) rfl (by kernel_rfl) (by rfl) ?_ (by assumption) ?_
    rotate_left
    · intro W hSw; obtain ⟨e0, e1, e6, e7, e8⟩ := HCL.out W hSw; go_simp; try (with_reducible rfl)
    simp only [Act.put, lsA, lsB, lsC]
    refine tkH (i := 11) (v := ?_) rfl (by kernel_rfl) (by rfl) ?_ (by assumption) ?_
    rotate_left
    · intro W hSw; obtain ⟨e0, e1, e6, e7, e8⟩ := HCL.out W hSw; go_simp; try (with_reducible rfl)
    simp only [Act.put, lsA, lsB, lsC]
    refine tkH (i := 13) (v := ?_) rfl (by kernel_rfl) (by rfl) ?_ (by assumption) ?_
    rotate_left
    · intro W hSw; obtain ⟨e0, e1, e6, e7, e8⟩ := HCL.out W hSw; go_simp; try (with_reducible rfl)
    simp only [Act.put, lsA, lsB, lsC]
    refine tkH (i := 14) (v := ?_) rfl (by kernel_rfl) (by rfl) ?_ (by assumption) ?_
    rotate_left
    · intro W hSw; obtain ⟨e0, e1, e6, e7, e8⟩ := HCL.out W hSw; go_simp; try (with_reducible rfl)
    simp only [Act.put, lsA, lsB, lsC]
    refine tkH (i := 15) (v := ?_) rfl (by kernel_rfl) (by rfl) ?_ (by assumption) ?_
    rotate_left
    · intro W hSw; obtain ⟨e0, e1, e6, e7, e8⟩ := HCL.out W hSw; go_simp; try (with_reducible rfl)
    simp only [Act.put, lsA, lsB, lsC]
    refine tkH (i := 16) (v := ?_) rfl (by kernel_rfl) (by rfl) ?_ (by assumption) ?_
    rotate_left
    · intro W hSw; obtain ⟨e0, e1, e6, e7, e8⟩ := HCL.out W hSw; go_simp; try (with_reducible rfl)
    simp only [Act.put, lsA, lsB, lsC]
    refine tkH (i := 17) (v := ?_) rfl (by kernel_rfl) (by rfl) ?_ (by assumption) ?_
    rotate_left
    · intro W hSw; obtain ⟨e0, e1, e6, e7, e8⟩ := HCL.out W hSw; go_simp; try (with_reducible rfl)
    simp only [Act.put, lsA, lsB, lsC]
    refine tkH (i := 18) (v := ?_) rfl (by kernel_rfl) (by rfl) ?_ (by assumption) ?_
    rotate_left
    · intro W hSw; obtain ⟨e0, e1, e6, e7, e8⟩ := HCL.out W hSw; go_simp; try (with_reducible rfl)
    simp only [Act.put, lsA, lsB, lsC]
    refine tkH (i := 19) (v := ?_) rfl (by kernel_rfl) (by rfl) ?_ (by assumption) ?_
    rotate_left
    · intro W hSw; obtain ⟨e0, e1, e6, e7, e8⟩ := HCL.out W hSw; go_simp; try (with_reducible rfl)
    simp only [Act.put, lsA, lsB, lsC]
    refine tkH (i := 20) (v := ?_) rfl (by kernel_rfl) (by rfl) ?_ (by assumption) ?_
    rotate_left
    · intro W hSw; obtain ⟨e0, e1, e6, e7, e8⟩ := HCL.out W hSw; go_simp; try (with_reducible rfl)
    simp only [Act.put, lsA, lsB, lsC]
    refine wpAnyH_ready (rs := [12, 23]) (by kernel_rfl) (by simp) (arC rfl (fun K hK => ?_) (arC rfl (fun K hK => ?_) AllReadyH.nil))
    · go_simp
      refine (HCl.out _ (by assumption)).mono ?_
      rintro e w1 ⟨a', cap', rfl, hbw1, hbo⟩
      have hSw1 : Below W0.heap.size W0 w1 := hS.trans (hbw1.mono hS.size)
      go_wp2_with fail
      refine hK.out _ _ hSw1 (fun _ => ?_)
      clear hK K
      try simp only [Act.put, lsA, lsB, lsC]
      refine wpAnyH_ready (rs := [21, 23]) (by kernel_rfl) (by simp) (arC rfl (fun K hK => ?_) (arC rfl (fun K hK => ?_) AllReadyH.nil))
      · have hSp := hSw1
        go_simp
        refine (HSc.out _).mono ?_
        rintro e w2 ⟨rfl, hbw2⟩
        have hSw2 : Below W0.heap.size W0 w2 := hSp.trans (hbw2.mono hSp.size)
        go_wp2_with fail
        refine hK.out _ _ hSw2 (fun _ => ?_)
        clear hK K
        try simp only [Act.put, lsA, lsB, lsC]
        refine tkH (i := 22) (v := ?_) rfl (by kernel_rfl) (by rfl) ?_ (by assumption) ?_
        rotate_left
        · intro W hSw; obtain ⟨e0, e1, e6, e7, e8⟩ := HCL.out W hSw; go_simp; try (with_reducible rfl)
        simp only [Act.put, lsA, lsB, lsC]
        refine wpAnyH_ready (rs := [23]) (by kernel_rfl) (by simp) (arC rfl (fun K hK => ?_) AllReadyH.nil)
        rw [if_pos (by rfl)]
        refine wp_alloc_type rfl (fun za hz => ?_)
        have hA := heap_alloc_new (w2) (.cells za 34)
        have hSa := (hSw2).alloc (hSw2).size (.cells za 34)
        refine hK.out _ _ hSa (fun _ => ?_)
        clear hK K
        try simp only [Act.put, lsA, lsB, lsC]
        have hge : W0.heap.size ≤ w2.heap.size := hSw2.size
        refine wpAnyH_ready (rs := [24]) (by kernel_rfl) (by simp) (arC rfl (fun K hK => ?_) AllReadyH.nil)
        rw [if_pos (by rfl)]
        refine wp_store_row 34 _ _ rfl (w2.heap.size) (acs 4 0 (.slice a' 0 cap') false ByteArray.empty) rfl rfl 34 za hA ysz hz (acs_one 4 0 a' 0 cap' false ByteArray.empty) ?_
        refine hK.out _ _ (below_setRow hSa hge _) (fun _ => ?_)
        clear hK K
        try simp only [Act.put]
        refine wpAnyH_done (by kernel_rfl) ?_ _
        refine ⟨rfl, (w2.heap.size, a', cap'), ?_, af_fin hz0 HW0.out hSa hA hge (hbo.same (fun q hq => ((hbw2.alloc hbw2.size _).block q hq.2)) (fun q hq => ⟨by have := hq.1; have := hS.size; omega, by have := hq.2; have := hbw2.size; simp; omega, by have := hq.2; have := hbw2.size; omega⟩))⟩
        simp only [List.foldl, lsA, lsB, lsC]
      · rw [if_pos (by rfl)]
        refine wp_alloc_type rfl (fun za hz => ?_)
        have hA := heap_alloc_new (w1) (.cells za 34)
        have hSa := (hSw1).alloc (hSw1).size (.cells za 34)
        refine hK.out _ _ hSa (fun _ => ?_)
        clear hK K
        try simp only [Act.put, lsA, lsB, lsC]
        have hSp := hSa
        refine wpAnyH_ready (rs := [21]) (by kernel_rfl) (by simp) (arC rfl (fun K hK => ?_) AllReadyH.nil)
        go_simp
        refine (HSc.out _).mono ?_
        rintro e w2 ⟨rfl, hbw2⟩
        have hSw2 : Below W0.heap.size W0 w2 := hSp.trans (hbw2.mono hSp.size)
        go_wp2_with fail
        refine hK.out _ _ hSw2 (fun _ => ?_)
        clear hK K
        try simp only [Act.put, lsA, lsB, lsC]
        refine tkH (i := 22) (v := ?_) rfl (by kernel_rfl) (by rfl) ?_ (by assumption) ?_
        rotate_left
        · intro W hSw; obtain ⟨e0, e1, e6, e7, e8⟩ := HCL.out W hSw; go_simp; try (with_reducible rfl)
        simp only [Act.put, lsA, lsB, lsC]
        have hge : W0.heap.size ≤ w1.heap.size := hSw1.size
        have hA2 := (hbw2.block w1.heap.size (by simp)).trans hA
        refine wpAnyH_ready (rs := [24]) (by kernel_rfl) (by simp) (arC rfl (fun K hK => ?_) AllReadyH.nil)
        rw [if_pos (by rfl)]
        refine wp_store_row 34 _ _ rfl (w1.heap.size) (acs 4 0 (.slice a' 0 cap') false ByteArray.empty) rfl rfl 34 za hA2 ysz hz (acs_one 4 0 a' 0 cap' false ByteArray.empty) ?_
        refine hK.out _ _ (below_setRow hSw2 hge _) (fun _ => ?_)
        clear hK K
        try simp only [Act.put]
        refine wpAnyH_done (by kernel_rfl) ?_ _
        refine ⟨rfl, (w1.heap.size, a', cap'), ?_, af_fin hz0 HW0.out hSw2 hA2 hge (hbo.same (fun q hq => (hbw2.block q (by have := hq.2; simp; omega)).trans (old_alloc _ hq.2)) (fun q hq => ⟨by have := hq.1; have := hS.size; omega, by have := hq.2; have := hbw2.size; simp at this; omega, by have := hq.2; omega⟩))⟩
        simp only [List.foldl, lsA, lsB, lsC]
    · have hWD := hS.size
      rw [if_pos (by rfl)]
      refine wp_alloc_type rfl (fun za hz => ?_)
      have hA := heap_alloc_new (WD) (.cells za 34)
      have hSa := (hS).alloc (hS).size (.cells za 34)
      refine hK.out _ _ hSa (fun _ => ?_)
      clear hK K
      try simp only [Act.put, lsA, lsB, lsC]
      have hS0 := hS
      have hS := hSa
      refine wpAnyH_ready (rs := [12]) (by kernel_rfl) (by simp) (arC rfl (fun K hK => ?_) AllReadyH.nil)
      go_simp
      refine (HCl.out _ (by assumption)).mono ?_
      rintro e w1 ⟨a', cap', rfl, hbw1, hbo⟩
      have hSw1 : Below W0.heap.size W0 w1 := hS.trans (hbw1.mono hS.size)
      go_wp2_with fail
      refine hK.out _ _ hSw1 (fun _ => ?_)
      clear hK K
      try simp only [Act.put, lsA, lsB, lsC]
      have hSp := hSw1
      refine wpAnyH_ready (rs := [21]) (by kernel_rfl) (by simp) (arC rfl (fun K hK => ?_) AllReadyH.nil)
      go_simp
      refine (HSc.out _).mono ?_
      rintro e w2 ⟨rfl, hbw2⟩
      have hSw2 : Below W0.heap.size W0 w2 := hSp.trans (hbw2.mono hSp.size)
      go_wp2_with fail
      refine hK.out _ _ hSw2 (fun _ => ?_)
      clear hK K
      try simp only [Act.put, lsA, lsB, lsC]
      refine tkH (i := 22) (v := ?_) rfl (by kernel_rfl) (by rfl) ?_ (by assumption) ?_
      rotate_left
      · intro W hSw; obtain ⟨e0, e1, e6, e7, e8⟩ := HCL.out W hSw; go_simp; try (with_reducible rfl)
      simp only [Act.put, lsA, lsB, lsC]
      have hge : W0.heap.size ≤ WD.heap.size := hWD
      have hA2 := (hbw2.block WD.heap.size (by have := hbw1.size; simp at this; omega)).trans ((hbw1.block WD.heap.size (by simp)).trans hA)
      refine wpAnyH_ready (rs := [24]) (by kernel_rfl) (by simp) (arC rfl (fun K hK => ?_) AllReadyH.nil)
      rw [if_pos (by rfl)]
      refine wp_store_row 34 _ _ rfl (WD.heap.size) (acs 4 0 (.slice a' 0 cap') false ByteArray.empty) rfl rfl 34 za hA2 ysz hz (acs_one 4 0 a' 0 cap' false ByteArray.empty) ?_
      refine hK.out _ _ (below_setRow hSw2 hge _) (fun _ => ?_)
      clear hK K
      try simp only [Act.put]
      refine wpAnyH_done (by kernel_rfl) ?_ _
      refine ⟨rfl, (WD.heap.size, a', cap'), ?_, af_fin hz0 HW0.out hSw2 hA2 hge (hbo.same (fun q hq => hbw2.block q hq.2) (fun q hq => ⟨by have := hq.1; simp at this; omega, by have := hq.2; have := hbw2.size; omega, by have := hq.1; simp at this; omega⟩))⟩
      simp only [List.foldl, lsA, lsB, lsC]
  · rintro ⟨TB, a', cap'⟩ W hF
    have hbW : Below w.heap.size w W := hF.1
    have hTBW : w.heap.size + 1 ≤ TB := hF.2.2.2.1.1
    have hzW := hbW.size
    have HSH : Hid (∀ V, Below w.heap.size w V → V.cell? ⟨b, 0, none⟩ = some (.int .i64 4) ∧ V.cell? ⟨b, 2, none⟩ = some v ∧ V.cell? ⟨b, 4, none⟩ = some (.slice none 0 0) ∧ V.cell? ⟨b, 5, none⟩ = some (.slice none 0 0)) := fun V hV => by
      have hq : V.heap[b]? = some (.cells (shc 4 0 v s (.slice none 0 0) (.slice none 0 0) (.slice none 0 0) false ByteArray.empty x y) 102 (0, 0)) := by rw [hV.block b hbw]; exact hh
      refine ⟨?_, ?_, ?_, ?_⟩ <;> (rw [cell_of_row _ _ _ _ _ _ hq]; rfl)
    have HPl : Hid (Calls Tryz.prog 60 #[v] W fun e w' => ∃ cs, e = .returned (.tuple #[.agg cs, .int .i64 0]) ∧ Below W.heap.size W w' ∧ t.clean.In w' (Fr W w') cs) :=
      Plain_ok t v W (t.V_same (fun q hq => hbW.block q (Nat.lt_of_lt_of_le hq hB)) (fun q hq => by have := Nat.lt_of_lt_of_le hq hB; simp only [Lo]; omega) v hv) hg hbd
    have HF : Hid _ := hF
    have hTB2 := hF.2.2.2.1.2
    obtain ⟨s0, s2, -, -⟩ := HSH.out W hbW
    have hsh := t.V_shape v hv
    clear hF hh HCl HSc HCL HW0 hW0 hz0 W0 hv hg hbd
    simp only [List.foldl, Act.put, lsA, lsB, lsC]
    go_wp2_with fail
    refine HPl.out.mono ?_
    rintro e w1 ⟨ct, rfl, hb1, hin⟩
    obtain ⟨b1, i1, f1, tx1, ab1, nb1, cb1, rf1, al1, nl1, cl1, af1, nf1, cf1, c1, vr1, rfl⟩ := Tm.In_boxT hin
    have hz1 := hb1.size
    have hbx : w1.heap[TB]? = some (.cells (acs 4 0 (.slice a' 0 cap') false ByteArray.empty) 34 (0, 0)) := by rw [hb1.block TB hTB2]; exact HF.out.2.2.1
    have hbw1 : Below w.heap.size w w1 := hbW.trans (hb1.mono hzW)
    obtain ⟨z, hzs, hzr⟩ := HF.out.2.1
    have hzr1 : w1.heap[w.heap.size]? = some (.cells z 34 (0, 0)) := by rw [hb1.block _ (by omega)]; exact hzr
    have H1 : Hid (Below w.heap.size w w1 ∧ t.clean.In w1 (Fr W w1) (tcells t.clean.kind b1 i1 f1 tx1 (.slice ab1 nb1 cb1) rf1 (.slice al1 nl1 cl1) (.slice af1 nf1 cf1) c1 vr1) ∧ BoolsAt w1 (fun q => w.heap.size + 1 ≤ q ∧ q < W.heap.size ∧ q ≠ TB) a' []) := ⟨hbw1, hin, fun j s hj => by simp at hj⟩
    have HST := only_st t.clean.kind b1 i1 f1 tx1 ab1 nb1 cb1 rf1 al1 nl1 cl1 af1 nf1 cf1 c1 vr1 hbx
    have hTW : TB < w1.heap.size := by omega
    obtain ⟨w2, hw2⟩ : ∃ w2, w2 = w1.setRow TB (acs4 t.clean.kind b1 i1 f1 tx1 (.slice ab1 nb1 cb1) rf1 (.slice al1 nl1 cl1) (.slice af1 nf1 cf1) c1 vr1 (.slice a' 0 cap')) := ⟨_, rfl⟩
    rw [← hw2] at HST
    have HST2 : Hid _ := HST
    have hbx2 : w2.heap[TB]? = some (.cells (acs4 t.clean.kind b1 i1 f1 tx1 (.slice ab1 nb1 cb1) rf1 (.slice al1 nl1 cl1) (.slice af1 nf1 cf1) c1 vr1 (.slice a' 0 cap')) 34 (0, 0)) := by rw [hw2]; exact setRow_heap _ _ _ _ _ _ hbx
    have hbw2 : Below w.heap.size w w2 := by rw [hw2]; exact below_setRow hbw1 (by omega) _
    have hz2 : w2.heap.size = w1.heap.size := by rw [hw2]; simp [World.setRow]
    have hzr2 : w2.heap[w.heap.size]? = some (.cells z 34 (0, 0)) := by rw [hw2, setRow_other _ _ _ _ (by omega)]; exact hzr1
    have hin2 : (Ty.mk 4 0 t.clean .nil [] [] false ByteArray.empty).In w2 (fun q => w.heap.size + 1 ≤ q ∧ q < w2.heap.size ∧ q ≠ TB) (acs4 t.clean.kind b1 i1 f1 tx1 (.slice ab1 nb1 cb1) rf1 (.slice al1 nl1 cl1) (.slice af1 nf1 cf1) c1 vr1 (.slice a' 0 cap')) := by
      have h9 : t.clean.In w2 (fun q => w.heap.size + 1 ≤ q ∧ q < w2.heap.size ∧ q ≠ TB) (tcells t.clean.kind b1 i1 f1 tx1 (.slice ab1 nb1 cb1) rf1 (.slice al1 nl1 cl1) (.slice af1 nf1 cf1) c1 vr1) := t.clean.In_same (B := Fr W w1) (fun q hq => by rw [hw2]; exact setRow_other _ _ _ _ (by have := hq.1; omega)) (fun q hq => ⟨by have := hq.1; omega, by have := hq.2; omega, by have := hq.1; omega⟩) _ hin
      simp only [Ty.In]
      refine ⟨_, _, _, _, _, _, _, _, _, _, _, _, _, _, _, _, _, none, 0, none, 0, a', cap', rfl, h9, by omega, by omega, ⟨by simp [TyL.len], by simp, by simp, by decide⟩, by simp [TyL.In], fun j s hj => by simp at hj, fun j s hj => by simp at hj⟩
    obtain ⟨-, -, s4, s5⟩ := HSH.out w2 hbw2
    have HLd : Hid ((loadVar 34 ⟨TB, 0, none⟩).run Tryz.prog w2 = .ok (.agg (acs4 t.clean.kind b1 i1 f1 tx1 (.slice ab1 nb1 cb1) rf1 (.slice al1 nl1 cl1) (.slice af1 nf1 cf1) c1 vr1 (.slice a' 0 cap'))) w2) := yld rfl hbx2
    have HSt : Hid ((storeVar 34 ⟨w.heap.size, 0, none⟩ (.agg (acs4 t.clean.kind b1 i1 f1 tx1 (.slice ab1 nb1 cb1) rf1 (.slice al1 nl1 cl1) (.slice af1 nf1 cf1) c1 vr1 (.slice a' 0 cap')))).run Tryz.prog w2 = .ok () (w2.setRow w.heap.size (acs4 t.clean.kind b1 i1 f1 tx1 (.slice ab1 nb1 cb1) rf1 (.slice al1 nl1 cl1) (.slice af1 nf1 cf1) c1 vr1 (.slice a' 0 cap')))) := run_storeVar_row w2 w.heap.size 34 34 z _ hzr2 ysz hzs (acs4_one _ _ _ _ _ _ _ _ _ _ _ _ _ _ _ _ _ _ _ _)
    have hr := setRow_heap w2 w.heap.size z (acs4 t.clean.kind b1 i1 f1 tx1 (.slice ab1 nb1 cb1) rf1 (.slice al1 nl1 cl1) (.slice af1 nf1 cf1) c1 vr1 (.slice a' 0 cap')) _ _ hzr2
    obtain ⟨W9, hW9⟩ : ∃ W9, W9 = w2.setRow w.heap.size (acs4 t.clean.kind b1 i1 f1 tx1 (.slice ab1 nb1 cb1) rf1 (.slice al1 nl1 cl1) (.slice af1 nf1 cf1) c1 vr1 (.slice a' 0 cap')) := ⟨_, rfl⟩
    rw [← hW9] at HSt hr
    have H9 : Hid (Below w.heap.size w W9 ∧ (Ty.mk 4 0 t.clean .nil [] [] false ByteArray.empty).In W9 (Fr w W9) (acs4 t.clean.kind b1 i1 f1 tx1 (.slice ab1 nb1 cb1) rf1 (.slice al1 nl1 cl1) (.slice af1 nf1 cf1) c1 vr1 (.slice a' 0 cap'))) := by
      rw [hW9]
      exact ⟨below_setRow hbw2 (Nat.le_refl _) _, Ty.In_same (fun q hq => setRow_other _ _ _ _ (by have := hq.1; omega)) (fun q hq => ⟨by have := hq.1; omega, by have := hq.2.1; simp [World.setRow]; omega⟩) _ _ hin2⟩
    have HR9 : Hid (W9.heap[w.heap.size]? = some (.cells (acs4 t.clean.kind b1 i1 f1 tx1 (.slice ab1 nb1 cb1) rf1 (.slice al1 nl1 cl1) (.slice af1 nf1 cf1) c1 vr1 (.slice a' 0 cap')) 34 (0, 0))) := hr
    obtain ⟨kk, hkk⟩ : ∃ kk, kk = t.clean.kind := ⟨_, rfl⟩
    have HKK : Hid (kk = t.clean.kind) := hkk
    rw [← hkk] at HST2 HLd HSt HR9 ⊢
    clear hb1 hin hbx hbw1 hzr hzr1 hzs hkk HPl HST hbx2 hbw2 hz2 hzr2 hin2 hr hW9 hw2 HF H1 hTB2
    go_wp2_with (first | ((with_reducible refine st_row ?_ ?_ ?_ HST2.out ?_); rfl; rfl; rfl))
    go_loopw [50] (fun i V => i = .int .i64 0 ∧ V = w2) (fun _ _ => 0)
    case atStart => exact ⟨rfl, rfl⟩
    case round =>
      obtain ⟨rfl, rfl⟩ := hrel
      go_wp2_with fail
      go_loopw [67] (fun i V => i = .int .i64 0 ∧ V = wr) (fun _ _ => 0)
      case atStart => exact ⟨rfl, rfl⟩
      case round =>
        obtain ⟨rfl, rfl⟩ := hrel
        go_wp2_with (first | ((with_reducible refine ld_row ?_ ?_ HLd.out ?_); rfl; rfl) | ((with_reducible refine st_row ?_ ?_ ?_ HSt.out ?_); rfl; rfl; rfl))
        refine bodyPost_ret (results_cell_row Tryz.results29 _ W9 _ _ _ _ _ rfl HR9.out Tryz.underlying34 rfl ysz) rfl ?_
        exact ⟨_, rfl, H9.out.1, by rw [HKK.out]; exact H9.out.2⟩
end Go.Proofs.YtjdjpbdfchhcfaaGreat

