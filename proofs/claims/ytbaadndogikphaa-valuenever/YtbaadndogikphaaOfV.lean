/- value.Of at any term. -/
import Derived.Test.YtbaadndogikphaaTWalkG
import Derived.Test.YtbaadndogikphaaOrdV
namespace Go.Proofs.Ytbaadndogikphaa
open Go.RowKit

set_option maxRecDepth 100000 in
set_option maxHeartbeats 1000000 in
theorem Of_err (t : Tm) (cs : Array Value) (B : Nat → Prop) (w : World) (h : t.In w B cs) (hB : Sub B w) (he : t.all.e ≠ 0) :
    Calls Try.prog 16 #[.agg cs] w fun e w' => e = .returned (.tuple #[.nilIface, .int .i64 t.all.e]) ∧ Below w.heap.size w w' := by
  have HT : Hid (∀ W, Below w.heap.size w W → Wk W (w.heap.size + 1) 0 0 → Calls Try.prog 35 #[.pointer (some ⟨w.heap.size + 1, 0, none⟩), .agg cs, .int .i64 1] W fun e w' => e = .returned (.int .i64 t.all.e) ∧ Below (w.heap.size + 1) W w') := fun W hW hk =>
    (term_any t.sz t (Nat.le_refl _) (w.heap.size + 1) cs 0 0 1 W hk (t.In_same (hB.same hW) (fun k hk => Nat.lt_of_lt_of_le (hB k hk) (Nat.le_succ _)) cs h) (by decide) (by decide) (by decide) (by decide)).mono fun e w' h => ⟨h.1, h.2.2⟩
  obtain ⟨k1, b1, i1, f1, tx1, ab1, nb1, cb1, rf1, al1, nl1, cl1, af1, nf1, cf1, cc1, vr1, rfl⟩ := Tm.In_tc' h
  have he' := ne_bool he
  have HK : Hid (∀ o, Wk ((w.alloc o).alloc (.cells #[.int .i64 0, .int .i64 0] 71)) (w.heap.size + 1) 0 0) := fun o => by
    have := Wk_new (w.alloc o); simpa using this
  clear h he
  unfold tcells at HT ⊢
  go_enter Try.func16, Try.ntmps16
  go_wp2_with (go_at_call 35; refine (HT.out _ (((Below.refl _ _).alloc (Nat.le_refl _) _).alloc (by simp) _) (HK.out _)).mono ?_; rintro e w1 ⟨rfl, hb1⟩)
  go_ret2
  exact ⟨rfl, (((Below.refl _ _).alloc (Nat.le_refl _) _).alloc (by simp) _).trans (hb1.mono (by omega))⟩

set_option maxRecDepth 100000 in
set_option maxHeartbeats 1000000 in
theorem Of_ok (t : Tm) (cs : Array Value) (B : Nat → Prop) (w : World) (h : t.In w B cs) (hB : Sub B w) (he : t.all.e = 0) :
    Calls Try.prog 16 #[.agg cs] w fun e w' => ∃ v, e = .returned (.tuple #[v, .int .i64 0]) ∧ Below w.heap.size w w' ∧ t.V w' (Fr w w') v := by
  have HT : Hid (∀ W, Below w.heap.size w W → Wk W (w.heap.size + 1) 0 0 → Calls Try.prog 35 #[.pointer (some ⟨w.heap.size + 1, 0, none⟩), .agg cs, .int .i64 1] W fun e w' => e = .returned (.int .i64 t.all.e) ∧ Below (w.heap.size + 1) W w') := fun W hW hk =>
    (term_any t.sz t (Nat.le_refl _) (w.heap.size + 1) cs 0 0 1 W hk (t.In_same (hB.same hW) (fun k hk => Nat.lt_of_lt_of_le (hB k hk) (Nat.le_succ _)) cs h) (by decide) (by decide) (by decide) (by decide)).mono fun e w' h => ⟨h.1, h.2.2⟩
  have HV : Hid (∀ W, Below w.heap.size w W → Calls Try.prog 36 #[.agg cs] W fun e w' => ∃ v, e = .returned v ∧ Below W.heap.size W w' ∧ t.V w' (Fr W w') v) := fun W hW =>
    valueOf_any t.sz t (Nat.le_refl _) cs B W (t.In_same (hB.same hW) (fun _ h => h) cs h) (hB.later hW) (Tm.ok_all he)
  obtain ⟨k1, b1, i1, f1, tx1, ab1, nb1, cb1, rf1, al1, nl1, cl1, af1, nf1, cf1, cc1, vr1, rfl⟩ := Tm.In_tc' h
  have HK : Hid (∀ o, Wk ((w.alloc o).alloc (.cells #[.int .i64 0, .int .i64 0] 71)) (w.heap.size + 1) 0 0) := fun o => by
    have := Wk_new (w.alloc o); simpa using this
  rw [he] at HT
  have HX : Hid (∀ o p w1, Below (w.heap.size + 1) ((w.alloc o).alloc p) w1 → w1.heap[w.heap.size]? = some o ∧ Below w.heap.size w w1) := fun o p w1 h => by
    have hh : ((w.alloc o).alloc p).heap[w.heap.size]? = some o := by
      rw [((Below.refl (w.alloc o).heap.size _).alloc (Nat.le_refl _) p).block w.heap.size (by simp)]; exact heap_alloc_new w o
    exact ⟨by rw [h.block w.heap.size (by omega)]; exact hh, (((Below.refl _ _).alloc (Nat.le_refl _) _).alloc (by simp) _).trans (h.mono (by omega))⟩
  clear h he
  unfold tcells at HT HV ⊢
  go_enter Try.func16, Try.ntmps16
  go_wp2_with (first
    | (go_at_call 35; refine (HT.out _ (((Below.refl _ _).alloc (Nat.le_refl _) _).alloc (by simp) _) (HK.out _)).mono ?_; rintro e w1 ⟨rfl, hb1⟩; obtain ⟨hx1, hb1'⟩ := HX.out _ _ _ hb1; have HB1 : Hid _ := hb1'; obtain ⟨t0, t1, t2, t3, t4, t5, t6, t7, t8, t9, t10⟩ := tbox hx1; clear hb1 hx1 hb1')
    | (go_at_call 36; refine (HV.out _ HB1.out).mono ?_; rintro e w2 ⟨v, rfl, hb2, hv⟩; have HB2 : Hid _ := hb2; have HV2 : Hid _ := hv; clear hb2 hv))
  go_ret2
  exact ⟨v, rfl, below_to HB1.out HB2.out, t.V_same (Same.refl _ _) (fun k hk => ⟨Nat.le_trans HB1.out.size hk.1, hk.2⟩) v HV2.out⟩
end Go.Proofs.Ytbaadndogikphaa
