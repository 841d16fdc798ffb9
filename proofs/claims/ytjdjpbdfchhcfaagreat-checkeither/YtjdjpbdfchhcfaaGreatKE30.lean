/- check.ready; check.Is, once has is known of every type. -/
import Derived.Test.YtjdjpbdfchhcfaaGreatKE25
import Derived.Test.YtjdjpbdfchhcfaaGreatKE29
namespace Go.Proofs.YtjdjpbdfchhcfaaGreat
open Go.RowKit

section
variable (v : Tm) (x : Value) (t : Ty) (cs : Array Value) (B : Nat) (w : World) (hB : B ≤ w.heap.size) (hv : v.V w (Lo B) x) (ht : t.In w (Lo B) cs)
set_option maxRecDepth 100000 in
set_option maxHeartbeats 2000000 in
theorem ready_err (hB : B ≤ w.heap.size) (hv : v.V w (Lo B) x) (he : v.all.e ≠ 0) :
    Calls Tryz.prog 38 #[x, .agg cs] w fun e w' => e = .returned (.tuple #[.nilIface, .pointer none, .int .i64 v.all.e]) ∧ Below w.heap.size w w' := by
  have he' := ne_bool he
  have HBW : Hid (∀ o, Below w.heap.size w (w.alloc o)) := fun o => (Below.refl _ _).alloc (Nat.le_refl _) _
  have HC : Hid (∀ W, Below w.heap.size w W → Calls Tryz.prog 35 #[x] W fun e w' => e = .returned (.tuple #[.nilIface, .int .i64 v.all.e]) ∧ Below W.heap.size W w') := fun W hW =>
    Copy_err v x B W (Nat.le_trans hB hW.size) (v.V_same (fun k hk => hW.block k (Nat.lt_of_lt_of_le hk hB)) (fun _ h => h) x hv) he
  clear hv hB he
  generalize v.all.e = q at *
  go_enter Tryz.func38, Tryz.ntmps38
  go_wp2_with fail
  refine (HC.out _ (HBW.out _)).mono ?_
  rintro e w1 ⟨rfl, hb1⟩
  have H1 : Hid (Below w.heap.size w w1) := (HBW.out _).trans (hb1.mono (by simp))
  clear hb1
  go_wp2_with fail
  go_ret3
  exact ⟨rfl, H1.out⟩

set_option maxRecDepth 100000 in
set_option maxHeartbeats 2000000 in
theorem ready_no (hB : B ≤ w.heap.size) (hv : v.V w (Lo B) x) (ht : t.In w (Lo B) cs) (he : v.all.e = 0) (hc : t.can = false) :
    Calls Tryz.prog 38 #[x, .agg cs] w fun e w' => e = .returned (.tuple #[.nilIface, .pointer none, .int .i64 70]) ∧ Below w.heap.size w w' := by
  obtain ⟨hsz, -⟩ := Ty.In_cells ht
  have hs : ∀ W, Below w.heap.size w W → Same (Lo B) w W := fun W hW k hk => hW.block k (Nat.lt_of_lt_of_le hk hB)
  have HBW : Hid (∀ o, Below w.heap.size w (w.alloc o)) := fun o => (Below.refl _ _).alloc (Nat.le_refl _) _
  have HC : Hid (∀ W, Below w.heap.size w W → Calls Tryz.prog 35 #[x] W fun e w' => ∃ v', e = .returned (.tuple #[v', .int .i64 0]) ∧ Below W.heap.size W w' ∧ v.V w' (Fr W w') v') := fun W hW =>
    Copy_ok v x B W (Nat.le_trans hB hW.size) (v.V_same (hs W hW) (fun _ h => h) x hv) he
  have HS : Hid (∀ W, Below w.heap.size w W → Calls Tryz.prog 46 #[.agg cs] W fun e w' => e = .returned (.tuple #[.pointer none, .int .i64 70]) ∧ Below W.heap.size W w') := fun W hW =>
    shapeOf_no t cs (Lo B) W (t.In_same (hs W hW) (fun _ h => h) cs ht) (fun k hk => Nat.lt_of_lt_of_le hk (Nat.le_trans hB hW.size)) hc
  have HL : Hid (∀ W, Below (w.alloc (.cells cs 34)).heap.size (w.alloc (.cells cs 34)) W → (loadVar 34 ⟨w.heap.size, 0, none⟩).run Tryz.prog W = .ok (.agg cs) W) := fun W hW => yld hsz (by rw [hW.block w.heap.size (by simp)]; exact heap_alloc_new w _)
  clear hv ht hB hs he hc
  go_enter Tryz.func38, Tryz.ntmps38
  go_wp2_with fail
  refine (HC.out _ (HBW.out _)).mono ?_
  rintro e w1 ⟨v', rfl, hb1, -⟩
  have H1 : Hid (Below w.heap.size w w1 ∧ w.heap.size ≤ w1.heap.size) := ⟨(HBW.out _).trans (hb1.mono (by simp)), by have := hb1.size; simp at this; omega⟩
  have HL1 : Hid ((loadVar 34 ⟨w.heap.size, 0, none⟩).run Tryz.prog w1 = .ok (.agg cs) w1) := HL.out w1 hb1
  clear hb1
  go_wp2_with ((with_reducible refine ld_row ?_ ?_ HL1.out ?_); rfl; rfl)
  refine (HS.out w1 H1.out.1).mono ?_
  rintro e w2 ⟨rfl, hb2⟩
  have H2 : Hid (Below w.heap.size w w2) := H1.out.1.trans (hb2.mono H1.out.2)
  clear hb2
  go_wp2_with fail
  go_ret3
  exact ⟨rfl, H2.out⟩

set_option maxRecDepth 100000 in
set_option maxHeartbeats 2000000 in
theorem ready_ok (hB : B ≤ w.heap.size) (hv : v.V w (Lo B) x) (ht : t.In w (Lo B) cs) (he : v.all.e = 0) (hc : t.can = true) :
    Calls Tryz.prog 38 #[x, .agg cs] w fun e w' => ∃ v' b, e = .returned (.tuple #[v', .pointer (some ⟨b, 0, none⟩), .int .i64 0]) ∧ Below w.heap.size w w' ∧ v.V w' (Lo w'.heap.size) v' ∧ t.Sh w' (Lo w'.heap.size) b := by
  obtain ⟨hsz, -⟩ := Ty.In_cells ht
  have hs : ∀ W, Below w.heap.size w W → Same (Lo B) w W := fun W hW k hk => hW.block k (Nat.lt_of_lt_of_le hk hB)
  have HBW : Hid (∀ o, Below w.heap.size w (w.alloc o)) := fun o => (Below.refl _ _).alloc (Nat.le_refl _) _
  have HC : Hid (∀ W, Below w.heap.size w W → Calls Tryz.prog 35 #[x] W fun e w' => ∃ v', e = .returned (.tuple #[v', .int .i64 0]) ∧ Below W.heap.size W w' ∧ v.V w' (Fr W w') v') := fun W hW =>
    Copy_ok v x B W (Nat.le_trans hB hW.size) (v.V_same (hs W hW) (fun _ h => h) x hv) he
  have HS : Hid (∀ W, Below w.heap.size w W → Calls Tryz.prog 46 #[.agg cs] W fun e w' => ∃ b, e = .returned (.tuple #[.pointer (some ⟨b, 0, none⟩), .int .i64 0]) ∧ Below W.heap.size W w' ∧ t.Sh w' (Lo w'.heap.size) b) := fun W hW =>
    shapeOf_ok t cs (Lo B) W (t.In_same (hs W hW) (fun _ h => h) cs ht) (fun k hk => Nat.lt_of_lt_of_le hk (Nat.le_trans hB hW.size)) hc
  have HL : Hid (∀ W, Below (w.alloc (.cells cs 34)).heap.size (w.alloc (.cells cs 34)) W → (loadVar 34 ⟨w.heap.size, 0, none⟩).run Tryz.prog W = .ok (.agg cs) W) := fun W hW => yld hsz (by rw [hW.block w.heap.size (by simp)]; exact heap_alloc_new w _)
  clear hv ht hB hs he hc
  go_enter Tryz.func38, Tryz.ntmps38
  go_wp2_with fail
  refine (HC.out _ (HBW.out _)).mono ?_
  rintro e w1 ⟨v', rfl, hb1, hv1⟩
  have H1 : Hid (Below w.heap.size w w1 ∧ w.heap.size ≤ w1.heap.size ∧ v.V w1 (Lo w1.heap.size) v') := ⟨(HBW.out _).trans (hb1.mono (by simp)), by have := hb1.size; simp at this; omega, v.V_same (Same.refl _ _) (fun k hk => hk.2) v' hv1⟩
  have HL1 : Hid ((loadVar 34 ⟨w.heap.size, 0, none⟩).run Tryz.prog w1 = .ok (.agg cs) w1) := HL.out w1 hb1
  clear hb1 hv1
  go_wp2_with ((with_reducible refine ld_row ?_ ?_ HL1.out ?_); rfl; rfl)
  refine (HS.out w1 H1.out.1).mono ?_
  rintro e w2 ⟨b, rfl, hb2, hsh⟩
  have H2 : Hid (Below w.heap.size w w2 ∧ v.V w2 (Lo w2.heap.size) v' ∧ t.Sh w2 (Lo w2.heap.size) b) := ⟨H1.out.1.trans (hb2.mono H1.out.2.1), v.V_same (fun k hk => hb2.block k hk) (fun k hk => Nat.lt_of_lt_of_le hk hb2.size) v' H1.out.2.2, hsh⟩
  clear hb2 hsh
  go_wp2_with fail
  go_ret3
  exact ⟨v', b, rfl, H2.out⟩

def Sp.isA (v : Tm) (t : Ty) : Bool × Int × Int := if v.all.e ≠ 0 then (false, 0, v.all.e) else if t.can = false then (false, 0, 70) else ((t.has v).1, (t.has v).2, 0)
set_option maxRecDepth 100000 in
set_option maxHeartbeats 2000000 in
theorem Is_of (HH : ∀ N, HasC N) (hB : B ≤ w.heap.size) (hv : v.V w (Lo B) x) (ht : t.In w (Lo B) cs) :
    Calls Tryz.prog 22 #[x, .agg cs] w fun e w' => e = .returned (.tuple #[.bool (Sp.isA v t).1, .int .i64 (Sp.isA v t).2.1, .int .i64 (Sp.isA v t).2.2]) ∧ Below w.heap.size w w' := by
  obtain ⟨hsz, -⟩ := Ty.In_cells ht
  have hs : ∀ W, Below w.heap.size w W → Same (Lo B) w W := fun W hW k hk => hW.block k (Nat.lt_of_lt_of_le hk hB)
  have HBW : Hid (Below w.heap.size w (w.alloc (.cells cs 34))) := (Below.refl _ _).alloc (Nat.le_refl _) _
  have HL : Hid ((loadVar 34 ⟨w.heap.size, 0, none⟩).run Tryz.prog (w.alloc (.cells cs 34)) = .ok (.agg cs) (w.alloc (.cells cs 34))) := yld hsz (heap_alloc_new w _)
  have hv0 := v.V_same (hs _ HBW.out) (fun _ h => h) x hv
  have ht0 := t.In_same (hs _ HBW.out) (fun _ h => h) cs ht
  have hB0 : B ≤ (w.alloc (.cells cs 34)).heap.size := Nat.le_trans hB HBW.out.size
  by_cases he : v.all.e ≠ 0
  · have HR : Hid (Calls Tryz.prog 38 #[x, .agg cs] (w.alloc (.cells cs 34)) fun e w' => e = .returned (.tuple #[.nilIface, .pointer none, .int .i64 v.all.e]) ∧ Below (w.alloc (.cells cs 34)).heap.size (w.alloc (.cells cs 34)) w') := ready_err v x cs B _ hB0 hv0 he
    have HX : Sp.isA v t = (false, 0, v.all.e) := by unfold Sp.isA; rw [if_pos he]
    rw [HX]
    have he' := ne_bool he
    clear hv ht hv0 ht0 hB hB0 hs HX he HH
    generalize v.all.e = q at *
    go_enter Tryz.func22, Tryz.ntmps22
    go_wp2_with ((with_reducible refine ld_row ?_ ?_ HL.out ?_); rfl; rfl)
    refine HR.out.mono ?_
    rintro e w1 ⟨rfl, hb1⟩
    have H1 : Hid (Below w.heap.size w w1) := HBW.out.trans (hb1.mono (by simp))
    clear hb1
    go_wp2_with fail
    go_ret3
    exact ⟨rfl, H1.out⟩
  · have he0 := Decidable.not_not.1 he
    cases hc : t.can with
    | false =>
      have HR : Hid (Calls Tryz.prog 38 #[x, .agg cs] (w.alloc (.cells cs 34)) fun e w' => e = .returned (.tuple #[.nilIface, .pointer none, .int .i64 70]) ∧ Below (w.alloc (.cells cs 34)).heap.size (w.alloc (.cells cs 34)) w') := ready_no v x t cs B _ hB0 hv0 ht0 he0 hc
      have HX : Sp.isA v t = (false, 0, 70) := by unfold Sp.isA; rw [if_neg he, if_pos hc]
      rw [HX]
      clear hv ht hv0 ht0 hB hB0 hs HX he he0 hc HH
      go_enter Tryz.func22, Tryz.ntmps22
      go_wp2_with ((with_reducible refine ld_row ?_ ?_ HL.out ?_); rfl; rfl)
      refine HR.out.mono ?_
      rintro e w1 ⟨rfl, hb1⟩
      have H1 : Hid (Below w.heap.size w w1) := HBW.out.trans (hb1.mono (by simp))
      clear hb1
      go_wp2_with fail
      go_ret3
      exact ⟨rfl, H1.out⟩
    | true =>
      have HR : Hid (Calls Tryz.prog 38 #[x, .agg cs] (w.alloc (.cells cs 34)) fun e w' => ∃ v' b, e = .returned (.tuple #[v', .pointer (some ⟨b, 0, none⟩), .int .i64 0]) ∧ Below (w.alloc (.cells cs 34)).heap.size (w.alloc (.cells cs 34)) w' ∧ v.V w' (Lo w'.heap.size) v' ∧ t.Sh w' (Lo w'.heap.size) b) := ready_ok v x t cs B _ hB0 hv0 ht0 he0 hc
      have HX : Sp.isA v t = ((t.has v).1, (t.has v).2, 0) := by unfold Sp.isA; rw [if_neg he, if_neg (by rw [hc]; decide)]
      rw [HX]
      have HHH : Hid (∀ v' b W, v.V W (Lo W.heap.size) v' → t.Sh W (Lo W.heap.size) b → Calls Tryz.prog 45 #[.pointer (some ⟨b, 0, none⟩), v'] W (HasE t v W)) := fun v' b W h1 h2 => HH t.sz t (Nat.le_refl _) (Ty.can_ok hc).1 v v' b W.heap.size W he0 h1 h2 (Nat.le_refl _)
      unfold HasE at HHH
      clear hv ht hv0 ht0 hB hB0 hs HX he he0 hc HH
      generalize t.has v = r at *
      go_enter Tryz.func22, Tryz.ntmps22
      go_wp2_with ((with_reducible refine ld_row ?_ ?_ HL.out ?_); rfl; rfl)
      refine HR.out.mono ?_
      rintro e w1 ⟨v', b, rfl, hb1, hv1, hsh⟩
      have H1 : Hid (Below w.heap.size w w1 ∧ w.heap.size ≤ w1.heap.size) := ⟨HBW.out.trans (hb1.mono (by simp)), by have := hb1.size; simp at this; omega⟩
      have HG : Hid (Calls Tryz.prog 45 #[.pointer (some ⟨b, 0, none⟩), v'] w1 fun e w' => e = .returned (.tuple #[.bool r.1, .int .i64 r.2]) ∧ Below w1.heap.size w1 w') := HHH.out v' b w1 hv1 hsh
      clear hb1 hv1 hsh
      go_wp2_with fail
      refine HG.out.mono ?_
      rintro e w2 ⟨rfl, hb2⟩
      have H2 : Hid (Below w.heap.size w w2) := H1.out.1.trans (hb2.mono H1.out.2)
      clear hb2
      go_wp2_with fail
      go_ret3
      exact ⟨rfl, H2.out⟩
end
end Go.Proofs.YtjdjpbdfchhcfaaGreat

