/- tenonlaw14.GraphWays returns true. -/
import Derived.Test.YtikhpbidbcfedaaGreatKw42
import Derived.Test.YtikhpbidbcfedaaGreatKw43
import Derived.Test.YtikhpbidbcfedaaGreatKw21
namespace Go.Proofs.YtikhpbidbcfedaaGreat
open Go.RowKit Go.ChangeMaps

set_option maxRecDepth 100000 in
set_option maxHeartbeats 16000000 in
theorem GraphWays_any (a : Option Addr) (cap : Nat) (nodes : List Int) (a2 : Option Addr) (cap2 : Nat) (E : List (Int × Int)) (x y : Int) (w : World)
    (h1 : RefsAt w w.heap.size a nodes) (h2 : EdgesAt w w.heap.size a2 E) (hx : 0 ≤ x ∧ x < 18446744073709551616) (hy : 0 ≤ y ∧ y < 18446744073709551616) (hl1 : nodes.length * 8 ≤ 140737488355328) (hl2 : E.length * 16 ≤ 140737488355328) :
    Calls Tryz.prog 3 #[.slice a nodes.length cap, .slice a2 E.length cap2, .int .u64 x, .int .u64 y] w fun e w' => e = .returned (.bool true) ∧ Below w.heap.size w w' := by
  have HV := lives_any w
  have HMK : Hid (∀ W : World, Below w.heap.size w W → Calls Tryz.prog 9 #[.slice a nodes.length cap, .slice a2 E.length cap2] W fun e w' => ∃ p, e = .returned (.tuple #[.pointer p, .int .i64 (Sp.mkE nodes E)]) ∧ MkE W nodes E p w') := fun W hW => Make_any a cap nodes a2 cap2 E w.heap.size W (h1.keep hW) (h2.keep hW.block) hW.size hl1 hl2
  have HBD : Hid (∀ x ∈ nodes, 0 ≤ x ∧ x < 18446744073709551616) := h1.bd
  have HED : Hid (∀ (W : World) (u v : Int), Below w.heap.size w W → Calls Tryz.prog 13 #[.slice a2 E.length cap2, .int .u64 u, .int .u64 v] W fun e w' => e = .returned (.bool (decide ((u, v) ∈ E))) ∧ Below W.heap.size W w') := fun W u v hW => edge_any a2 cap2 E u v W (h2.keep hW.block).egv hl2
  clear h1 h2 hl1 hl2
  go_enter Tryz.func3, Tryz.ntmps3
  go_wp2_with fail
  refine HV.mono ?_
  rintro e w1 ⟨rfl, hb1⟩
  have H1 : Hid (Below w.heap.size w w1) := hb1
  clear hb1 HV
  go_wp2_with fail
  refine (HMK.out w1 H1.out).mono ?_
  rintro e w2 ⟨p, rfl, hmE⟩
  have HM : Hid (MkE w1 nodes E p w2) := hmE
  have H2 : Hid (Below w.heap.size w w2) := belT H1.out hmE.1
  clear hmE HMK H1
  by_cases hk : Sp.mkE nodes E ≠ 0
  · obtain rfl := HM.out.2.2 hk
    go_wp2_with fail
    go_ret
    exact ⟨rfl, H2.out⟩
  have hk0 : Sp.mkE nodes E = 0 := Classical.byContradiction fun h => hk h
  clear hk
  obtain ⟨gb, rfl, hg⟩ := HM.out.2.1 hk0
  have hRN : nodes.length ≤ 4096 ∧ nodes.Nodup := by
    refine ⟨?_, ?_⟩
    · apply Classical.byContradiction; intro h
      unfold Sp.mkE at hk0; rw [if_pos (.inl (by omega))] at hk0; cases hk0
    · apply Classical.byContradiction; intro h
      unfold Sp.mkE at hk0
      split at hk0
      · cases hk0
      · rw [if_pos (.inr h)] at hk0; cases hk0
  rw [hk0]
  have hN0 : (Sp.srt nodes).length ≤ 4096 ∧ (Sp.srt nodes).Pairwise (· < ·) ∧ ∀ x ∈ Sp.srt nodes, 0 ≤ x ∧ x < 18446744073709551616 := ⟨by rw [srt_len]; exact hRN.1, srt_lt hRN.2, fun x hx => HBD.out x (srt_mem.1 hx)⟩
  obtain ⟨N, hN⟩ : ∃ N, Sp.srt nodes = N := ⟨_, rfl⟩
  obtain ⟨nx, hnx⟩ : ∃ nx, Sp.nx N E = nx := ⟨_, rfl⟩
  rw [hN] at hg hN0
  rw [hnx] at hg
  have hNX : (∀ i, ∀ x ∈ nx i, x < N.length) ∧ (∀ p, (nx p).length ≤ 4096) ∧ ∀ i, (nx i).Pairwise (· < ·) := by
    rw [← hnx]
    exact ⟨fun t j hj => (nx_mem.1 hj).1, fun t => Nat.le_trans (by unfold Sp.nx; exact List.length_filter_le _ _) (by simp; exact hN0.1), fun i => List.Pairwise.filter _ List.pairwise_lt_range⟩
  have HGE : Hid (∀ W : World, Below w2.heap.size w2 W → ∃ D, GrE W D gb N nx) := fun W hW => ⟨_, hg.keep (fun k hk => hW.block k hk.2)⟩
  have HRC : Hid (∀ (W : World) (g : Nat), Below w2.heap.size w2 W → RefsAt W W.heap.size (some ⟨g, 0, none⟩) [x] → Calls Tryz.prog 10 #[.pointer (some ⟨gb, 0, none⟩), .slice (some ⟨g, 0, none⟩) 1 1] W (ReE W (Sp.reach N nx [x]) 140)) := fun W g hW hr => by
    obtain ⟨D, h⟩ := HGE.out W hW
    exact pReach_any D gb N nx (some ⟨g, 0, none⟩) 1 [x] W h hr (by simp) hN0.1 hNX.1 hNX.2.1
  have HPA : Hid (∀ (W : World) (u : Int), Below w2.heap.size w2 W → 0 ≤ u ∧ u < 18446744073709551616 → Calls Tryz.prog 11 #[.pointer (some ⟨gb, 0, none⟩), .int .u64 u, .int .u64 y] W (ReE W (Sp.path N nx u y) (Sp.pathE N u y))) := fun W u hW hu => by
    obtain ⟨D, h⟩ := HGE.out W hW
    exact pPath_any D gb N nx u y W h hu hy hN0.1 hNX.1 hNX.2.1 hNX.2.2
  have HRN : Hid (∀ W : World, RefsAt (W.alloc (.cells #[.int .u64 x] 25)) (W.alloc (.cells #[.int .u64 x] 25)).heap.size (some ⟨W.heap.size, 0, none⟩) [x]) := fun W => by
    have hn := heap_alloc_new W (.cells #[.int .u64 x] 25 (0, 0))
    refine ⟨fun t u hu => ⟨W.heap.size, 0, rfl, by rw [al_size]; omega, ?_⟩, fun h => (by cases h), fun z hz => by simp at hz; subst hz; exact hx⟩
    rcases t with _ | t
    · simp only [World.cell?, hn]; simp [rv] at hu ⊢; exact hu
    · simp [rv] at hu
  have HZ : Hid (∀ W : World, Below w2.heap.size w2 W → Below w2.heap.size w2 (W.alloc (.cells #[.int .u64 x] 25))) := fun W hW => hW.alloc hW.size _
  obtain ⟨A, hA⟩ : ∃ A, Sp.eds N nx N.length 0 = A := ⟨_, rfl⟩
  have HEA : Hid (∀ W : World, Below w2.heap.size w2 W → Calls Tryz.prog 14 #[.pointer (some ⟨gb, 0, none⟩)] W fun e w' => ∃ ge ce, e = .returned (.slice (adr ge) A.length ce) ∧ NdE w' ge ce A ∧ Below W.heap.size W w') := fun W hW => by
    obtain ⟨D, h⟩ := HGE.out W hW
    refine (pEdges_any gb N nx W h.gr hNX.1 hN0.1 hNX.2.1).mono ?_
    rintro e w' ⟨ge, ce, h1, h2, _, h4⟩
    rw [hA] at h1 h2
    exact ⟨ge, ce, h1, h2, h4⟩
  have hAL : A.length ≤ 4096 * 4096 := by
    rw [← hA]
    refine Nat.le_trans (eds_len N nx (fun t _ => hNX.2.1 t) N.length 0 (Nat.le_refl _) (by omega)) ?_
    exact Nat.mul_le_mul_right _ hN0.1
  have HRE := ways_reach hN0.2.1 hNX.1 hNX.2.2 (x := x) (y := y)
  have HE1 : Hid (∀ u v, (u, v) ∈ A → (0 ≤ u ∧ u < 18446744073709551616) ∧ (0 ≤ v ∧ v < 18446744073709551616) ∧ ∀ W X, u = x → Sp.path N nx x y = some W → Sp.path N nx v y = some X → W.length ≤ X.length + 1) := fun u v h => by
    rw [← hA] at h
    obtain ⟨i, j, hi, hj, hij⟩ := eds_at hNX.1 h
    refine ⟨hN0.2.2 u (List.mem_of_getElem? hi), hN0.2.2 v (List.mem_of_getElem? hj), fun W X e hW hX => ?_⟩
    subst e
    obtain ⟨_, b, _, hb⟩ := (HRE.2 W hW).1
    have := pw_tri hN0.2.1 hNX.1 hNX.2.2 hi hb hj hW hX (f := fun t => if t = 0 then i else j) (n := 1) rfl rfl (fun t ht => by
      have : t = 0 := by omega
      subst this; exact hij)
    omega
  have HST : Hid (∀ W, Sp.path N nx x y = some W → 0 < W.length ∧ W[0]? = some x ∧ W[W.length - 1]? = some y ∧ W.length ≤ 8192 ∧ (∃ R, Sp.reach N nx [x] = some R ∧ y ∈ R ∧ R.length ≤ 8192) ∧ ∀ (i : Nat) (u v : Int), W[i]? = some u → W[i + 1]? = some v → (0 ≤ v ∧ v < 18446744073709551616) ∧ (u, v) ∈ E ∧ (∃ X, Sp.path N nx v y = some X ∧ X.length = W.length - i - 1) ∧ u ∉ W.take i) := fun W hW => by
    obtain ⟨⟨a, b, ha, hb⟩, R, hR, hyR⟩ := HRE.2 W hW
    obtain ⟨g1, g2, g3⟩ := ways_ends hN0.2.1 hNX.1 hNX.2.2 ha hb hW
    have hl := path_le (x := x) (y := y) hN0.1 hNX.1 hNX.2.2
    rw [hW] at hl
    have hrl : R.length ≤ 8192 := by
      have := reach_le2 (N := N) (nx := nx) (l := [x]) hN0.1
      rwa [hR] at this
    refine ⟨g1, g2, g3, hl, ⟨R, hR, hyR, hrl⟩, fun i u v hu hv => ?_⟩
    obtain ⟨c, d, hc, hd, hcd, hX, hno⟩ := ways_step hN0.2.1 hNX.1 hNX.2.2 ha hb hW hu hv
    refine ⟨hN0.2.2 v (List.mem_of_getElem? hd), ?_, hX, hno⟩
    rw [← hnx, nx_mem] at hcd
    have h3 := hcd.2
    rw [List.getD_eq_getElem?_getD, List.getD_eq_getElem?_getD, hc, hd] at h3
    exact h3
  have HNO : Hid (Sp.path N nx x y = none → Sp.reach N nx [x] = none ∨ y ∉ (Sp.reach N nx [x]).getD []) := HRE.1
  have HRL : Hid (((Sp.reach N nx [x]).getD []).length ≤ 8192) := reach_le2 hN0.1
  have HPL : Hid (∀ u X, Sp.path N nx u y = some X → X.length ≤ 8192) := fun u X hX => by
    have := path_le (x := u) (y := y) hN0.1 hNX.1 hNX.2.2
    rwa [hX] at this
  have HPE : Hid (∀ u, Sp.pathE N u y ≠ 0) := fun u => by unfold Sp.pathE; split <;> decide
  clear hg hN hnx hA hRN HM hk0 hN0 hNX HGE HRE
  go_wp2_with fail
  refine (HRC.out _ w2.heap.size (HZ.out w2 (Below.refl _ _)) (HRN.out w2)).mono ?_
  rintro e w3 ⟨hb3, h⟩
  have H3 : Hid (Below w2.heap.size w2 w3) := belT (HZ.out w2 (Below.refl _ _)) hb3
  rcases h with ⟨hr, rfl⟩ | ⟨R, gr, cr, hR, rfl, hnR, _⟩
  · have HPN : Hid (Sp.path N nx x y = none) := by
      cases hp : Sp.path N nx x y with
      | none => rfl
      | some W => obtain ⟨_, _, _, _, ⟨R, h, _⟩, _⟩ := HST.out W hp; rw [hr] at h; cases h
    clear hb3 hr HRC HRN HZ HEA HST HE1 HNO HRL
    go_wp2_with fail
    refine (HPA.out w3 x H3.out hx).mono ?_
    rintro e w4 ⟨hb4, h⟩
    rcases h with ⟨_, rfl⟩ | ⟨W, gw, cw, hW, _⟩
    rotate_left
    · rw [HPN.out] at hW; cases hW
    have HB : Hid (Below w.heap.size w w4) := belT H2.out (belT H3.out hb4)
    have hne : ¬ (Sp.pathE N x y = 0) := HPE.out x
    clear hb4 HPA HPN H3 H2
    go_wp2_with fail
    go_ret
    exact ⟨rfl, HB.out⟩
  have HR3 : Hid (NdR w3 gr cr R ∧ Sp.reach N nx [x] = some R) := ⟨hnR, hR⟩
  clear hb3 hnR hR HRC HRN HZ
  go_wp2_with fail
  refine (HPA.out w3 x H3.out hx).mono ?_
  rintro e w4 ⟨hb4, h⟩
  have H4 : Hid (Below w2.heap.size w2 w4 ∧ NdR w4 gr cr R) := ⟨belT H3.out hb4, HR3.out.1.keep (fun g hg => hb4.block g (HR3.out.1.2 g hg).lt)⟩
  rcases h with ⟨hp, rfl⟩ | ⟨W, gw, cw, hW, rfl, hnW, _⟩
  · have hyR : y ∉ R := by
      rcases HNO.out hp with h | h
      · rw [HR3.out.2] at h; cases h
      · rwa [HR3.out.2] at h
    have hRl : R.length ≤ 8192 := by have := HRL.out; rwa [HR3.out.2] at this
    have HHS := rHas_any (adr gr) cr R y w4 H4.out.2.rfv (by omega)
    rw [decide_eq_false hyR] at HHS
    have hne : ¬ (Sp.pathE N x y = 0) := HPE.out x
    have HB : Hid (Below w.heap.size w w4) := belT H2.out H4.out.1
    have HQ : Hid (Calls Tryz.prog 12 #[.slice (adr gr) R.length cr, .int .u64 y] w4 fun e w' => e = .returned (.bool false) ∧ Below w4.heap.size w4 w') := HHS
    clear hp hb4 hyR HHS HPA HR3 H3 HEA HST HE1 HNO HRL
    go_wp2_with fail
    refine HQ.out.mono ?_
    rintro e w5 ⟨rfl, hb5⟩
    have HB5 : Hid (Below w.heap.size w w5) := belT HB.out hb5
    clear hb5 HQ HB H4 H2
    go_wp2_with fail
    go_ret
    exact ⟨rfl, HB5.out⟩
  obtain ⟨g1, g2, g3, g4, ⟨R', hR', hyR, hRl⟩, hst⟩ := HST.out W hW
  rw [HR3.out.2] at hR'
  injection hR' with hR'
  subst hR'
  have HHS := rHas_any (adr gr) cr R y w4 H4.out.2.rfv (by omega)
  rw [decide_eq_true hyR] at HHS
  have HQ : Hid (Calls Tryz.prog 12 #[.slice (adr gr) R.length cr, .int .u64 y] w4 fun e w' => e = .returned (.bool true) ∧ Below w4.heap.size w4 w') := HHS
  have H5 : Hid (Below w2.heap.size w2 w4 ∧ NdR w4 gw cw W) := ⟨H4.out.1, hnW⟩
  have HSP : Hid (∀ (i : Nat) (u v : Int), W[i]? = some u → W[i + 1]? = some v → (0 ≤ v ∧ v < 18446744073709551616) ∧ (u, v) ∈ E ∧ (∃ X, Sp.path N nx v y = some X ∧ X.length = W.length - i - 1) ∧ u ∉ W.take i) := hst
  have HG23 : Hid (W[0]? = some x ∧ W[W.length - 1]? = some y) := ⟨g2, g3⟩
  have HE2 : Hid (∀ u v, (u, v) ∈ A → (0 ≤ u ∧ u < 18446744073709551616) ∧ (0 ≤ v ∧ v < 18446744073709551616) ∧ ∀ X, u = x → Sp.path N nx v y = some X → W.length ≤ X.length + 1) := fun u v h => ⟨(HE1.out u v h).1, (HE1.out u v h).2.1, fun X e hX => (HE1.out u v h).2.2 W X e hW hX⟩
  clear hb4 hW hnW hyR hRl hst HHS HR3 H3 HST HE1 HNO HRL H4 g2 g3
  go_wp2_with fail
  refine HQ.out.mono ?_
  rintro e w5 ⟨rfl, hb5⟩
  obtain ⟨g, rfl, kw0⟩ := H5.out.2.at_ HG23.out.1
  have kw1 : w4.cell? ⟨g, W.length - 1, none⟩ = some (.int .u64 y) := by
    obtain ⟨g2, e, h⟩ := H5.out.2.at_ HG23.out.2
    injection e with e; subst e; exact h
  have H6 : Hid (Below w2.heap.size w2 w5 ∧ NdR w5 (some g) cw W) := ⟨belT H5.out.1 hb5, H5.out.2.keep (fun g hg => hb5.block g (H5.out.2.2 g hg).lt)⟩
  have k0 : w5.cell? ⟨g, 0, none⟩ = some (.int .u64 x) := by rw [World.cell?_of_block (w := w4) (hb5.block g (World.block_lt_of_cell? _ _ kw0))]; exact kw0
  have k1 : w5.cell? ⟨g, W.length - 1, none⟩ = some (.int .u64 y) := by rw [World.cell?_of_block (w := w4) (hb5.block g (World.block_lt_of_cell? _ _ kw0))]; exact kw1
  have ead : adr (some g) = some ⟨g, 0, none⟩ := rfl
  have hWne : ¬ (W = []) := by intro e; rw [e] at g1; simp at g1
  clear hb5 HQ H5 kw0 kw1
  go_wp2_with fail
  clear k0 k1
  have hb0 : (((W.length : Nat) : Int) == 0) = false := by simpa using hWne
  rw [hb0]
  go_loopw [15] (fun v15 wr => ∃ i : Nat, v15 = .int .i64 i ∧ i + 1 ≤ W.length ∧ Hid (Below w2.heap.size w2 wr ∧ NdR wr (some g) cw W)) (fun v15 _ => W.length - (intOf v15).toNat)
  case atStart => exact ⟨0, rfl, g1, H6.out⟩
  case round =>
    as_aux_lemma =>
    clear H6
    obtain ⟨i, rfl, hi, HS⟩ := hrel
    by_cases hlt : i + 1 < W.length
    · have hltz : (i : Int) + 1 < (W.length : Int) := by omega
      obtain ⟨u, hu⟩ : ∃ e, W[i]? = some e := ⟨_, List.getElem?_eq_getElem (by omega)⟩
      obtain ⟨v, hv⟩ : ∃ e, W[i + 1]? = some e := ⟨_, List.getElem?_eq_getElem hlt⟩
      obtain ⟨hvb, huv, ⟨X, hX, hXl⟩, hno⟩ := HSP.out i u v hu hv
      have ku : wr.cell? ⟨g, i, none⟩ = some (.int .u64 u) := by
        obtain ⟨g2, e, h⟩ := HS.out.2.at_ hu
        injection e with e; subst e; exact h
      have kv : wr.cell? ⟨g, i + 1, none⟩ = some (.int .u64 v) := by
        obtain ⟨g2, e, h⟩ := HS.out.2.at_ hv
        injection e with e; subst e; exact h
      have hwi : IntKind.i64.wrap ((i : Int) + 1) = (i : Int) + 1 := Go.wrap_small _ (by omega) (by omega)
      have HXX : Hid (Sp.path N nx v y = some X ∧ (X.length : Int) = (W.length : Int) - (i : Int) - 1) := ⟨hX, by omega⟩
      have HUV : Hid ((u, v) ∈ E ∧ u ∉ W.take i ∧ W[i]? = some u ∧ W[i + 1]? = some v) := ⟨huv, hno, hu, hv⟩
      have HCP : Hid (Calls Tryz.prog 11 #[.pointer (some ⟨gb, 0, none⟩), .int .u64 v, .int .u64 y] wr (ReE wr (Sp.path N nx v y) (Sp.pathE N v y))) := HPA.out wr v HS.out.1 hvb
      clear hX hXl huv hno hu hv
      go_wp2_with fail
      refine HCP.out.mono ?_
      rintro e w6 ⟨hb6, h⟩
      rcases h with ⟨hp, rfl⟩ | ⟨X', gx, cx, hX', rfl, _, _⟩
      · rw [HXX.out.1] at hp; cases hp
      rw [HXX.out.1] at hX'
      injection hX' with hX'
      subst hX'
      have hxl := HXX.out.2
      have H7 : Hid (Below w2.heap.size w2 w6 ∧ NdR w6 (some g) cw W) := ⟨belT HS.out.1 hb6, HS.out.2.keep (fun g hg => hb6.block g (HS.out.2.2 g hg).lt)⟩
      have ku : w6.cell? ⟨g, i, none⟩ = some (.int .u64 u) := by
        obtain ⟨g2, e, h⟩ := H7.out.2.at_ HUV.out.2.2.1
        injection e with e; subst e; exact h
      have kv : w6.cell? ⟨g, i + 1, none⟩ = some (.int .u64 v) := by
        obtain ⟨g2, e, h⟩ := H7.out.2.at_ HUV.out.2.2.2
        injection e with e; subst e; exact h
      have HC2 : Hid (∀ W8 : World, Below w6.heap.size w6 W8 → Calls Tryz.prog 13 #[.slice a2 E.length cap2, .int .u64 u, .int .u64 v] W8 fun e w' => e = .returned (.bool true) ∧ Below W8.heap.size W8 w') := fun W8 hW8 => by
        have := HED.out W8 u v (belT (belT H2.out H7.out.1) hW8)
        rwa [decide_eq_true HUV.out.1] at this
      have HC3 : Hid (∀ W8 : World, Below w6.heap.size w6 W8 → Calls Tryz.prog 12 #[.slice (some ⟨g, 0, none⟩) i cw, .int .u64 u] W8 fun e w' => e = .returned (.bool false) ∧ Below W8.heap.size W8 w') := fun W8 hW8 => by
        have := rHas_any (some ⟨g, 0, none⟩) cw (W.take i) u W8 (((H7.out.2.rfv).keep hW8).take i) (by rw [List.length_take]; omega)
        rwa [decide_eq_false HUV.out.2.1, List.length_take, Nat.min_eq_left (by omega)] at this
      have hwi : IntKind.i64.wrap ((i : Int) + 1) = (i : Int) + 1 := Go.wrap_small _ (by omega) (by omega)
      have hcw : W.length ≤ cw := by
        obtain ⟨cur, _, h2, _⟩ := (H7.out.2.2 g rfl).blk
        simpa using h2
      have hcwz : (i : Int) ≤ (cw : Int) := by omega
      have hw1 : IntKind.i64.wrap ((W.length : Int) - (i : Int)) = (W.length : Int) - (i : Int) := Go.wrap_small _ (by omega) (by omega)
      have hw2 : IntKind.i64.wrap ((W.length : Int) - (i : Int) - 1) = (W.length : Int) - (i : Int) - 1 := Go.wrap_small _ (by omega) (by omega)
      have hil : i < W.length := by omega
      have hi0 : (0 : Int) ≤ (i : Int) + 1 := by omega
      clear hb6 HCP HS
      go_wp2_with fail
      refine wp_region_mark (fun Z => Z.cell? ⟨g, i, none⟩ = some (.int .u64 u) ∧ Z.cell? ⟨g, i + 1, none⟩ = some (.int .u64 v)) 34 (by kernel_rfl) ?_
      have hHeld : w6.drew.cell? ⟨g, i, none⟩ = some (.int .u64 u) ∧ w6.drew.cell? ⟨g, i + 1, none⟩ = some (.int .u64 v) := ⟨ku, kv⟩
      refine tkF (i := 0) (v := ?_) rfl (by kernel_rfl) (by rfl) ?_ (.inr (by assumption)) ?_
      rotate_left
      · intro Z hSw; go_simp; try (with_reducible rfl)
      simp only [Act.put, lsA, lsB, lsC]
      refine tkF (i := 1) (v := ?_) rfl (by kernel_rfl) (by rfl) ?_ (.inr (by assumption)) ?_
      rotate_left
      · intro Z hSw; go_simp; try (with_reducible rfl)
      simp only [Act.put, lsA, lsB, lsC]
      refine tkF (i := 2) (v := ?_) rfl (by kernel_rfl) (by rfl) ?_ (.inr (by assumption)) ?_
      rotate_left
      · intro Z hSw; go_simp; try (with_reducible rfl)
      simp only [Act.put, lsA, lsB, lsC]
      refine tkF (i := 3) (v := ?_) rfl (by kernel_rfl) (by rfl) ?_ (.inr (by assumption)) ?_
      rotate_left
      · intro Z hSw; go_simp; try (with_reducible rfl)
      simp only [Act.put, lsA, lsB, lsC]
      refine tkM (i := 4) (v := ?_) [26, 25, 16, 15, 12, 11, 10] rfl (by kernel_rfl) (by rfl) ?_ (by assumption) ?_
      rotate_left
      · intro Z hSw; (try dsimp only at hSw); go_simp; try (with_reducible rfl)
      simp only [Act.put, lsA, lsB, lsC]
      refine tkF (i := 5) (v := ?_) rfl (by kernel_rfl) (by rfl) ?_ (.inr (by assumption)) ?_
      rotate_left
      · intro Z hSw; go_simp; try (with_reducible rfl)
      simp only [Act.put, lsA, lsB, lsC]
      refine tkF (i := 6) (v := ?_) rfl (by kernel_rfl) (by rfl) ?_ (.inr (by assumption)) ?_
      rotate_left
      · intro Z hSw; go_simp; try (with_reducible rfl)
      simp only [Act.put, lsA, lsB, lsC]
      refine tkF (i := 7) (v := ?_) rfl (by kernel_rfl) (by rfl) ?_ (.inr (by assumption)) ?_
      rotate_left
      · intro Z hSw; go_simp; try (with_reducible rfl)
      simp only [Act.put, lsA, lsB, lsC]
      refine tkF (i := 8) (v := ?_) rfl (by kernel_rfl) (by rfl) ?_ (.inr (by assumption)) ?_
      rotate_left
      · intro Z hSw; go_simp; try (with_reducible rfl)
      simp only [Act.put, lsA, lsB, lsC]
      refine tkM (i := 9) (v := ?_) [26, 25, 16, 15, 12, 11, 10] rfl (by kernel_rfl) (by rfl) ?_ (by assumption) ?_
      rotate_left
      · intro Z hSw; (try dsimp only at hSw); go_simp; try (with_reducible rfl)
      simp only [Act.put, lsA, lsB, lsC]
      refine tkO (i := 10) (by kernel_rfl) rfl (fun K hK => ?_)
      go_simp
      refine (HC2.out w6.drew (Below.refl _ _).drew).mono ?_
      rintro e w8 ⟨rfl, hb8⟩
      have hh8 : w8.cell? ⟨g, i, none⟩ = some (.int .u64 u) ∧ w8.cell? ⟨g, i + 1, none⟩ = some (.int .u64 v) := ⟨by rw [World.cell?_of_block (w := w6.drew) (hb8.block g (World.block_lt_of_cell? _ _ hHeld.1))]; exact ku, by rw [World.cell?_of_block (w := w6.drew) (hb8.block g (World.block_lt_of_cell? _ _ hHeld.1))]; exact kv⟩
      have H8 : Hid (Below w6.heap.size w6 w8) := belT (Below.refl _ _).drew hb8
      clear hb8 hHeld ku kv
      have hHeld := hh8
      clear hh8
      go_wp2_with fail
      refine hK.out _ _ (.inr hHeld) ?_
      clear hK K
      refine tkF (i := 11) (v := ?_) rfl (by kernel_rfl) (by rfl) ?_ (.inr (by assumption)) ?_
      rotate_left
      · intro Z hSw; go_simp; try (with_reducible rfl)
      simp only [Act.put, lsA, lsB, lsC]
      refine tkF (i := 12) (v := ?_) rfl (by kernel_rfl) (by rfl) ?_ (.inr (by assumption)) ?_
      rotate_left
      · intro Z hSw; go_simp; try (with_reducible rfl)
      simp only [Act.put, lsA, lsB, lsC]
      refine tkF (i := 13) (v := ?_) rfl (by kernel_rfl) (by rfl) ?_ (.inr (by assumption)) ?_
      rotate_left
      · intro Z hSw; go_simp; try (with_reducible rfl)
      simp only [Act.put, lsA, lsB, lsC]
      refine tkF (i := 14) (v := ?_) rfl (by kernel_rfl) (by rfl) ?_ (.inr (by assumption)) ?_
      rotate_left
      · intro Z hSw; go_simp; try (with_reducible rfl)
      simp only [Act.put, lsA, lsB, lsC]
      refine tkF (i := 15) (v := ?_) rfl (by kernel_rfl) (by rfl) ?_ (.inr (by assumption)) ?_
      rotate_left
      · intro Z hSw; go_simp; try (with_reducible rfl)
      simp only [Act.put, lsA, lsB, lsC]
      refine tkF (i := 16) (v := ?_) rfl (by kernel_rfl) (by rfl) ?_ (.inr (by assumption)) ?_
      rotate_left
      · intro Z hSw; go_simp; try (with_reducible rfl)
      simp only [Act.put, lsA, lsB, lsC]
      refine tkF (i := 17) (v := ?_) rfl (by kernel_rfl) (by rfl) ?_ (.inr (by assumption)) ?_
      rotate_left
      · intro Z hSw; go_simp; try (with_reducible rfl)
      simp only [Act.put, lsA, lsB, lsC]
      refine tkF (i := 18) (v := ?_) rfl (by kernel_rfl) (by rfl) ?_ (.inr (by assumption)) ?_
      rotate_left
      · intro Z hSw; go_simp; try (with_reducible rfl)
      simp only [Act.put, lsA, lsB, lsC]
      refine tkF (i := 19) (v := ?_) rfl (by kernel_rfl) (by rfl) ?_ (.inr (by assumption)) ?_
      rotate_left
      · intro Z hSw; go_simp; try (with_reducible rfl)
      simp only [Act.put, lsA, lsB, lsC]
      refine tkF (i := 20) (v := ?_) rfl (by kernel_rfl) (by rfl) ?_ (.inr (by assumption)) ?_
      rotate_left
      · intro Z hSw; go_simp; try (with_reducible rfl)
      simp only [Act.put, lsA, lsB, lsC]
      refine tkF (i := 21) (v := ?_) rfl (by kernel_rfl) (by rfl) ?_ (.inr (by assumption)) ?_
      rotate_left
      · intro Z hSw; go_simp; try (with_reducible rfl)
      simp only [Act.put, lsA, lsB, lsC]
      refine tkF (i := 22) (v := ?_) rfl (by kernel_rfl) (by rfl) ?_ (.inr (by assumption)) ?_
      rotate_left
      · intro Z hSw; go_simp; try (with_reducible rfl)
      simp only [Act.put, lsA, lsB, lsC]
      refine tkF (i := 23) (v := ?_) rfl (by kernel_rfl) (by rfl) ?_ (.inr (by assumption)) ?_
      rotate_left
      · intro Z hSw; go_simp; try (with_reducible rfl)
      simp only [Act.put, lsA, lsB, lsC]
      refine tkF (i := 24) (v := ?_) rfl (by kernel_rfl) (by rfl) ?_ (.inr (by assumption)) ?_
      rotate_left
      · intro Z hSw; go_simp; try (with_reducible rfl)
      simp only [Act.put, lsA, lsB, lsC]
      refine tkF (i := 25) (v := ?_) rfl (by kernel_rfl) (by rfl) ?_ (.inr (by assumption)) ?_
      rotate_left
      · intro Z hSw; go_simp; try (with_reducible rfl)
      simp only [Act.put, lsA, lsB, lsC]
      refine tkF (i := 26) (v := ?_) rfl (by kernel_rfl) (by rfl) ?_ (.inr (by assumption)) ?_
      rotate_left
      · intro Z hSw; go_simp; try (with_reducible rfl)
      simp only [Act.put, lsA, lsB, lsC]
      refine tkF (i := 27) (v := ?_) rfl (by kernel_rfl) (by rfl) ?_ (.inr (by assumption)) ?_
      rotate_left
      · intro Z hSw; go_simp; try (with_reducible rfl)
      simp only [Act.put, lsA, lsB, lsC]
      refine tkF (i := 28) (v := ?_) rfl (by kernel_rfl) (by rfl) ?_ (.inr (by assumption)) ?_
      rotate_left
      · intro Z hSw; go_simp; try (with_reducible rfl)
      simp only [Act.put, lsA, lsB, lsC]
      refine tkF (i := 29) (v := ?_) rfl (by kernel_rfl) (by rfl) ?_ (.inr (by assumption)) ?_
      rotate_left
      · intro Z hSw; go_simp; try (with_reducible rfl)
      simp only [Act.put, lsA, lsB, lsC]
      refine tkF (i := 30) (v := ?_) rfl (by kernel_rfl) (by rfl) ?_ (.inr (by assumption)) ?_
      rotate_left
      · intro Z hSw; go_simp; try (with_reducible rfl)
      simp only [Act.put, lsA, lsB, lsC]
      refine tkF (i := 31) (v := ?_) rfl (by kernel_rfl) (by rfl) ?_ (.inr (by assumption)) ?_
      rotate_left
      · intro Z hSw; go_simp; try (with_reducible rfl)
      simp only [Act.put, lsA, lsB, lsC]
      refine tkF (i := 32) (v := ?_) rfl (by kernel_rfl) (by rfl) ?_ (.inr (by assumption)) ?_
      rotate_left
      · intro Z hSw; go_simp; try (with_reducible rfl)
      simp only [Act.put, lsA, lsB, lsC]
      refine tkM (i := 33) (v := ?_) [] rfl (by kernel_rfl) (by rfl) ?_ (by assumption) ?_
      rotate_left
      · intro Z hSw; (try dsimp only at hSw); go_simp; try (with_reducible rfl)
      simp only [Act.put, lsA, lsB, lsC]
      refine tkO (i := 34) (by kernel_rfl) rfl (fun K hK => ?_)
      go_simp
      refine (HC3.out w8 H8.out).mono ?_
      rintro e w9 ⟨rfl, hb9⟩
      have H9 : Hid (Below w2.heap.size w2 w9 ∧ NdR w9 (some g) cw W) := by
        have hb69 : Below w6.heap.size w6 w9 := belT H8.out hb9
        exact ⟨belT H7.out.1 hb69, H7.out.2.keep (fun g hg => hb69.block g (H7.out.2.2 g hg).lt)⟩
      clear hb9 hHeld H8 H7 HC2 HC3
      go_wp2_with fail
      refine hK.out _ _ (.inl (by kernel_rfl)) ?_
      clear hK K
      refine tkF (i := 35) (v := ?_) rfl (by kernel_rfl) (by rfl) ?_ (.inl (by kernel_rfl)) ?_
      rotate_left
      · intro Z hSw; go_simp; try (with_reducible rfl)
      simp only [Act.put, lsA, lsB, lsC]
      refine wpAnyM_done (by kernel_rfl) ?_ _
      go_wp2_with fail
      go_roundw
      case rel => exact ⟨i + 1, by go_num, by omega, H9.out⟩
      case measure => simp [intOf]; omega
    · have hneg : ¬ ((i : Int) + 1 < (W.length : Int)) := by omega
      have hwi : IntKind.i64.wrap ((i : Int) + 1) = (i : Int) + 1 := Go.wrap_small _ (by omega) (by omega)
      have H6 : Hid (Below w2.heap.size w2 wr) := HS.out.1
      clear HS HSP HED
      go_wp2_with fail
      refine (HEA.out wr H6.out).mono ?_
      rintro e w6 ⟨ge, ce, rfl, hne, hb6⟩
      have H7 : Hid (Below w2.heap.size w2 w6 ∧ NdE w6 ge ce A) := ⟨belT H6.out hb6, hne⟩
      clear hb6 hne HEA H6 hneg hwi hlt
      go_wp2_with fail
      go_loopw [19] (fun v19 wr => ∃ t : Nat, v19 = .int .i64 t ∧ t ≤ A.length ∧ Hid (Below w2.heap.size w2 wr ∧ NdE wr ge ce A)) (fun v19 _ => A.length - (intOf v19).toNat)
      case atStart => exact ⟨0, rfl, Nat.zero_le _, H7.out⟩
      case round =>
        as_aux_lemma =>
        clear H7
        obtain ⟨t, rfl, ht, HS⟩ := hrel
        by_cases hlt : t < A.length
        · have hltz : (t : Int) < (A.length : Int) := by omega
          obtain ⟨⟨p, q⟩, hpq⟩ : ∃ e, A[t]? = some e := ⟨_, List.getElem?_eq_getElem hlt⟩
          obtain ⟨g', rfl⟩ : ∃ g, ge = some g := by
            cases ge with
            | some g => exact ⟨g, rfl⟩
            | none => have := (HS.out.2.1 rfl).1; subst this; simp at hlt
          have ho := HS.out.2.2 g' rfl
          have kx : wr.cell? ⟨g', t * 2, none⟩ = some (.int .u64 p) := ho.cell (ev_get A t (p, q) hpq).1
          have ky : wr.cell? ⟨g', t * 2 + 1, none⟩ = some (.int .u64 q) := ho.cell (ev_get A t (p, q) hpq).2
          have ead' : adr (some g') = some ⟨g', 0, none⟩ := rfl
          have hm := HE2.out p q (List.mem_of_getElem? hpq)
          clear hpq ho
          by_cases hpx : p = x
          · subst hpx
            have HCP : Hid (Calls Tryz.prog 11 #[.pointer (some ⟨gb, 0, none⟩), .int .u64 q, .int .u64 y] wr (ReE wr (Sp.path N nx q y) (Sp.pathE N q y))) := HPA.out wr q HS.out.1 hm.2.1
            have HLE : Hid (∀ X, Sp.path N nx q y = some X → W.length ≤ X.length + 1) := fun X hX => hm.2.2 X rfl hX
            clear hm
            go_wp2_with fail
            refine HCP.out.mono ?_
            rintro e w8 ⟨hb8, h⟩
            have H8 : Hid (Below w2.heap.size w2 w8 ∧ NdE w8 (some g') ce A) := ⟨belT HS.out.1 hb8, HS.out.2.keep (fun g hg => hb8.block g (HS.out.2.2 g hg).lt)⟩
            rcases h with ⟨hp, rfl⟩ | ⟨X, gx, cx, hX, rfl, _, _⟩
            · have hne : ¬ (Sp.pathE N q y = 0) := HPE.out q
              clear hb8 HCP HS kx ky HLE hp
              go_wp2_with fail
              rw [← ead']
              go_roundw
              case rel => exact ⟨t + 1, by go_num, by omega, H8.out⟩
              case measure => simp [intOf]; omega
            · have hXl := HPL.out q X hX
              have hwx : IntKind.i64.wrap ((X.length : Int) + 1) = (X.length : Int) + 1 := Go.wrap_small _ (by omega) (by omega)
              have hll : ¬ ((X.length : Int) + 1 < (W.length : Int)) := by have := HLE.out X hX; omega
              clear hb8 HCP HS kx ky HLE hX
              go_wp2_with fail
              rw [← ead']
              go_roundw
              case rel => exact ⟨t + 1, by go_num, by omega, H8.out⟩
              case measure => simp [intOf]; omega
          · clear hm
            go_wp2_with fail
            exact ⟨⟨t + 1, by go_num, by omega, HS.out⟩, by simp [intOf]; omega⟩
        · obtain rfl : A.length = t := by omega
          have HF : Hid (Below w.heap.size w wr) := belT H2.out HS.out.1
          clear HS
          go_wp2_with fail
          go_ret
          exact ⟨rfl, HF.out⟩
end Go.Proofs.YtikhpbidbcfedaaGreat

