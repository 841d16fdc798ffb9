/- tenonlaw14.GraphShort returns true. -/
import Derived.Test.YtilchbeofjgliaaGreatK43
import Derived.Test.YtilchbeofjgliaaGreatK31
namespace Go.Proofs.YtilchbeofjgliaaGreat
open Go.RowKit Go.ChangeMaps

set_option maxRecDepth 100000 in
set_option maxHeartbeats 16000000 in
theorem GraphShort_any (a : Option Addr) (cap : Nat) (nodes : List Int) (a2 : Option Addr) (cap2 : Nat) (E : List (Int × Int)) (w : World)
    (h1 : RefsAt w w.heap.size a nodes) (h2 : EdgesAt w w.heap.size a2 E) (hl1 : nodes.length * 8 ≤ 140737488355328) (hl2 : E.length * 16 ≤ 140737488355328) :
    Calls Tryz.prog 7 #[.slice a nodes.length cap, .slice a2 E.length cap2] w fun e w' => e = .returned (.bool true) ∧ Below w.heap.size w w' := by
  have HV := lives_any w
  have HMK : Hid (∀ W : World, Below w.heap.size w W → Calls Tryz.prog 9 #[.slice a nodes.length cap, .slice a2 E.length cap2] W fun e w' => ∃ p, e = .returned (.tuple #[.pointer p, .int .i64 (Sp.mkE nodes E)]) ∧ MkE W nodes E p w') := fun W hW => Make_any a cap nodes a2 cap2 E w.heap.size W (h1.keep hW) (h2.keep hW.block) hW.size hl1 hl2
  have HBD : Hid (∀ x ∈ nodes, 0 ≤ x ∧ x < 18446744073709551616) := h1.bd
  clear h1 h2 hl1 hl2
  go_enter Tryz.func7, Tryz.ntmps7
  go_wp2_with fail
  refine HV.mono ?_
  rintro e w1 ⟨rfl, hb1⟩
  have H1 : Hid (Below w.heap.size w w1) := hb1
  clear hb1 HV
  go_wp2_with fail
  refine (HMK.out w1 H1.out).mono ?_
  rintro e w2 ⟨p, rfl, hmE⟩
  have HM : Hid (MkE w1 nodes E p w2) := hmE
  have H2 : Hid (Below w.heap.size w w2) := belT H1.out hmE.1
  clear hmE HMK H1
  by_cases hk : Sp.mkE nodes E ≠ 0
  · obtain rfl := HM.out.2.2 hk
    go_wp2_with fail
    go_ret
    exact ⟨rfl, H2.out⟩
  have hk0 : Sp.mkE nodes E = 0 := Classical.byContradiction fun h => hk h
  clear hk
  obtain ⟨gb, rfl, hg⟩ := HM.out.2.1 hk0
  have hRN : nodes.length ≤ 4096 ∧ nodes.Nodup := by
    refine ⟨?_, ?_⟩
    · apply Classical.byContradiction; intro h
      unfold Sp.mkE at hk0; rw [if_pos (.inl (by omega))] at hk0; cases hk0
    · apply Classical.byContradiction; intro h
      unfold Sp.mkE at hk0
      split at hk0
      · cases hk0
      · rw [if_pos (.inr h)] at hk0; cases hk0
  rw [hk0]
  have hN0 : (Sp.srt nodes).length ≤ 4096 ∧ (Sp.srt nodes).Pairwise (· < ·) ∧ ∀ x ∈ Sp.srt nodes, 0 ≤ x ∧ x < 18446744073709551616 := ⟨by rw [srt_len]; exact hRN.1, srt_lt hRN.2, fun x hx => HBD.out x (srt_mem.1 hx)⟩
  obtain ⟨N, hN⟩ : ∃ N, Sp.srt nodes = N := ⟨_, rfl⟩
  obtain ⟨nx, hnx⟩ : ∃ nx, Sp.nx N E = nx := ⟨_, rfl⟩
  rw [hN] at hg hN0
  rw [hnx] at hg
  have hNX : (∀ i, ∀ x ∈ nx i, x < N.length) ∧ (∀ p, (nx p).length ≤ 4096) ∧ ∀ i, (nx i).Pairwise (· < ·) := by
    rw [← hnx]
    exact ⟨fun t j hj => (nx_mem.1 hj).1, fun t => Nat.le_trans (by unfold Sp.nx; exact List.length_filter_le _ _) (by simp; exact hN0.1), fun i => List.Pairwise.filter _ List.pairwise_lt_range⟩
  have HGE : Hid (∀ W : World, Below w2.heap.size w2 W → ∃ D, GrE W D gb N nx) := fun W hW => ⟨_, hg.keep (fun k hk => hW.block k hk.2)⟩
  obtain ⟨R, hR⟩ : ∃ R, Sp.rfs N (Sp.rgs nx N.length N.length) = R := ⟨_, rfl⟩
  have hRL : R.length ≤ 4096 := by
    rw [← hR, Sp.rfs, List.length_map]
    by_cases hne : Sp.rgs nx N.length N.length = []
    · rw [hne]; simp
    · obtain ⟨a0, p, _, hw, _⟩ := rgs_way hNX.2.2 hNX.1 hne
      exact Nat.le_trans (nd_len hw.nd hw.bd) hN0.1
  have HRI : Hid (∀ W : World, Below w2.heap.size w2 W → Calls Tryz.prog 19 #[.pointer (some ⟨gb, 0, none⟩)] W (RiE W R)) := fun W hW => by
    obtain ⟨D, h⟩ := HGE.out W hW
    have := Ring_any gb N nx W h.gr hNX.1 hN0.1 hNX.2.1 hNX.2.2
    rwa [hR] at this
  obtain ⟨A, hA⟩ : ∃ A, Sp.eds N nx N.length 0 = A := ⟨_, rfl⟩
  have HED : Hid (∀ W : World, Below w2.heap.size w2 W → Calls Tryz.prog 14 #[.pointer (some ⟨gb, 0, none⟩)] W fun e w' => ∃ ge ce, e = .returned (.slice (adr ge) A.length ce) ∧ NdE w' ge ce A ∧ Below W.heap.size W w') := fun W hW => by
    obtain ⟨D, h⟩ := HGE.out W hW
    refine (pEdges_any gb N nx W h.gr hNX.1 hN0.1 hNX.2.1).mono ?_
    rintro e w' ⟨ge, ce, h1, h2, _, h4⟩
    rw [hA] at h1 h2
    exact ⟨ge, ce, h1, h2, h4⟩
  have hAL : A.length ≤ 4096 * 4096 := by
    rw [← hA]
    refine Nat.le_trans (eds_len N nx (fun t _ => hNX.2.1 t) N.length 0 (Nat.le_refl _) (by omega)) ?_
    exact Nat.mul_le_mul_right _ hN0.1
  have HPA : Hid (∀ (W : World) (x y : Int), Below w2.heap.size w2 W → x ∈ N → y ∈ N → Calls Tryz.prog 11 #[.pointer (some ⟨gb, 0, none⟩), .int .u64 x, .int .u64 y] W (ReE W (Sp.path N nx x y) 142)) := fun W x y hW hx hy => by
    obtain ⟨D, h⟩ := HGE.out W hW
    have := pPath_any D gb N nx x y W h (hN0.2.2 x hx) (hN0.2.2 y hy) hN0.1 hNX.1 hNX.2.1 hNX.2.2
    rwa [show Sp.pathE N x y = 142 by unfold Sp.pathE; rw [if_pos ⟨hx, hy⟩]] at this
  have HA1 : Hid (∀ x y, (x, y) ∈ A → x ∈ N ∧ y ∈ N ∧ ∀ l, Sp.path N nx y x = some l → 0 < R.length ∧ R.length ≤ l.length) := fun x y h => by
    rw [← hA] at h
    obtain ⟨i, j, hi, hj, hij⟩ := eds_at hNX.1 h
    refine ⟨List.mem_of_getElem? hi, List.mem_of_getElem? hj, fun l hl => ?_⟩
    rw [← hR]
    exact short_a hN0.2.1 hNX.1 hNX.2.2 hi hj hij hl
  have HR1 : Hid (∀ t x y, t < R.length → R[(t + 1) % R.length]? = some x → R[t]? = some y → x ∈ N ∧ y ∈ N ∧ ∃ l, Sp.path N nx x y = some l ∧ l.length = R.length) := fun t x y ht hx hy => by
    rw [← hR] at ht hx hy ⊢
    obtain ⟨l, hl, hl2⟩ := short_b hN0.2.1 hNX.1 hNX.2.2 ht hx hy
    have hm : x ∈ N ∧ y ∈ N := by
      unfold Sp.path at hl
      split at hl
      · assumption
      · cases hl
    exact ⟨hm.1, hm.2, l, hl, hl2⟩
  have HPL : Hid (∀ x y l, Sp.path N nx x y = some l → l.length ≤ 8192) := fun x y l hl => by
    have := path_le (x := x) (y := y) hN0.1 hNX.1 hNX.2.2
    rwa [hl] at this
  clear hg hN hnx hR hA hRN HM hk0 hN0 hNX HGE
  go_wp2_with fail
  refine (HRI.out w2 (Below.refl _ _)).mono ?_
  rintro e w3 ⟨gr, cr, rfl, hnr, _, hb3⟩
  have H3 : Hid (Below w2.heap.size w2 w3 ∧ NdR w3 gr cr R) := ⟨hb3, hnr⟩
  clear hb3 hnr HRI
  go_wp2_with fail
  refine (HED.out w3 H3.out.1).mono ?_
  rintro e w4 ⟨ge, ce, rfl, hne, hb4⟩
  have H4 : Hid (Below w2.heap.size w2 w4 ∧ NdR w4 gr cr R ∧ NdE w4 ge ce A) := ⟨belT H3.out.1 hb4, H3.out.2.keep (fun g hg => hb4.block g (H3.out.2.2 g hg).lt), hne⟩
  clear hb4 hne HED H3
  go_wp2_with fail
  go_loopw [10] (fun v10 wr => ∃ i : Nat, v10 = .int .i64 i ∧ i ≤ A.length ∧ Hid (Below w2.heap.size w2 wr ∧ NdR wr gr cr R ∧ NdE wr ge ce A)) (fun v10 _ => A.length - (intOf v10).toNat)
  case atStart => exact ⟨0, rfl, Nat.zero_le _, H4.out⟩
  case round =>
    as_aux_lemma =>
    clear H4
    obtain ⟨i, rfl, hi, HS⟩ := hrel
    by_cases hlt : i < A.length
    · have hltz : (i : Int) < (A.length : Int) := by omega
      obtain ⟨⟨x, y⟩, hxy⟩ : ∃ e, A[i]? = some e := ⟨_, List.getElem?_eq_getElem hlt⟩
      obtain ⟨g, rfl⟩ : ∃ g, ge = some g := by
        cases ge with
        | some g => exact ⟨g, rfl⟩
        | none => have := (HS.out.2.2.1 rfl).1; subst this; simp at hlt
      have ho := HS.out.2.2.2 g rfl
      have kx : wr.cell? ⟨g, i * 2, none⟩ = some (.int .u64 x) := ho.cell (ev_get A i (x, y) hxy).1
      have ky : wr.cell? ⟨g, i * 2 + 1, none⟩ = some (.int .u64 y) := ho.cell (ev_get A i (x, y) hxy).2
      have ead : adr (some g) = some ⟨g, 0, none⟩ := rfl
      have HM := HA1.out x y (List.mem_of_getElem? hxy)
      have HQ : Hid (∀ l, Sp.path N nx y x = some l → 0 < R.length ∧ R.length ≤ l.length) := HM.2.2
      have HC : Hid (Calls Tryz.prog 11 #[.pointer (some ⟨gb, 0, none⟩), .int .u64 y, .int .u64 x] wr.drew (ReE wr.drew (Sp.path N nx y x) 142)) := HPA.out wr.drew y x HS.out.1.drew HM.2.1 HM.1
      have HSW : Hid (wr.drew.cell? ⟨g, i * 2, none⟩ = some (.int .u64 x) ∧ wr.drew.cell? ⟨g, i * 2 + 1, none⟩ = some (.int .u64 y)) := ⟨kx, ky⟩
      clear hxy ho HM
      go_wp2_with fail
      refine wp_region_mark (fun X => X.cell? ⟨g, i * 2, none⟩ = some (.int .u64 x) ∧ X.cell? ⟨g, i * 2 + 1, none⟩ = some (.int .u64 y)) 11 (by kernel_rfl) ?_
      have hHeld := HSW.out
      refine tkF (i := 0) (v := ?_) rfl (by kernel_rfl) (by rfl) ?_ (.inr (by assumption)) ?_
      rotate_left
      · intro W hSw; go_simp; try (with_reducible rfl)
      simp only [Act.put, lsA, lsB, lsC]
      refine tkF (i := 1) (v := ?_) rfl (by kernel_rfl) (by rfl) ?_ (.inr (by assumption)) ?_
      rotate_left
      · intro W hSw; go_simp; try (with_reducible rfl)
      simp only [Act.put, lsA, lsB, lsC]
      refine tkF (i := 2) (v := ?_) rfl (by kernel_rfl) (by rfl) ?_ (.inr (by assumption)) ?_
      rotate_left
      · intro W hSw; go_simp; try (with_reducible rfl)
      simp only [Act.put, lsA, lsB, lsC]
      refine tkF (i := 3) (v := ?_) rfl (by kernel_rfl) (by rfl) ?_ (.inr (by assumption)) ?_
      rotate_left
      · intro W hSw; go_simp; try (with_reducible rfl)
      simp only [Act.put, lsA, lsB, lsC]
      refine tkF (i := 4) (v := ?_) rfl (by kernel_rfl) (by rfl) ?_ (.inr (by assumption)) ?_
      rotate_left
      · intro W hSw; go_simp; try (with_reducible rfl)
      simp only [Act.put, lsA, lsB, lsC]
      refine tkM (i := 5) (v := ?_) [] rfl (by kernel_rfl) (by rfl) ?_ (by assumption) ?_
      rotate_left
      · intro W hSw; (try dsimp only at hSw); go_simp; try (with_reducible rfl)
      simp only [Act.put, lsA, lsB, lsC]
      refine tkF (i := 6) (v := ?_) rfl (by kernel_rfl) (by rfl) ?_ (.inr (by assumption)) ?_
      rotate_left
      · intro W hSw; go_simp; try (with_reducible rfl)
      simp only [Act.put, lsA, lsB, lsC]
      refine tkF (i := 7) (v := ?_) rfl (by kernel_rfl) (by rfl) ?_ (.inr (by assumption)) ?_
      rotate_left
      · intro W hSw; go_simp; try (with_reducible rfl)
      simp only [Act.put, lsA, lsB, lsC]
      refine tkF (i := 8) (v := ?_) rfl (by kernel_rfl) (by rfl) ?_ (.inr (by assumption)) ?_
      rotate_left
      · intro W hSw; go_simp; try (with_reducible rfl)
      simp only [Act.put, lsA, lsB, lsC]
      refine tkF (i := 9) (v := ?_) rfl (by kernel_rfl) (by rfl) ?_ (.inr (by assumption)) ?_
      rotate_left
      · intro W hSw; go_simp; try (with_reducible rfl)
      simp only [Act.put, lsA, lsB, lsC]
      refine tkM (i := 10) (v := ?_) [] rfl (by kernel_rfl) (by rfl) ?_ (by assumption) ?_
      rotate_left
      · intro W hSw; (try dsimp only at hSw); go_simp; try (with_reducible rfl)
      simp only [Act.put, lsA, lsB, lsC]
      refine tkO (i := 11) (by kernel_rfl) rfl (fun K hK => ?_)
      go_simp
      refine HC.out.mono ?_
      rintro e w5 ⟨hb5, h⟩
      have H5 : Hid (Below w2.heap.size w2 w5 ∧ NdR w5 gr cr R ∧ NdE w5 (some g) ce A) := ⟨belT HS.out.1 (belT (Below.refl _ _).drew hb5), HS.out.2.1.keep (fun g hg => hb5.block g (HS.out.2.1.2 g hg).lt), HS.out.2.2.keep (fun g hg => hb5.block g (HS.out.2.2.2 g hg).lt)⟩
      rcases h with ⟨hp, rfl⟩ | ⟨l, gs, c, hl, rfl, hn1, _⟩
      · clear hb5 hHeld kx ky HC HSW HS HQ hp
        go_wp2_with fail
        refine hK.out _ _ (.inl (by kernel_rfl)) ?_
        clear hK K
        refine tkF (i := 12) (v := ?_) rfl (by kernel_rfl) (by rfl) ?_ (.inl (by kernel_rfl)) ?_
        rotate_left
        · intro W hSw; go_simp; try (with_reducible rfl)
        simp only [Act.put, lsA, lsB, lsC]
        refine tkF (i := 13) (v := ?_) rfl (by kernel_rfl) (by rfl) ?_ (.inl (by kernel_rfl)) ?_
        rotate_left
        · intro W hSw; go_simp; try (with_reducible rfl)
        simp only [Act.put, lsA, lsB, lsC]
        refine tkF (i := 14) (v := ?_) rfl (by kernel_rfl) (by rfl) ?_ (.inl (by kernel_rfl)) ?_
        rotate_left
        · intro W hSw; go_simp; try (with_reducible rfl)
        simp only [Act.put, lsA, lsB, lsC]
        refine tkF (i := 15) (v := ?_) rfl (by kernel_rfl) (by rfl) ?_ (.inl (by kernel_rfl)) ?_
        rotate_left
        · intro W hSw; go_simp; try (with_reducible rfl)
        simp only [Act.put, lsA, lsB, lsC]
        refine tkF (i := 16) (v := ?_) rfl (by kernel_rfl) (by rfl) ?_ (.inl (by kernel_rfl)) ?_
        rotate_left
        · intro W hSw; go_simp; try (with_reducible rfl)
        simp only [Act.put, lsA, lsB, lsC]
        refine wpAnyM_done (by kernel_rfl) ?_ _
        go_wp2_with fail
        rw [← ead]
        go_roundw
        case rel => exact ⟨i + 1, by go_num, by omega, H5.out⟩
        case measure => simp [intOf]; omega
      · have HQ2 : Hid (0 < R.length ∧ R.length ≤ l.length) := HQ.out l hl
        clear hb5 hHeld kx ky HC HSW HS HQ hl hn1
        go_wp2_with fail
        refine hK.out _ _ (.inl (by kernel_rfl)) ?_
        clear hK K
        refine tkF (i := 12) (v := ?_) rfl (by kernel_rfl) (by rfl) ?_ (.inl (by kernel_rfl)) ?_
        rotate_left
        · intro W hSw; go_simp; try (with_reducible rfl)
        simp only [Act.put, lsA, lsB, lsC]
        refine tkF (i := 13) (v := ?_) rfl (by kernel_rfl) (by rfl) ?_ (.inl (by kernel_rfl)) ?_
        rotate_left
        · intro W hSw; go_simp; try (with_reducible rfl)
        simp only [Act.put, lsA, lsB, lsC]
        refine tkF (i := 14) (v := ?_) rfl (by kernel_rfl) (by rfl) ?_ (.inl (by kernel_rfl)) ?_
        rotate_left
        · intro W hSw; go_simp; try (with_reducible rfl)
        simp only [Act.put, lsA, lsB, lsC]
        refine tkF (i := 15) (v := ?_) rfl (by kernel_rfl) (by rfl) ?_ (.inl (by kernel_rfl)) ?_
        rotate_left
        · intro W hSw; go_simp; try (with_reducible rfl)
        simp only [Act.put, lsA, lsB, lsC]
        refine tkF (i := 16) (v := ?_) rfl (by kernel_rfl) (by rfl) ?_ (.inl (by kernel_rfl)) ?_
        rotate_left
        · intro W hSw; go_simp; try (with_reducible rfl)
        simp only [Act.put, lsA, lsB, lsC]
        refine wpAnyM_done (by kernel_rfl) ?_ _
        have hd : decide (0 < R.length) = true := decide_eq_true HQ2.out.1
        have hll : ¬ ((l.length : Int) < (R.length : Int)) := by have := HQ2.out.2; omega
        go_wp2_with fail
        exact ⟨⟨i + 1, by omega, by omega⟩, by simp [intOf]; omega⟩
    · obtain rfl : A.length = i := by omega
      go_wp2_with fail
      go_loopw [13] (fun v13 wr => ∃ i : Nat, v13 = .int .i64 i ∧ i ≤ R.length ∧ Hid (Below w2.heap.size w2 wr ∧ NdR wr gr cr R)) (fun v13 _ => R.length - (intOf v13).toNat)
      case atStart => exact ⟨0, rfl, Nat.zero_le _, HS.out.1, HS.out.2.1⟩
      case round =>
        as_aux_lemma =>
        clear HS hlt hi HA1
        obtain ⟨i, rfl, hi, HS⟩ := hrel
        by_cases hlt : i < R.length
        · have hltz : (i : Int) < (R.length : Int) := by omega
          have hm : (i + 1) % R.length < R.length := Nat.mod_lt _ (by omega)
          obtain ⟨x, hx⟩ : ∃ e, R[(i + 1) % R.length]? = some e := ⟨_, List.getElem?_eq_getElem hm⟩
          obtain ⟨y, hy⟩ : ∃ e, R[i]? = some e := ⟨_, List.getElem?_eq_getElem hlt⟩
          obtain ⟨m, hmd⟩ : ∃ m, (i + 1) % R.length = m := ⟨_, rfl⟩
          rw [hmd] at hm
          obtain ⟨mx, my, l, hl, hl2⟩ := HR1.out i x y hlt hx hy
          rw [hmd] at hx
          obtain ⟨g, rfl, kx⟩ := HS.out.2.at_ hx
          have ky : wr.cell? ⟨g, i, none⟩ = some (.int .u64 y) := by
            obtain ⟨g2, e, h⟩ := HS.out.2.at_ hy
            injection e with e; subst e; exact h
          have ead : adr (some g) = some ⟨g, 0, none⟩ := rfl
          have hmz : Int.tmod ((i : Int) + 1) (R.length : Int) = (m : Int) := by
            rw [← hmd, Int.tmod_eq_emod_of_nonneg (by omega)]; simp [Int.natCast_emod]
          have hrz : ¬ (R = []) := by intro e; rw [e] at hlt; simp at hlt
          have hwi : IntKind.i64.wrap ((i : Int) + 1) = (i : Int) + 1 := Go.wrap_small _ (by omega) (by omega)
          have hmz2 : (m : Int) < (R.length : Int) := by omega
          have HC : Hid (Calls Tryz.prog 11 #[.pointer (some ⟨gb, 0, none⟩), .int .u64 x, .int .u64 y] wr.drew (ReE wr.drew (Sp.path N nx x y) 142)) := HPA.out wr.drew x y HS.out.1.drew mx my
          have HSW : Hid (wr.drew.cell? ⟨g, m, none⟩ = some (.int .u64 x) ∧ wr.drew.cell? ⟨g, i, none⟩ = some (.int .u64 y)) := ⟨kx, ky⟩
          clear hx hy mx my hm hmd
          go_wp2_with fail
          refine wp_region_mark (fun X => X.cell? ⟨g, m, none⟩ = some (.int .u64 x) ∧ X.cell? ⟨g, i, none⟩ = some (.int .u64 y)) 13 (by kernel_rfl) ?_
          have hHeld := HSW.out
          refine tkF (i := 0) (v := ?_) rfl (by kernel_rfl) (by rfl) ?_ (.inr (by assumption)) ?_
          rotate_left
          · intro W hSw; go_simp; try (with_reducible rfl)
          simp only [Act.put, lsA, lsB, lsC]
          refine tkF (i := 1) (v := ?_) rfl (by kernel_rfl) (by rfl) ?_ (.inr (by assumption)) ?_
          rotate_left
          · intro W hSw; go_simp; try (with_reducible rfl)
          simp only [Act.put, lsA, lsB, lsC]
          refine tkF (i := 2) (v := ?_) rfl (by kernel_rfl) (by rfl) ?_ (.inr (by assumption)) ?_
          rotate_left
          · intro W hSw; go_simp; try (with_reducible rfl)
          simp only [Act.put, lsA, lsB, lsC]
          refine tkF (i := 3) (v := ?_) rfl (by kernel_rfl) (by rfl) ?_ (.inr (by assumption)) ?_
          rotate_left
          · intro W hSw; go_simp; try (with_reducible rfl)
          simp only [Act.put, lsA, lsB, lsC]
          refine tkF (i := 4) (v := ?_) rfl (by kernel_rfl) (by rfl) ?_ (.inr (by assumption)) ?_
          rotate_left
          · intro W hSw; go_simp; try (with_reducible rfl)
          simp only [Act.put, lsA, lsB, lsC]
          refine tkF (i := 5) (v := ?_) rfl (by kernel_rfl) (by rfl) ?_ (.inr (by assumption)) ?_
          rotate_left
          · intro W hSw; go_simp; try (with_reducible rfl)
          simp only [Act.put, lsA, lsB, lsC]
          refine tkF (i := 6) (v := ?_) rfl (by kernel_rfl) (by rfl) ?_ (.inr (by assumption)) ?_
          rotate_left
          · intro W hSw; go_simp; try (with_reducible rfl)
          simp only [Act.put, lsA, lsB, lsC]
          refine tkF (i := 7) (v := ?_) rfl (by kernel_rfl) (by rfl) ?_ (.inr (by assumption)) ?_
          rotate_left
          · intro W hSw; go_simp; try (with_reducible rfl)
          simp only [Act.put, lsA, lsB, lsC]
          refine tkM (i := 8) (v := ?_) [] rfl (by kernel_rfl) (by rfl) ?_ (by assumption) ?_
          rotate_left
          · intro W hSw; (try dsimp only at hSw); go_simp; try (with_reducible rfl)
          simp only [Act.put, lsA, lsB, lsC]
          refine tkF (i := 9) (v := ?_) rfl (by kernel_rfl) (by rfl) ?_ (.inr (by assumption)) ?_
          rotate_left
          · intro W hSw; go_simp; try (with_reducible rfl)
          simp only [Act.put, lsA, lsB, lsC]
          refine tkF (i := 10) (v := ?_) rfl (by kernel_rfl) (by rfl) ?_ (.inr (by assumption)) ?_
          rotate_left
          · intro W hSw; go_simp; try (with_reducible rfl)
          simp only [Act.put, lsA, lsB, lsC]
          refine tkF (i := 11) (v := ?_) rfl (by kernel_rfl) (by rfl) ?_ (.inr (by assumption)) ?_
          rotate_left
          · intro W hSw; go_simp; try (with_reducible rfl)
          simp only [Act.put, lsA, lsB, lsC]
          refine tkM (i := 12) (v := ?_) [] rfl (by kernel_rfl) (by rfl) ?_ (by assumption) ?_
          rotate_left
          · intro W hSw; (try dsimp only at hSw); go_simp; try (with_reducible rfl)
          simp only [Act.put, lsA, lsB, lsC]
          refine tkO (i := 13) (by kernel_rfl) rfl (fun K hK => ?_)
          go_simp
          refine HC.out.mono ?_
          rintro e w5 ⟨hb5, h⟩
          have H5 : Hid (Below w2.heap.size w2 w5 ∧ NdR w5 (some g) cr R) := ⟨belT HS.out.1 (belT (Below.refl _ _).drew hb5), HS.out.2.keep (fun g hg => hb5.block g (HS.out.2.2 g hg).lt)⟩
          rcases h with ⟨hp, rfl⟩ | ⟨l', gs, c, hl', rfl, hn1, _⟩
          · rw [hl] at hp; cases hp
          rw [hl] at hl'
          injection hl' with hl'
          subst hl'
          have hll : (l.length : Int) = (R.length : Int) := by omega
          clear hb5 hHeld kx ky HC HSW HS hl hl2 hn1
          go_wp2_with fail
          refine hK.out _ _ (.inl (by kernel_rfl)) ?_
          clear hK K
          refine tkF (i := 14) (v := ?_) rfl (by kernel_rfl) (by rfl) ?_ (.inl (by kernel_rfl)) ?_
          rotate_left
          · intro W hSw; go_simp; try (with_reducible rfl)
          simp only [Act.put, lsA, lsB, lsC]
          refine tkF (i := 15) (v := ?_) rfl (by kernel_rfl) (by rfl) ?_ (.inl (by kernel_rfl)) ?_
          rotate_left
          · intro W hSw; go_simp; try (with_reducible rfl)
          simp only [Act.put, lsA, lsB, lsC]
          refine tkF (i := 16) (v := ?_) rfl (by kernel_rfl) (by rfl) ?_ (.inl (by kernel_rfl)) ?_
          rotate_left
          · intro W hSw; go_simp; try (with_reducible rfl)
          simp only [Act.put, lsA, lsB, lsC]
          refine tkF (i := 17) (v := ?_) rfl (by kernel_rfl) (by rfl) ?_ (.inl (by kernel_rfl)) ?_
          rotate_left
          · intro W hSw; go_simp; try (with_reducible rfl)
          simp only [Act.put, lsA, lsB, lsC]
          refine tkF (i := 18) (v := ?_) rfl (by kernel_rfl) (by rfl) ?_ (.inl (by kernel_rfl)) ?_
          rotate_left
          · intro W hSw; go_simp; try (with_reducible rfl)
          simp only [Act.put, lsA, lsB, lsC]
          refine wpAnyM_done (by kernel_rfl) ?_ _
          go_wp2_with fail
          rw [← ead]
          go_roundw
          case rel => exact ⟨i + 1, by go_num, by omega, H5.out⟩
          case measure => simp [intOf]; omega
        · obtain rfl : R.length = i := by omega
          have HF : Hid (Below w.heap.size w wr) := belT H2.out HS.out.1
          have hdd : (decide (0 < R.length) == decide ((0 : Int) < (R.length : Int))) = true := by simp
          clear HS
          go_wp2_with fail
          go_ret
          exact ⟨rfl, HF.out⟩
end Go.Proofs.YtilchbeofjgliaaGreat

