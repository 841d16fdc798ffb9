/- tenonlaw14.GraphParts returns true. -/
import Derived.Test.YtikhpbidbcfedaaGreatKp35
import Derived.Test.YtikhpbidbcfedaaGreatKp40
import Derived.Deep.CutRange
namespace Go.Proofs.YtikhpbidbcfedaaGreat
open Go.RowKit Go.ChangeMaps

def PtS (w5 : World) (A : List Int) (ga : Option Nat) (ca : Nat) (wr : World) : Prop := RfI w5 A ga ca wr
set_option maxRecDepth 100000 in
set_option maxHeartbeats 32000000 in
theorem GraphParts_any (a : Option Addr) (cap : Nat) (nodes : List Int) (a2 : Option Addr) (cap2 : Nat) (E : List (Int × Int)) (w : World)
    (h1 : RefsAt w w.heap.size a nodes) (h2 : EdgesAt w w.heap.size a2 E) (hl1 : nodes.length * 8 ≤ 140737488355328) (hl2 : E.length * 16 ≤ 140737488355328) :
    Calls Tryz.prog 4 #[.slice a nodes.length cap, .slice a2 E.length cap2] w fun e w' => e = .returned (.bool true) ∧ Below w.heap.size w w' := by
  have HV := lives_any w
  have HMK : Hid (∀ W : World, Below w.heap.size w W → Calls Tryz.prog 9 #[.slice a nodes.length cap, .slice a2 E.length cap2] W fun e w' => ∃ p, e = .returned (.tuple #[.pointer p, .int .i64 (Sp.mkE nodes E)]) ∧ MkE W nodes E p w') := fun W hW => Make_any a cap nodes a2 cap2 E w.heap.size W (h1.keep hW) (h2.keep hW.block) hW.size hl1 hl2
  have HBD : Hid (∀ x ∈ nodes, 0 ≤ x ∧ x < 18446744073709551616) := h1.bd
  have HED : Hid (∀ (W : World) (u v : Int), Below w.heap.size w W → Calls Tryz.prog 13 #[.slice a2 E.length cap2, .int .u64 u, .int .u64 v] W fun e w' => e = .returned (.bool (decide ((u, v) ∈ E))) ∧ Below W.heap.size W w') := fun W u v hW => edge_any a2 cap2 E u v W (h2.keep hW.block).egv hl2
  clear h1 h2 hl1 hl2
  go_enter Tryz.func4, Tryz.ntmps4
  go_wp2_with fail
  refine HV.mono ?_
  rintro e w1 ⟨rfl, hb1⟩
  have H1 : Hid (Below w.heap.size w w1) := hb1
  clear hb1 HV
  go_wp2_with fail
  refine (HMK.out w1 H1.out).mono ?_
  rintro e w2 ⟨p, rfl, hmE⟩
  have HM : Hid (MkE w1 nodes E p w2) := hmE
  have H2 : Hid (Below w.heap.size w w2) := belT H1.out hmE.1
  clear hmE HMK H1
  by_cases hk : Sp.mkE nodes E ≠ 0
  · obtain rfl := HM.out.2.2 hk
    go_wp2_with fail
    go_ret
    exact ⟨rfl, H2.out⟩
  have hk0 : Sp.mkE nodes E = 0 := Classical.byContradiction fun h => hk h
  clear hk
  obtain ⟨gb, rfl, hg⟩ := HM.out.2.1 hk0
  rw [hk0]
  obtain ⟨q1, q2, q3, q4, q5⟩ := mkE_parts hk0
  have hN0 : (Sp.srt nodes).length ≤ 4096 ∧ (Sp.srt nodes).Pairwise (· < ·) ∧ (Sp.srt nodes).length = nodes.length := ⟨by rw [srt_len]; exact q1, srt_lt q4, srt_len nodes⟩
  obtain ⟨N, hN⟩ : ∃ N, Sp.srt nodes = N := ⟨_, rfl⟩
  rw [hN] at hg hN0
  have hNX : (∀ i, ∀ x ∈ Sp.nx N E i, x < N.length) ∧ (∀ p, (Sp.nx N E p).length ≤ 4096) ∧ ∀ i, (Sp.nx N E i).Pairwise (· < ·) :=
    ⟨fun t j hj => (nx_mem.1 hj).1, fun t => Nat.le_trans (by unfold Sp.nx; exact List.length_filter_le _ _) (by simp; exact hN0.1), nx_lt _ _⟩
  have hBK : (∀ i, ∀ x ∈ Sp.bkn (Sp.nx N E) N.length i, x < N.length) ∧ (∀ p, (Sp.bkn (Sp.nx N E) N.length p).length ≤ 4096) ∧ ∀ i, (Sp.bkn (Sp.nx N E) N.length i).Pairwise (· < ·) :=
    ⟨bk_lt _ _, fun p => Nat.le_trans (bkn_len _ _ _) hN0.1, bkn_lt _ _⟩
  have HGP : Hid (∀ W : World, Below w2.heap.size w2 W → GRP W gb N (Sp.nx N E)) := fun W hW => hg.grp.keep hW
  have HPT : Hid (∀ W : World, Below w2.heap.size w2 W → Calls Tryz.prog 15 #[.pointer (some ⟨gb, 0, none⟩)] W (PaE W N (Sp.nx N E))) := fun W hW => Parts_full gb N (Sp.nx N E) W (HGP.out W hW) hNX.1 hN0.1 hNX.2.1 hNX.2.2
  have HTU : Hid (∀ W : World, Below w2.heap.size w2 W → Calls Tryz.prog 16 #[.pointer (some ⟨gb, 0, none⟩)] W (TuE W N (Sp.bkn (Sp.nx N E) N.length))) := fun W hW => pTurned_any gb N (Sp.nx N E) W (HGP.out W hW) hNX.1 hN0.1 hNX.2.1 hNX.2.2
  have HPT2 : Hid (∀ (W : World) (tb : Nat), GRP W tb N (Sp.bkn (Sp.nx N E) N.length) → Calls Tryz.prog 15 #[.pointer (some ⟨tb, 0, none⟩)] W (PaE W N (Sp.bkn (Sp.nx N E) N.length))) := fun W tb h => Parts_full tb N _ W h hBK.1 hN0.1 hBK.2.1 hBK.2.2
  have HOR : Hid (∀ W : World, Below w2.heap.size w2 W → Calls Tryz.prog 18 #[.pointer (some ⟨gb, 0, none⟩)] W (OrD N E W)) := fun W hW => (Order_any gb N (Sp.nx N E) W (HGP.out W hW).1 hNX.1 hN0.1 hNX.2.1).mono fun e w' h => h.ord hN0.1
  obtain ⟨R, hR⟩ : ∃ R, Sp.rfs N (Sp.rgs (Sp.nx N E) N.length N.length) = R := ⟨_, rfl⟩
  have HRO : Hid ((0 < R.length ↔ Cyc (Sp.nx N E) N.length) ∧ R.length ≤ N.length ∧ ∀ (i : Nat) (x y : Int), R[i]? = some x → R[(i + 1) % R.length]? = some y → (x, y) ∈ E ∧ x ∉ R.take i) := ring_ok hN0.2.1 hR
  have HRI : Hid (∀ W : World, Below w2.heap.size w2 W → Calls Tryz.prog 19 #[.pointer (some ⟨gb, 0, none⟩)] W (RiE W R)) := fun W hW => by
    have := Ring_any gb N (Sp.nx N E) W (HGP.out W hW).1 hNX.1 hN0.1 hNX.2.1 hNX.2.2
    rwa [hR] at this
  have HNL : Hid (N.length ≤ 4096 ∧ N.length = nodes.length ∧ N.Pairwise (· < ·)) := ⟨hN0.1, hN0.2.2, hN0.2.1⟩
  clear hN hg HBD q1 q2 q3 q4 q5 hk0 HM hN0 hNX hBK hR HGP
  go_wp2_with fail
  refine (HPT.out w2 (Below.refl _ _)).mono ?_
  rintro e w3 ⟨T, gT, cT, rfl, hT1, hT2, hT3, hb3⟩
  have H3 : Hid (Below w2.heap.size w2 w3 ∧ (T.map fun q : Hd => q.2.2).Perm (Sp.prv N (Sp.nx N E)) ∧ (T.map fun q : Hd => q.2.2).Pairwise (fun a b => ¬ b < a) ∧ PtR w3 gT cT T) := ⟨hb3, hT1, hT2, hT3⟩
  clear hb3 hT1 hT2 hT3 HPT
  go_wp2_with fail
  refine (HTU.out w3 H3.out.1).mono ?_
  rintro e w4 ⟨tb, rfl, hgrn, hb4⟩
  have H4 : Hid (Below w3.heap.size w3 w4 ∧ GRP w4 tb N (Sp.bkn (Sp.nx N E) N.length)) := ⟨hb4, hgrn.grp⟩
  clear hb4 hgrn HTU
  go_wp2_with fail
  refine (HPT2.out w4 tb H4.out.2).mono ?_
  rintro e w5 ⟨T2, gM, cM, rfl, hM1, hM2, hM3, hb5⟩
  have hQQ : (T2.map fun q : Hd => q.2.2) = T.map fun q : Hd => q.2.2 := prv_one HNL.out.2.2 (nx_bd N E) H3.out.2.1 hM1 H3.out.2.2.1 hM2
  have hPQ := PrQ.of HNL.out.2.2 H3.out.2.1
  obtain ⟨Q, hQ⟩ : ∃ Q, (T.map fun q : Hd => q.2.2) = Q := ⟨_, rfl⟩
  rw [hQ] at hQQ hPQ
  have HPQ : Hid (PrQ N E Q) := hPQ
  have hTl : T.length = Q.length := by rw [← hQ]; simp
  have hTl2 : T2.length = Q.length := by rw [← hQQ]; simp
  have hb35 : Below w3.heap.size w3 w5 := belT H4.out.1 hb5
  have keepT : PtR w5 gT cT T := ⟨H3.out.2.2.2.nil, fun g hg => (H3.out.2.2.2.own g hg).keep (hb35.block g (H3.out.2.2.2.own g hg).lt), fun q hq => (H3.out.2.2.2.rows q hq).keep fun g hg => hb35.block g ((H3.out.2.2.2.rows q hq).2 g hg).lt⟩
  have HTT : Hid (∀ (i : Nat) (r : List Int), Q[i]? = some r → ∃ gt gq cq gm q2 cq2, gT = some gt ∧ gM = some gm ∧ w5.cell? ⟨gt, i, none⟩ = some (.slice (adr (some gq)) r.length cq) ∧ w5.cell? ⟨gm, i, none⟩ = some (.slice (adr q2) r.length cq2) ∧ NdR w5 (some gq) cq r ∧ NdR w5 q2 cq2 r) := fun i r hr => by
    have hi := (List.getElem?_eq_some_iff.1 hr).1
    rw [← hQ, List.getElem?_map] at hr
    obtain ⟨q, hq, e⟩ := Option.map_eq_some_iff.1 hr
    have hr2 : (T2.map fun q : Hd => q.2.2)[i]? = some r := by rw [hQQ, ← hQ, List.getElem?_map, hq, ← e]; rfl
    rw [List.getElem?_map] at hr2
    obtain ⟨q', hq', e'⟩ := Option.map_eq_some_iff.1 hr2
    obtain ⟨gt, rfl⟩ : ∃ g, gT = some g := by
      cases gT with
      | some g => exact ⟨g, rfl⟩
      | none => have := (keepT.nil rfl).1; rw [this] at hq; simp at hq
    obtain ⟨gm, rfl⟩ : ∃ g, gM = some g := by
      cases gM with
      | some g => exact ⟨g, rfl⟩
      | none => have := (hM3.nil rfl).1; rw [this] at hq'; simp at hq'
    have hrow := keepT.rows q (List.mem_of_getElem? hq)
    have hrow2 := hM3.rows q' (List.mem_of_getElem? hq')
    rw [e] at hrow
    rw [e'] at hrow2
    have hne := (hPQ.ne r (by rw [← hQ]; rw [← e]; exact List.mem_map_of_mem (List.mem_of_getElem? hq))).1
    obtain ⟨gq, hgq⟩ : ∃ g, q.1 = some g := by
      cases h : q.1 with
      | some g => exact ⟨g, rfl⟩
      | none => exact absurd (hrow.1 h).1 hne
    have c1 : w5.cell? ⟨gt, i, none⟩ = some (.slice (adr q.1) q.2.2.length q.2.1) := (keepT.own gt rfl).cell (by simp [pv, hq])
    have c2 : w5.cell? ⟨gm, i, none⟩ = some (.slice (adr q'.1) q'.2.2.length q'.2.1) := (hM3.own gm rfl).cell (by simp [pv, hq'])
    rw [e, hgq] at c1
    rw [e'] at c2
    rw [hgq] at hrow
    exact ⟨gt, gq, q.2.1, gm, q'.1, q'.2.1, rfl, rfl, c1, c2, hrow, hrow2⟩
  have H5 : Hid (Below w2.heap.size w2 w5) := belT H3.out.1 hb35
  have HQR : Hid (Q.length ≤ 4096 ∧ ∀ r ∈ Q, r ≠ [] ∧ r.length ≤ 4096) := ⟨Nat.le_trans hPQ.num HNL.out.1, fun r hr => ⟨(hPQ.ne r hr).1, Nat.le_trans (hPQ.ne r hr).2.1 HNL.out.1⟩⟩
  have HNB : Hid (∀ W : World, Below w5.heap.size w5 W → Below w.heap.size w W) := fun W hW => belT H2.out (belT H5.out hW)
  rw [hTl2, hTl]
  clear hM1 hM2 hM3 hb5 hQQ hQ hTl hTl2 hb35 keepT HPT2 H3 H4 hPQ
  have H0 : Hid (PtS w5 (Q.take 0).flatten none 0 w5) := (⟨⟨fun _ => ⟨by simp, rfl⟩, fun g hg => by cases hg⟩, (fun g hg => by cases hg), Below.refl _ _⟩ : RfI w5 _ none 0 w5)
  go_wp2_with fail
  go_loopw [9, 10, 11, 12] (fun v9 v10 v11 _ wr => ∃ (i m : Nat) (ga : Option Nat) (ca : Nat), v11 = .int .i64 i ∧ i ≤ Q.length ∧ v9 = .slice (adr ga) m ca ∧ v10 = .bool (Sp.sg E (Q.take i)) ∧ Hid (m = (Q.take i).flatten.length) ∧ Hid (PtS w5 (Q.take i).flatten ga ca wr)) (fun _ _ v11 _ _ => Q.length - (intOf v11).toNat)
  case atStart => exact ⟨0, 0, none, 0, rfl, Nat.zero_le _, rfl, rfl, rfl, H0.out⟩
  case round =>
    as_aux_lemma =>
    clear H0
    obtain ⟨i, m, ga, ca, rfl, hi, rfl, rfl, HMM, HS⟩ := hrel
    by_cases hlt : i < Q.length
    · have hltz : (i : Int) < (Q.length : Int) := by omega
      have hqz : (Q.length : Int) ≤ 4096 := by have := HQR.out.1; omega
      obtain ⟨r, hr⟩ : ∃ r, Q[i]? = some r := ⟨_, List.getElem?_eq_getElem hlt⟩
      obtain ⟨hrne, hrl⟩ := HQR.out.2 r (List.mem_of_getElem? hr)
      obtain ⟨gt, gq, cq, gm, q2, cq2, rfl, rfl, k1, k2, n1, n2⟩ := HTT.out i r hr
      have hbw : Below w5.heap.size w5 wr := HS.out.bel
      have kT : wr.cell? ⟨gt, i, none⟩ = some (.slice (adr (some gq)) r.length cq) := by rw [World.cell?_of_block (w := w5) (hbw.block _ (World.block_lt_of_cell? _ _ k1))]; exact k1
      have kM : wr.cell? ⟨gm, i, none⟩ = some (.slice (adr q2) r.length cq2) := by rw [World.cell?_of_block (w := w5) (hbw.block _ (World.block_lt_of_cell? _ _ k2))]; exact k2
      have n1' : NdR wr (some gq) cq r := n1.keep fun g hg => hbw.block g (n1.2 g hg).lt
      have n2' : NdR wr q2 cq2 r := n2.keep fun g hg => hbw.block g (n2.2 g hg).lt
      obtain ⟨g8, c8, w8, hap, hn8, hb8, hg8⟩ := appCopy (some gq) cq r wr.drew (n1'.keep fun _ _ => rfl) hrne hrl 22
      have HCP : Hid (NdR w8 (some g8) c8 r ∧ Below wr.drew.heap.size wr.drew w8 ∧ wr.drew.heap.size ≤ g8) := ⟨hn8, hb8, hg8⟩
      have HSA : Hid (Calls Tryz.prog 17 #[.slice (some ⟨g8, 0, none⟩) r.length c8, .slice (adr q2) r.length cq2] w8 fun e w' => e = .returned (.bool true) ∧ Below wr.drew.heap.size w8 w' ∧ ∀ k, k < w8.heap.size → some g8 ≠ some k → w'.heap[k]? = w8.heap[k]?) := same_any wr.drew.heap.size (some g8) q2 c8 cq2 r w8 hn8 (n2'.keep fun g hg => hb8.block g (n2'.2 g hg).lt) (fun g hg => by injection hg with hg; omega) hb8.size (by omega)
      have hkeep : ∀ (W W' : World), (∀ k, k < W.heap.size → W'.heap[k]? = W.heap[k]?) → (W.cell? ⟨gt, i, none⟩ = some (.slice (adr (some gq)) r.length cq) ∧ W.cell? ⟨gm, i, none⟩ = some (.slice (adr q2) r.length cq2)) → (W'.cell? ⟨gt, i, none⟩ = some (.slice (adr (some gq)) r.length cq) ∧ W'.cell? ⟨gm, i, none⟩ = some (.slice (adr q2) r.length cq2)) := fun W W' hk h => by
        refine ⟨?_, ?_⟩
        · rw [World.cell?_of_block (w := W) (hk _ (World.block_lt_of_cell? _ _ h.1))]; exact h.1
        · rw [World.cell?_of_block (w := W) (hk _ (World.block_lt_of_cell? _ _ h.2))]; exact h.2
      have ead : adr (some gt) = some ⟨gt, 0, none⟩ := rfl
      have eam : adr (some gm) = some ⟨gm, 0, none⟩ := rfl
      have eaq : adr (some gq) = some ⟨gq, 0, none⟩ := rfl
      obtain ⟨y, hy⟩ : ∃ y, r[0]? = some y := ⟨_, List.getElem?_eq_getElem (List.length_pos_iff.2 hrne)⟩
      have hrp : 0 < r.length := List.length_pos_iff.2 hrne
      have HR5 : Hid (NdR w5 (some gq) cq r ∧ w5.cell? ⟨gt, i, none⟩ = some (.slice (adr (some gq)) r.length cq) ∧ r[0]? = some y ∧ Q[i]? = some r) := ⟨n1, k1, hy, hr⟩
      clear k1 k2 n1 n2 n1' n2' hn8 hb8 hg8 hy hr
      have hlz : ¬ (r = []) := hrne
      have hge1 : decide ((Q.length : Int) ≤ (i : Int)) = false := by rw [decide_eq_false_iff_not]; omega
      have hge2 : ¬ ((Q.length : Int) ≤ (i : Int)) := by omega
      have hge3 : ¬ (Q.length ≤ i) := by omega
      have hge4 : decide (Q.length ≤ i) = false := by rw [decide_eq_false_iff_not]; omega
      have hl0 : ((r.length : Int) == 0) = false := by simpa using hrne
      go_wp2_with fail
      refine wp_region_mark (fun Z => Z.cell? ⟨gt, i, none⟩ = some (.slice (adr (some gq)) r.length cq) ∧ Z.cell? ⟨gm, i, none⟩ = some (.slice (adr q2) r.length cq2)) 23 (by kernel_rfl) ?_
      have hHeld : (fun Z : World => Z.cell? ⟨gt, i, none⟩ = some (.slice (adr (some gq)) r.length cq) ∧ Z.cell? ⟨gm, i, none⟩ = some (.slice (adr q2) r.length cq2)) wr.drew := ⟨kT, kM⟩
      dsimp only at hHeld
      refine tkF (i := 0) (v := ?_) rfl (by kernel_rfl) (by rfl) ?_ (.inr (by assumption)) ?_
      rotate_left
      · intro Z hSw; go_simp; try (with_reducible rfl)
      simp only [Act.put, lsA, lsB, lsC]
      refine tkF (i := 1) (v := ?_) rfl (by kernel_rfl) (by rfl) ?_ (.inr (by assumption)) ?_
      rotate_left
      · intro Z hSw; go_simp; try (with_reducible rfl)
      simp only [Act.put, lsA, lsB, lsC]
      refine tkF (i := 2) (v := ?_) rfl (by kernel_rfl) (by rfl) ?_ (.inr (by assumption)) ?_
      rotate_left
      · intro Z hSw; go_simp; try (with_reducible rfl)
      simp only [Act.put, lsA, lsB, lsC]
      refine tkF (i := 3) (v := ?_) rfl (by kernel_rfl) (by rfl) ?_ (.inr (by assumption)) ?_
      rotate_left
      · intro Z hSw; go_simp; try (with_reducible rfl)
      simp only [Act.put, lsA, lsB, lsC]
      refine tkF (i := 4) (v := ?_) rfl (by kernel_rfl) (by rfl) ?_ (.inr (by assumption)) ?_
      rotate_left
      · intro Z hSw; go_simp; try (with_reducible rfl)
      simp only [Act.put, lsA, lsB, lsC]
      refine tkF (i := 6) (v := ?_) rfl (by kernel_rfl) (by rfl) ?_ (.inr (by assumption)) ?_
      rotate_left
      · intro Z hSw; go_simp; try (with_reducible rfl)
      simp only [Act.put, lsA, lsB, lsC]
      refine tkF (i := 7) (v := ?_) rfl (by kernel_rfl) (by rfl) ?_ (.inr (by assumption)) ?_
      rotate_left
      · intro Z hSw; go_simp; try (with_reducible rfl)
      simp only [Act.put, lsA, lsB, lsC]
      refine tkF (i := 8) (v := ?_) rfl (by kernel_rfl) (by rfl) ?_ (.inr (by assumption)) ?_
      rotate_left
      · intro Z hSw; go_simp; try (with_reducible rfl)
      simp only [Act.put, lsA, lsB, lsC]
      refine tkM (i := 9) (v := ?_) [22, 18, 17, 16, 15, 10] rfl (by kernel_rfl) (by rfl) ?_ (by assumption) ?_
      rotate_left
      · intro Z hSw; (try dsimp only at hSw); go_simp; try (with_reducible rfl)
      simp only [Act.put, lsA, lsB, lsC]
      refine tkF (i := 11) (v := ?_) rfl (by kernel_rfl) (by rfl) ?_ (.inr (by assumption)) ?_
      rotate_left
      · intro Z hSw; go_simp; try (with_reducible rfl)
      simp only [Act.put, lsA, lsB, lsC]
      refine tkF (i := 12) (v := ?_) rfl (by kernel_rfl) (by rfl) ?_ (.inr (by assumption)) ?_
      rotate_left
      · intro Z hSw; go_simp; try (with_reducible rfl)
      simp only [Act.put, lsA, lsB, lsC]
      refine tkF (i := 13) (v := ?_) rfl (by kernel_rfl) (by rfl) ?_ (.inr (by assumption)) ?_
      rotate_left
      · intro Z hSw; go_simp; try (with_reducible rfl)
      simp only [Act.put, lsA, lsB, lsC]
      refine tkM (i := 14) (v := ?_) [22, 18, 17, 16, 15] rfl (by kernel_rfl) (by rfl) ?_ (by assumption) ?_
      rotate_left
      · intro Z hSw; (try dsimp only at hSw); go_simp; try (with_reducible rfl)
      simp only [Act.put, lsA, lsB, lsC]
      refine tkO (i := 5) (by kernel_rfl) rfl (fun K0 hK => ?_)
      go_simp
      have hh : (fun Z : World => Z.cell? ⟨gt, i, none⟩ = some (.slice (adr (some gq)) r.length cq) ∧ Z.cell? ⟨gm, i, none⟩ = some (.slice (adr q2) r.length cq2)) (wr.drew.alloc (.cells #[] 25)) := hkeep wr.drew _ (Below.heap_alloc wr.drew _) hHeld
      refine hK.out _ _ (.inr hh) ?_
      clear hK K0 hHeld hh
      refine tkO (i := 10) (by kernel_rfl) rfl (fun K0 hK => ?_)
      refine step_ranW (by rfl) _ _ 22 22 (by rfl) _ _ _ (by rfl) (by rfl) hap ?_
      have hHeld := hkeep wr.drew w8 (fun k hk => HCP.out.2.1.block k hk) ⟨kT, kM⟩
      refine hK.out _ _ (.inr hHeld) ?_
      clear hK K0 hap
      refine tkO (i := 15) (by kernel_rfl) rfl (fun K0 hK => ?_)
      go_simp
      refine HSA.out.mono ?_
      rintro e w9 ⟨rfl, hb9, _⟩
      have hh : (fun Z : World => Z.cell? ⟨gt, i, none⟩ = some (.slice (adr (some gq)) r.length cq) ∧ Z.cell? ⟨gm, i, none⟩ = some (.slice (adr q2) r.length cq2)) w9 := hkeep wr.drew w9 (fun k hk => (hb9.block k hk).trans (HCP.out.2.1.block k hk)) ⟨kT, kM⟩
      have HB9 : Hid (Below wr.heap.size wr w9) := (Below.refl _ _).drew.trans (⟨hb9.os.trans HCP.out.2.1.os, hb9.tape.trans HCP.out.2.1.tape, hb9.output.trans HCP.out.2.1.output, Nat.le_trans HCP.out.2.1.size hb9.size, fun k hk => (hb9.block k hk).trans (HCP.out.2.1.block k hk)⟩ : Below wr.heap.size wr.drew w9)
      clear hb9 hHeld HCP HSA
      have hHeld := hh
      dsimp only at hHeld
      clear hh
      go_wp2_with fail
      refine hK.out _ _ (.inr hHeld) ?_
      clear hK K0
      refine tkF (i := 16) (v := ?_) rfl (by kernel_rfl) (by rfl) ?_ (.inr (by assumption)) ?_
      rotate_left
      · intro Z hSw; go_simp; try (with_reducible rfl)
      simp only [Act.put, lsA, lsB, lsC]
      refine tkF (i := 17) (v := ?_) rfl (by kernel_rfl) (by rfl) ?_ (.inr (by assumption)) ?_
      rotate_left
      · intro Z hSw; go_simp; try (with_reducible rfl)
      simp only [Act.put, lsA, lsB, lsC]
      refine tkF (i := 18) (v := ?_) rfl (by kernel_rfl) (by rfl) ?_ (.inr (by assumption)) ?_
      rotate_left
      · intro Z hSw; go_simp; try (with_reducible rfl)
      simp only [Act.put, lsA, lsB, lsC]
      refine tkF (i := 19) (v := ?_) rfl (by kernel_rfl) (by rfl) ?_ (.inr (by assumption)) ?_
      rotate_left
      · intro Z hSw; go_simp; try (with_reducible rfl)
      simp only [Act.put, lsA, lsB, lsC]
      refine tkF (i := 20) (v := ?_) rfl (by kernel_rfl) (by rfl) ?_ (.inr (by assumption)) ?_
      rotate_left
      · intro Z hSw; go_simp; try (with_reducible rfl)
      simp only [Act.put, lsA, lsB, lsC]
      refine tkF (i := 21) (v := ?_) rfl (by kernel_rfl) (by rfl) ?_ (.inr (by assumption)) ?_
      rotate_left
      · intro Z hSw; go_simp; try (with_reducible rfl)
      simp only [Act.put, lsA, lsB, lsC]
      refine tkM (i := 22) (v := ?_) [] rfl (by kernel_rfl) (by rfl) ?_ (by assumption) ?_
      rotate_left
      · intro Z hSw; (try dsimp only at hSw); go_simp; try (with_reducible rfl)
      simp only [Act.put, lsA, lsB, lsC]
      refine tkO (i := 23) (by kernel_rfl) rfl (fun K0 hK => ?_)
      go_simp
      refine hK.out _ _ (.inl (by kernel_rfl)) ?_
      clear hK K0
      refine tkF (i := 24) (v := ?_) rfl (by kernel_rfl) (by rfl) ?_ (.inl (by kernel_rfl)) ?_
      rotate_left
      · intro Z hSw; go_simp; try (with_reducible rfl)
      simp only [Act.put, lsA, lsB, lsC]
      refine tkF (i := 25) (v := ?_) rfl (by kernel_rfl) (by rfl) ?_ (.inl (by kernel_rfl)) ?_
      rotate_left
      · intro Z hSw; go_simp; try (with_reducible rfl)
      simp only [Act.put, lsA, lsB, lsC]
      refine wpAnyM_done (by kernel_rfl) ?_ _
      have hb59 : Below w5.heap.size w5 w9 := HS.out.bel.trans (HB9.out.mono HS.out.bel.size)
      have kT9 : w9.cell? ⟨gt, i, none⟩ = some (.slice (adr (some gq)) r.length cq) := by rw [World.cell?_of_block (w := w5) (hb59.block _ (World.block_lt_of_cell? _ _ HR5.out.2.1))]; exact HR5.out.2.1
      have n9 : NdR w9 (some gq) cq r := HR5.out.1.keep fun g hg => hb59.block g (HR5.out.1.2 g hg).lt
      have ky9 : w9.cell? ⟨gq, 0, none⟩ = some (.int .u64 y) := by
        obtain ⟨g, e, h⟩ := n9.at_ HR5.out.2.2.1
        injection e with e; subst e; exact h
      have HS9 : Hid (PtS w5 (Q.take i).flatten ga ca w9) := ⟨HS.out.row.keep fun g hg => HB9.out.block g (HS.out.row.2 g hg).lt, HS.out.lo, hb59⟩
      have hge5 : (r.length == 0) = false := by simpa using hrne
      clear HS HB9 hb59 n9 kT kM
      go_wp2_with fail
      have hgy : r.getD 0 0 = y := by rw [List.getD_eq_getElem?_getD, HR5.out.2.2.1]; rfl
      have HSG : Hid (Sp.sg E (Q.take (i + 1)) = (Sp.sg E (Q.take i) && (decide (r.length = 1) && !decide ((y, y) ∈ E)))) := by
        have := sg_snoc (E := E) HR5.out.2.2.2
        rw [hgy] at this
        exact this
      clear hgy
      have HEG : Hid (∀ W : World, Below w9.heap.size w9 W → Calls Tryz.prog 13 #[.slice a2 E.length cap2, .int .u64 y, .int .u64 y] W fun e w' => e = .returned (.bool (decide ((y, y) ∈ E))) ∧ Below W.heap.size W w') := fun W hW => HED.out W y y (HNB.out W (belT HS9.out.bel hW))
      obtain ⟨s0, hs0⟩ : ∃ s, Sp.sg E (Q.take i) = s := ⟨_, rfl⟩
      rw [hs0] at HSG ⊢
      go_cut [10] from 41 to 126 (fun v10 wc => v10 = .bool (Sp.sg E (Q.take (i + 1))) ∧ Hid (PtS w5 (Q.take i).flatten ga ca wc))
      case first =>
        clear hs0
        cases s0 with
        | false =>
          refine wp_region_mark (fun Z => Z.cell? ⟨gt, i, none⟩ = some (.slice (adr (some gq)) r.length cq) ∧ Z.cell? ⟨gq, 0, none⟩ = some (.int .u64 y)) 26 (by kernel_rfl) ?_
          have hHeld : (fun Z : World => Z.cell? ⟨gt, i, none⟩ = some (.slice (adr (some gq)) r.length cq) ∧ Z.cell? ⟨gq, 0, none⟩ = some (.int .u64 y)) w9.drew := ⟨kT9, ky9⟩
          dsimp only at hHeld
          refine tkF (i := 0) (v := ?_) rfl (by kernel_rfl) (by rfl) ?_ (.inr (by assumption)) ?_
          rotate_left
          · intro Z hSw; go_simp; try (with_reducible rfl)
          simp only [Act.put, lsA, lsB, lsC]
          refine tkF (i := 1) (v := ?_) rfl (by kernel_rfl) (by rfl) ?_ (.inr (by assumption)) ?_
          rotate_left
          · intro Z hSw; go_simp; try (with_reducible rfl)
          simp only [Act.put, lsA, lsB, lsC]
          refine tkS (i := 2) rfl (by kernel_rfl) (by rfl) (.inr (by assumption)) ?_
          simp only [Act.put, lsA, lsB, lsC]
          refine tkS (i := 3) rfl (by kernel_rfl) (by rfl) (.inr (by assumption)) ?_
          simp only [Act.put, lsA, lsB, lsC]
          refine tkS (i := 4) rfl (by kernel_rfl) (by rfl) (.inr (by assumption)) ?_
          simp only [Act.put, lsA, lsB, lsC]
          refine tkS (i := 5) rfl (by kernel_rfl) (by rfl) (.inr (by assumption)) ?_
          simp only [Act.put, lsA, lsB, lsC]
          refine tkS (i := 6) rfl (by kernel_rfl) (by rfl) (.inr (by assumption)) ?_
          simp only [Act.put, lsA, lsB, lsC]
          refine tkS (i := 7) rfl (by kernel_rfl) (by rfl) (.inr (by assumption)) ?_
          simp only [Act.put, lsA, lsB, lsC]
          refine tkF (i := 8) (v := ?_) rfl (by kernel_rfl) (by rfl) ?_ (.inr (by assumption)) ?_
          rotate_left
          · intro Z hSw; go_simp; try (with_reducible rfl)
          simp only [Act.put, lsA, lsB, lsC]
          refine tkF (i := 9) (v := ?_) rfl (by kernel_rfl) (by rfl) ?_ (.inr (by assumption)) ?_
          rotate_left
          · intro Z hSw; go_simp; try (with_reducible rfl)
          simp only [Act.put, lsA, lsB, lsC]
          refine tkS (i := 10) rfl (by kernel_rfl) (by rfl) (.inr (by assumption)) ?_
          simp only [Act.put, lsA, lsB, lsC]
          refine tkS (i := 11) rfl (by kernel_rfl) (by rfl) (.inr (by assumption)) ?_
          simp only [Act.put, lsA, lsB, lsC]
          refine tkS (i := 12) rfl (by kernel_rfl) (by rfl) (.inr (by assumption)) ?_
          simp only [Act.put, lsA, lsB, lsC]
          refine tkS (i := 13) rfl (by kernel_rfl) (by rfl) (.inr (by assumption)) ?_
          simp only [Act.put, lsA, lsB, lsC]
          refine tkS (i := 14) rfl (by kernel_rfl) (by rfl) (.inr (by assumption)) ?_
          simp only [Act.put, lsA, lsB, lsC]
          refine tkS (i := 15) rfl (by kernel_rfl) (by rfl) (.inr (by assumption)) ?_
          simp only [Act.put, lsA, lsB, lsC]
          refine tkS (i := 16) rfl (by kernel_rfl) (by rfl) (.inr (by assumption)) ?_
          simp only [Act.put, lsA, lsB, lsC]
          refine tkS (i := 17) rfl (by kernel_rfl) (by rfl) (.inr (by assumption)) ?_
          simp only [Act.put, lsA, lsB, lsC]
          refine tkS (i := 18) rfl (by kernel_rfl) (by rfl) (.inr (by assumption)) ?_
          simp only [Act.put, lsA, lsB, lsC]
          refine tkS (i := 19) rfl (by kernel_rfl) (by rfl) (.inr (by assumption)) ?_
          simp only [Act.put, lsA, lsB, lsC]
          refine tkS (i := 20) rfl (by kernel_rfl) (by rfl) (.inr (by assumption)) ?_
          simp only [Act.put, lsA, lsB, lsC]
          refine tkS (i := 21) rfl (by kernel_rfl) (by rfl) (.inr (by assumption)) ?_
          simp only [Act.put, lsA, lsB, lsC]
          refine tkS (i := 22) rfl (by kernel_rfl) (by rfl) (.inr (by assumption)) ?_
          simp only [Act.put, lsA, lsB, lsC]
          refine tkS (i := 23) rfl (by kernel_rfl) (by rfl) (.inr (by assumption)) ?_
          simp only [Act.put, lsA, lsB, lsC]
          refine tkS (i := 24) rfl (by kernel_rfl) (by rfl) (.inr (by assumption)) ?_
          simp only [Act.put, lsA, lsB, lsC]
          refine tkF (i := 25) (v := ?_) rfl (by kernel_rfl) (by rfl) ?_ (.inr (by assumption)) ?_
          rotate_left
          · intro Z hSw; go_simp; try (with_reducible rfl)
          simp only [Act.put, lsA, lsB, lsC]
          refine tkO (i := 26) (by kernel_rfl) rfl (fun K0 hK => ?_)
          go_simp
          refine hK.out _ _ (.inl (by kernel_rfl)) ?_
          clear hK K0
          refine wpAnyM_done (by kernel_rfl) ?_ _
          go_wp2_with fail
          go_meet
          exact ⟨by rw [HSG.out]; rfl, ⟨HS9.out.row.keep (fun _ _ => rfl), HS9.out.lo, HS9.out.bel.drew⟩⟩
        | true =>
          by_cases hr1 : r.length = 1
          · have hcq1 : (0 : Int) < 1 := by decide
            rw [hr1] at kT9
            have HSG2 : Hid (Sp.sg E (Q.take (i + 1)) = !decide ((y, y) ∈ E)) := by show _ = _; rw [HSG.out, decide_eq_true hr1]; simp
            clear HSG hge5 hge1 hge2 hge3 hge4 hl0 hlz
            refine wp_region_mark (fun Z => Z.cell? ⟨gt, i, none⟩ = some (.slice (adr (some gq)) 1 cq) ∧ Z.cell? ⟨gq, 0, none⟩ = some (.int .u64 y)) 26 (by kernel_rfl) ?_
            have hHeld : (fun Z : World => Z.cell? ⟨gt, i, none⟩ = some (.slice (adr (some gq)) 1 cq) ∧ Z.cell? ⟨gq, 0, none⟩ = some (.int .u64 y)) w9.drew := ⟨kT9, ky9⟩
            dsimp only at hHeld
            refine tkF (i := 0) (v := ?_) rfl (by kernel_rfl) (by rfl) ?_ (.inr (by assumption)) ?_
            rotate_left
            · intro Z hSw; go_simp; try (with_reducible rfl)
            simp only [Act.put, lsA, lsB, lsC]
            refine tkF (i := 1) (v := ?_) rfl (by kernel_rfl) (by rfl) ?_ (.inr (by assumption)) ?_
            rotate_left
            · intro Z hSw; go_simp; try (with_reducible rfl)
            simp only [Act.put, lsA, lsB, lsC]
            refine tkF (i := 2) (v := ?_) rfl (by kernel_rfl) (by rfl) ?_ (.inr (by assumption)) ?_
            rotate_left
            · intro Z hSw; go_simp; try (with_reducible rfl)
            simp only [Act.put, lsA, lsB, lsC]
            refine tkF (i := 3) (v := ?_) rfl (by kernel_rfl) (by rfl) ?_ (.inr (by assumption)) ?_
            rotate_left
            · intro Z hSw; go_simp; try (with_reducible rfl)
            simp only [Act.put, lsA, lsB, lsC]
            refine tkF (i := 4) (v := ?_) rfl (by kernel_rfl) (by rfl) ?_ (.inr (by assumption)) ?_
            rotate_left
            · intro Z hSw; go_simp; try (with_reducible rfl)
            simp only [Act.put, lsA, lsB, lsC]
            refine tkM (i := 5) (v := ?_) [25, 9, 8, 7, 6] rfl (by kernel_rfl) (by rfl) ?_ (by assumption) ?_
            rotate_left
            · intro Z hSw; (try dsimp only at hSw); go_simp; try (with_reducible rfl)
            simp only [Act.put, lsA, lsB, lsC]
            refine tkF (i := 6) (v := ?_) rfl (by kernel_rfl) (by rfl) ?_ (.inr (by assumption)) ?_
            rotate_left
            · intro Z hSw; go_simp; try (with_reducible rfl)
            simp only [Act.put, lsA, lsB, lsC]
            refine tkF (i := 7) (v := ?_) rfl (by kernel_rfl) (by rfl) ?_ (.inr (by assumption)) ?_
            rotate_left
            · intro Z hSw; go_simp; try (with_reducible rfl)
            simp only [Act.put, lsA, lsB, lsC]
            refine tkF (i := 8) (v := ?_) rfl (by kernel_rfl) (by rfl) ?_ (.inr (by assumption)) ?_
            rotate_left
            · intro Z hSw; go_simp; try (with_reducible rfl)
            simp only [Act.put, lsA, lsB, lsC]
            refine tkF (i := 9) (v := ?_) rfl (by kernel_rfl) (by rfl) ?_ (.inr (by assumption)) ?_
            rotate_left
            · intro Z hSw; go_simp; try (with_reducible rfl)
            simp only [Act.put, lsA, lsB, lsC]
            refine tkF (i := 10) (v := ?_) rfl (by kernel_rfl) (by rfl) ?_ (.inr (by assumption)) ?_
            rotate_left
            · intro Z hSw; go_simp; try (with_reducible rfl)
            simp only [Act.put, lsA, lsB, lsC]
            refine tkF (i := 11) (v := ?_) rfl (by kernel_rfl) (by rfl) ?_ (.inr (by assumption)) ?_
            rotate_left
            · intro Z hSw; go_simp; try (with_reducible rfl)
            simp only [Act.put, lsA, lsB, lsC]
            refine tkF (i := 12) (v := ?_) rfl (by kernel_rfl) (by rfl) ?_ (.inr (by assumption)) ?_
            rotate_left
            · intro Z hSw; go_simp; try (with_reducible rfl)
            simp only [Act.put, lsA, lsB, lsC]
            refine tkF (i := 13) (v := ?_) rfl (by kernel_rfl) (by rfl) ?_ (.inr (by assumption)) ?_
            rotate_left
            · intro Z hSw; go_simp; try (with_reducible rfl)
            simp only [Act.put, lsA, lsB, lsC]
            refine tkM (i := 14) (v := ?_) [25, 24, 23, 16, 15] rfl (by kernel_rfl) (by rfl) ?_ (by assumption) ?_
            rotate_left
            · intro Z hSw; (try dsimp only at hSw); go_simp; try (with_reducible rfl)
            simp only [Act.put, lsA, lsB, lsC]
            refine tkF (i := 15) (v := ?_) rfl (by kernel_rfl) (by rfl) ?_ (.inr (by assumption)) ?_
            rotate_left
            · intro Z hSw; go_simp; try (with_reducible rfl)
            simp only [Act.put, lsA, lsB, lsC]
            refine tkM (i := 16) (v := ?_) [25, 24, 23] rfl (by kernel_rfl) (by rfl) ?_ (by assumption) ?_
            rotate_left
            · intro Z hSw; (try dsimp only at hSw); go_simp; try (with_reducible rfl)
            simp only [Act.put, lsA, lsB, lsC]
            refine tkF (i := 17) (v := ?_) rfl (by kernel_rfl) (by rfl) ?_ (.inr (by assumption)) ?_
            rotate_left
            · intro Z hSw; go_simp; try (with_reducible rfl)
            simp only [Act.put, lsA, lsB, lsC]
            refine tkF (i := 18) (v := ?_) rfl (by kernel_rfl) (by rfl) ?_ (.inr (by assumption)) ?_
            rotate_left
            · intro Z hSw; go_simp; try (with_reducible rfl)
            simp only [Act.put, lsA, lsB, lsC]
            refine tkF (i := 19) (v := ?_) rfl (by kernel_rfl) (by rfl) ?_ (.inr (by assumption)) ?_
            rotate_left
            · intro Z hSw; go_simp; try (with_reducible rfl)
            simp only [Act.put, lsA, lsB, lsC]
            refine tkM (i := 20) (v := ?_) [25, 24, 23, 22, 21] rfl (by kernel_rfl) (by rfl) ?_ (by assumption) ?_
            rotate_left
            · intro Z hSw; (try dsimp only at hSw); go_simp; try (with_reducible rfl)
            simp only [Act.put, lsA, lsB, lsC]
            refine tkF (i := 21) (v := ?_) rfl (by kernel_rfl) (by rfl) ?_ (.inr (by assumption)) ?_
            rotate_left
            · intro Z hSw; go_simp; try (with_reducible rfl)
            simp only [Act.put, lsA, lsB, lsC]
            refine tkM (i := 22) (v := ?_) [25, 24, 23] rfl (by kernel_rfl) (by rfl) ?_ (by assumption) ?_
            rotate_left
            · intro Z hSw; (try dsimp only at hSw); go_simp; try (with_reducible rfl)
            simp only [Act.put, lsA, lsB, lsC]
            refine tkO (i := 23) (by kernel_rfl) rfl (fun K0 hK => ?_)
            go_simp
            refine (HEG.out w9.drew (Below.refl _ _).drew).mono ?_
            rintro e w10 ⟨rfl, hb10⟩
            have hh : (fun Z : World => Z.cell? ⟨gt, i, none⟩ = some (.slice (adr (some gq)) 1 cq) ∧ Z.cell? ⟨gq, 0, none⟩ = some (.int .u64 y)) w10 := by
              refine ⟨?_, ?_⟩
              · rw [World.cell?_of_block (w := w9.drew) (hb10.block _ (World.block_lt_of_cell? _ _ hHeld.1))]; exact hHeld.1
              · rw [World.cell?_of_block (w := w9.drew) (hb10.block _ (World.block_lt_of_cell? _ _ hHeld.2))]; exact hHeld.2
            have HB10 : Hid (Below w9.heap.size w9 w10) := belT (Below.refl _ _).drew hb10
            clear hb10 hHeld HEG
            have hHeld := hh
            dsimp only at hHeld
            clear hh
            go_wp2_with fail
            refine hK.out _ _ (.inr hHeld) ?_
            clear hK K0
            refine tkF (i := 24) (v := ?_) rfl (by kernel_rfl) (by rfl) ?_ (.inr (by assumption)) ?_
            rotate_left
            · intro Z hSw; go_simp; try (with_reducible rfl)
            simp only [Act.put, lsA, lsB, lsC]
            refine tkF (i := 25) (v := ?_) rfl (by kernel_rfl) (by rfl) ?_ (.inr (by assumption)) ?_
            rotate_left
            · intro Z hSw; go_simp; try (with_reducible rfl)
            simp only [Act.put, lsA, lsB, lsC]
            refine tkO (i := 26) (by kernel_rfl) rfl (fun K0 hK => ?_)
            go_simp
            refine hK.out _ _ (.inl (by kernel_rfl)) ?_
            clear hK K0
            refine wpAnyM_done (by kernel_rfl) ?_ _
            go_wp2_with fail
            go_meet
            exact ⟨by rw [HSG2.out], ⟨HS9.out.row.keep (fun g hg => HB10.out.block g (HS9.out.row.2 g hg).lt), HS9.out.lo, HS9.out.bel.trans (HB10.out.mono HS9.out.bel.size)⟩⟩
          · have hr1b : ((r.length : Int) == 1) = false := by simp; omega
            have HSG2 : Hid (Sp.sg E (Q.take (i + 1)) = false) := by show _ = _; rw [HSG.out, decide_eq_false hr1]; simp
            refine wp_region_mark (fun Z => Z.cell? ⟨gt, i, none⟩ = some (.slice (adr (some gq)) r.length cq) ∧ Z.cell? ⟨gq, 0, none⟩ = some (.int .u64 y)) 26 (by kernel_rfl) ?_
            have hHeld : (fun Z : World => Z.cell? ⟨gt, i, none⟩ = some (.slice (adr (some gq)) r.length cq) ∧ Z.cell? ⟨gq, 0, none⟩ = some (.int .u64 y)) w9.drew := ⟨kT9, ky9⟩
            dsimp only at hHeld
            refine tkF (i := 0) (v := ?_) rfl (by kernel_rfl) (by rfl) ?_ (.inr (by assumption)) ?_
            rotate_left
            · intro Z hSw; go_simp; try (with_reducible rfl)
            simp only [Act.put, lsA, lsB, lsC]
            refine tkF (i := 1) (v := ?_) rfl (by kernel_rfl) (by rfl) ?_ (.inr (by assumption)) ?_
            rotate_left
            · intro Z hSw; go_simp; try (with_reducible rfl)
            simp only [Act.put, lsA, lsB, lsC]
            refine tkF (i := 2) (v := ?_) rfl (by kernel_rfl) (by rfl) ?_ (.inr (by assumption)) ?_
            rotate_left
            · intro Z hSw; go_simp; try (with_reducible rfl)
            simp only [Act.put, lsA, lsB, lsC]
            refine tkF (i := 3) (v := ?_) rfl (by kernel_rfl) (by rfl) ?_ (.inr (by assumption)) ?_
            rotate_left
            · intro Z hSw; go_simp; try (with_reducible rfl)
            simp only [Act.put, lsA, lsB, lsC]
            refine tkF (i := 4) (v := ?_) rfl (by kernel_rfl) (by rfl) ?_ (.inr (by assumption)) ?_
            rotate_left
            · intro Z hSw; go_simp; try (with_reducible rfl)
            simp only [Act.put, lsA, lsB, lsC]
            refine tkM (i := 5) (v := ?_) [25, 9, 8, 7, 6] rfl (by kernel_rfl) (by rfl) ?_ (by assumption) ?_
            rotate_left
            · intro Z hSw; (try dsimp only at hSw); go_simp; try (with_reducible rfl)
            simp only [Act.put, lsA, lsB, lsC]
            refine tkF (i := 6) (v := ?_) rfl (by kernel_rfl) (by rfl) ?_ (.inr (by assumption)) ?_
            rotate_left
            · intro Z hSw; go_simp; try (with_reducible rfl)
            simp only [Act.put, lsA, lsB, lsC]
            refine tkF (i := 7) (v := ?_) rfl (by kernel_rfl) (by rfl) ?_ (.inr (by assumption)) ?_
            rotate_left
            · intro Z hSw; go_simp; try (with_reducible rfl)
            simp only [Act.put, lsA, lsB, lsC]
            refine tkF (i := 8) (v := ?_) rfl (by kernel_rfl) (by rfl) ?_ (.inr (by assumption)) ?_
            rotate_left
            · intro Z hSw; go_simp; try (with_reducible rfl)
            simp only [Act.put, lsA, lsB, lsC]
            refine tkF (i := 9) (v := ?_) rfl (by kernel_rfl) (by rfl) ?_ (.inr (by assumption)) ?_
            rotate_left
            · intro Z hSw; go_simp; try (with_reducible rfl)
            simp only [Act.put, lsA, lsB, lsC]
            refine tkS (i := 10) rfl (by kernel_rfl) (by rfl) (.inr (by assumption)) ?_
            simp only [Act.put, lsA, lsB, lsC]
            refine tkS (i := 11) rfl (by kernel_rfl) (by rfl) (.inr (by assumption)) ?_
            simp only [Act.put, lsA, lsB, lsC]
            refine tkS (i := 12) rfl (by kernel_rfl) (by rfl) (.inr (by assumption)) ?_
            simp only [Act.put, lsA, lsB, lsC]
            refine tkS (i := 13) rfl (by kernel_rfl) (by rfl) (.inr (by assumption)) ?_
            simp only [Act.put, lsA, lsB, lsC]
            refine tkS (i := 14) rfl (by kernel_rfl) (by rfl) (.inr (by assumption)) ?_
            simp only [Act.put, lsA, lsB, lsC]
            refine tkS (i := 15) rfl (by kernel_rfl) (by rfl) (.inr (by assumption)) ?_
            simp only [Act.put, lsA, lsB, lsC]
            refine tkS (i := 16) rfl (by kernel_rfl) (by rfl) (.inr (by assumption)) ?_
            simp only [Act.put, lsA, lsB, lsC]
            refine tkS (i := 17) rfl (by kernel_rfl) (by rfl) (.inr (by assumption)) ?_
            simp only [Act.put, lsA, lsB, lsC]
            refine tkS (i := 18) rfl (by kernel_rfl) (by rfl) (.inr (by assumption)) ?_
            simp only [Act.put, lsA, lsB, lsC]
            refine tkS (i := 19) rfl (by kernel_rfl) (by rfl) (.inr (by assumption)) ?_
            simp only [Act.put, lsA, lsB, lsC]
            refine tkS (i := 20) rfl (by kernel_rfl) (by rfl) (.inr (by assumption)) ?_
            simp only [Act.put, lsA, lsB, lsC]
            refine tkS (i := 21) rfl (by kernel_rfl) (by rfl) (.inr (by assumption)) ?_
            simp only [Act.put, lsA, lsB, lsC]
            refine tkS (i := 22) rfl (by kernel_rfl) (by rfl) (.inr (by assumption)) ?_
            simp only [Act.put, lsA, lsB, lsC]
            refine tkS (i := 23) rfl (by kernel_rfl) (by rfl) (.inr (by assumption)) ?_
            simp only [Act.put, lsA, lsB, lsC]
            refine tkS (i := 24) rfl (by kernel_rfl) (by rfl) (.inr (by assumption)) ?_
            simp only [Act.put, lsA, lsB, lsC]
            refine tkF (i := 25) (v := ?_) rfl (by kernel_rfl) (by rfl) ?_ (.inr (by assumption)) ?_
            rotate_left
            · intro Z hSw; go_simp; try (with_reducible rfl)
            simp only [Act.put, lsA, lsB, lsC]
            refine tkO (i := 26) (by kernel_rfl) rfl (fun K0 hK => ?_)
            go_simp
            refine hK.out _ _ (.inl (by kernel_rfl)) ?_
            clear hK K0
            refine wpAnyM_done (by kernel_rfl) ?_ _
            go_wp2_with fail
            go_meet
            exact ⟨by rw [HSG2.out], ⟨HS9.out.row.keep (fun _ _ => rfl), HS9.out.lo, HS9.out.bel.drew⟩⟩
      case rest =>
        obtain ⟨rfl, HC⟩ := hcut
        have HAL : Hid (∀ k, k ≤ r.length → ((Q.take i).flatten ++ r.take k).length ≤ 4096) := fun k hk => by
          have h1 := HPQ.out.len
          rw [flat_split HR5.out.2.2.2] at h1
          have h2 := HNL.out.1
          simp only [List.length_append, List.length_take] at h1 ⊢
          omega
        clear hs0 HSG HEG HS9 kT9 ky9 hkeep hge1 hge2 hge3 hge4 hge5 hl0
        go_wp2_with fail
        go_loopw [9, 12] (fun v9 v12 wr => ∃ (k m : Nat) (ga : Option Nat) (ca : Nat), v12 = .int .i64 k ∧ k ≤ r.length ∧ v9 = .slice (adr ga) m ca ∧ Hid (m = ((Q.take i).flatten ++ r.take k).length) ∧ Hid (PtS w5 ((Q.take i).flatten ++ r.take k) ga ca wr)) (fun _ v12 _ => r.length - (intOf v12).toNat)
        case atStart => exact ⟨0, m, ga, ca, rfl, Nat.zero_le _, rfl, by show m = _; rw [HMM.out]; simp, by rw [List.take_zero, List.append_nil]; exact HC.out⟩
        case round =>
          as_aux_lemma =>
          clear HC HMM
          obtain ⟨k, m', ga', ca', rfl, hk, rfl, HM2, HS2⟩ := hrel
          have hbw : Below w5.heap.size w5 wr := HS2.out.bel
          have kT : wr.cell? ⟨gt, i, none⟩ = some (.slice (adr (some gq)) r.length cq) := by rw [World.cell?_of_block (w := w5) (hbw.block _ (World.block_lt_of_cell? _ _ HR5.out.2.1))]; exact HR5.out.2.1
          by_cases hkl : k < r.length
          · have hkz : (k : Int) < (r.length : Int) := by omega
            obtain ⟨x, hx⟩ : ∃ x, r[k]? = some x := ⟨_, List.getElem?_eq_getElem hkl⟩
            have kx : wr.cell? ⟨gq, k, none⟩ = some (.int .u64 x) := by
              obtain ⟨g, e, h⟩ := (HR5.out.1.keep fun g hg => hbw.block g (HR5.out.1.2 g hg).lt).at_ hx
              injection e with e; subst e; exact h
            have hno : x ∉ (Q.take i).flatten ++ r.take k := not_yet (by rw [← flat_split HR5.out.2.2.2]; exact HPQ.out.nd) hx
            have HHA : Hid (Calls Tryz.prog 12 #[.slice (adr ga') m' ca', .int .u64 x] wr fun e w' => e = .returned (.bool false) ∧ Below wr.heap.size wr w') := by
              have := rHas_any (adr ga') ca' _ x wr HS2.out.row.rfv (by have := HAL.out k hk; omega)
              rwa [decide_eq_false hno, ← HM2.out] at this
            have HX : Hid (r[k]? = some x) := hx
            clear hno hx hbw
            go_wp2_with fail
            refine HHA.out.mono ?_
            rintro e w10 ⟨rfl, hb10⟩
            have kT10 : w10.cell? ⟨gt, i, none⟩ = some (.slice (adr (some gq)) r.length cq) := by rw [World.cell?_of_block (w := wr) (hb10.block _ (World.block_lt_of_cell? _ _ kT))]; exact kT
            have kx10 : w10.cell? ⟨gq, k, none⟩ = some (.int .u64 x) := by rw [World.cell?_of_block (w := wr) (hb10.block _ (World.block_lt_of_cell? _ _ kx))]; exact kx
            have HS3 : RfI w5 ((Q.take i).flatten ++ r.take k) ga' ca' w10 := ⟨HS2.out.row.keep fun g hg => hb10.block g (HS2.out.row.2 g hg).lt, HS2.out.lo, HS2.out.bel.trans (hb10.mono HS2.out.bel.size)⟩
            obtain ⟨g', c', w11, hap, ho4, hgr4, hor4⟩ := appR ga' ca' ((Q.take i).flatten ++ r.take k) w10 HS3.row x (by have := HAL.out k hk; omega) 22
            have HT : Hid ((Q.take i).flatten ++ r.take (k + 1) = ((Q.take i).flatten ++ r.take k) ++ [x]) := by
              show _ = _
              rw [List.take_add_one, HX.out]; simp
            have HF2 : Hid (RfI w5 (((Q.take i).flatten ++ r.take k) ++ [x]) (some g') c' w11) := HS3.put ho4 hgr4 hor4
            have hmL := HM2.out
            rw [← hmL] at hap
            have HM3 : Hid (m' + 1 = ((Q.take i).flatten ++ r.take (k + 1)).length) := by show _ = _; rw [HT.out, List.length_append, ← hmL]; rfl
            clear ho4 hgr4 hor4 hmL hb10 kT kx HHA HS2 HS3
            go_wp2_with (at_builtin; refine wpList_ranS _ rfl _ _ 22 22 rfl _ _ _ _ rfl rfl hap ?_)
            go_roundw
            case rel => exact ⟨k + 1, m' + 1, some g', c', by go_num, by omega, rfl, HM3.out, by rw [HT.out]; exact HF2.out⟩
            case measure => simp [intOf]; omega
          · obtain rfl : r.length = k := by omega
            have htk : (Q.take i).flatten ++ r.take r.length = (Q.take (i + 1)).flatten := by rw [take_flat HR5.out.2.2.2, List.take_length]
            rw [htk] at HM2 HS2
            clear htk hbw
            go_wp2_with fail
            go_roundw
            case rel =>
              (repeat apply Exists.intro)
              exact ⟨⟨i + 1, m', ga', ca', by go_num, by omega, rfl, rfl, HM2.out, HS2.out⟩, rfl⟩
            case measure => simp [intOf]; omega
    · obtain rfl : i = Q.length := by omega
      rw [List.take_length] at HMM HS ⊢
      have hb5w : Below w5.heap.size w5 wr := HS.out.bel
      have HOQ : Hid (Calls Tryz.prog 18 #[.pointer (some ⟨gb, 0, none⟩)] wr (OrD N E wr)) := HOR.out wr (belT H5.out hb5w)
      have HSW : Hid (Below w2.heap.size w2 wr) := belT H5.out hb5w
      have hml : m = N.length := by rw [HMM.out]; exact HPQ.out.len
      have HSG : Hid (Sp.sg E Q = true ↔ ¬ Cyc (Sp.nx N E) N.length) := sg_iff HPQ.out
      obtain ⟨s0, hs0⟩ : ∃ s, Sp.sg E Q = s := ⟨_, rfl⟩
      rw [hs0] at HSG ⊢
      rw [hml]
      clear hb5w HMM HS hml hs0 HTT HQR HPQ HOR H5 HNB
      go_wp2_with fail
      refine HOQ.out.mono ?_
      rintro e w6 ⟨o, og, oc, oe, rfl, ho1, hb6, ho2, ho3, ho4, ho5, ho6⟩
      have H6 : Hid (Below w2.heap.size w2 w6 ∧ NdR w6 og oc o) := ⟨belT HSW.out hb6, ho1⟩
      have HO : Hid ((Cyc (Sp.nx N E) N.length → oe = 141 ∧ o = []) ∧ (¬ Cyc (Sp.nx N E) N.length → oe = 0) ∧ (oe = 0 → o.length = N.length) ∧ ∀ (i k : Nat) (x y : Int), k ≤ i → o[i]? = some x → o[k]? = some y → (x, y) ∉ E) := ⟨ho2, ho3, ho5, ho6⟩
      have hol := ho4
      clear ho1 hb6 ho2 ho3 ho4 ho5 ho6 HOQ HSW
      go_wp2_with fail
      refine (HRI.out w6 H6.out.1).mono ?_
      rintro e w7 ⟨gr, cr, rfl, hnr, _, hb7⟩
      have H7 : Hid (Below w2.heap.size w2 w7 ∧ NdR w7 og oc o ∧ NdR w7 gr cr R) := ⟨belT H6.out.1 hb7, H6.out.2.keep fun g hg => hb7.block g (H6.out.2.2 g hg).lt, hnr⟩
      have hse : s0 = (oe == 0) := by
        by_cases hc : Cyc (Sp.nx N E) N.length
        · have h1 := (HO.out.1 hc).1
          have h2 : s0 = false := by cases s0 with | false => rfl | true => exact absurd hc (HSG.out.1 rfl)
          rw [h1, h2]; rfl
        · have h1 := HO.out.2.1 hc
          have h2 : s0 = true := HSG.out.2 hc
          rw [h1, h2]; rfl
      have hq2 : (decide (0 < R.length) == s0) = false := by
        by_cases hc : Cyc (Sp.nx N E) N.length
        · have h1 := HRO.out.1.2 hc
          have h2 : s0 = false := by cases s0 with | false => rfl | true => exact absurd hc (HSG.out.1 rfl)
          rw [decide_eq_true h1, h2]; rfl
        · have h1 : ¬ 0 < R.length := fun h => hc (HRO.out.1.1 h)
          have h2 : s0 = true := HSG.out.2 hc
          rw [decide_eq_false h1, h2]; rfl
      have hq3 : ¬ (decide (0 < R.length) = s0) := fun h => by rw [h] at hq2; simp at hq2
      subst hse
      have hnn : N.length = nodes.length := HNL.out.2.1
      have HRX : Hid (∀ (i : Nat) (x y : Int), R[i]? = some x → R[(i + 1) % R.length]? = some y → (x, y) ∈ E ∧ x ∉ R.take i) := HRO.out.2.2
      have hrl : R.length ≤ 4096 := Nat.le_trans HRO.out.2.1 HNL.out.1
      have HED7 : Hid (∀ (W : World) (u v : Int), Below w7.heap.size w7 W → Calls Tryz.prog 13 #[.slice a2 E.length cap2, .int .u64 u, .int .u64 v] W fun e w' => e = .returned (.bool (decide ((u, v) ∈ E))) ∧ Below W.heap.size W w') := fun W u v hW => HED.out W u v (belT H2.out (belT H7.out.1 hW))
      rw [hnn]
      clear hb7 hnr H6 HRI HRO HSG HED HNL
      go_wp2_with fail
      clear hq2 hq3
      go_loopw [17] (fun v17 wr => ∃ i : Nat, v17 = .int .i64 i ∧ i ≤ R.length ∧ Hid (Below w7.heap.size w7 wr)) (fun v17 _ => R.length - (intOf v17).toNat)
      case atStart => exact ⟨0, rfl, Nat.zero_le _, Below.refl _ _⟩
      case round =>
        as_aux_lemma =>
        obtain ⟨i, rfl, hi, HS⟩ := hrel
        by_cases hlt : i < R.length
        · have hltz : (i : Int) < (R.length : Int) := by omega
          have hm : (i + 1) % R.length < R.length := Nat.mod_lt _ (by omega)
          obtain ⟨y, hy⟩ : ∃ e, R[(i + 1) % R.length]? = some e := ⟨_, List.getElem?_eq_getElem hm⟩
          obtain ⟨x, hx⟩ : ∃ e, R[i]? = some e := ⟨_, List.getElem?_eq_getElem hlt⟩
          obtain ⟨hxy, hno⟩ := HRX.out i x y hx hy
          obtain ⟨m, hmd⟩ : ∃ m, (i + 1) % R.length = m := ⟨_, rfl⟩
          rw [hmd] at hm hy
          have nR : NdR wr gr cr R := H7.out.2.2.keep fun g hg => HS.out.block g (H7.out.2.2.2 g hg).lt
          obtain ⟨g, rfl, kx⟩ := nR.at_ hx
          have ky : wr.cell? ⟨g, m, none⟩ = some (.int .u64 y) := by
            obtain ⟨g2, e, h⟩ := nR.at_ hy
            injection e with e; subst e; exact h
          have ead : adr (some g) = some ⟨g, 0, none⟩ := rfl
          have hmz : Int.tmod ((i : Int) + 1) (R.length : Int) = (m : Int) := by
            rw [← hmd, Int.tmod_eq_emod_of_nonneg (by omega)]; simp [Int.natCast_emod]
          have hrz : ¬ (R = []) := by intro e; rw [e] at hlt; simp at hlt
          have hwi : IntKind.i64.wrap ((i : Int) + 1) = (i : Int) + 1 := Go.wrap_small _ (by omega) (by omega)
          have hmz2 : (m : Int) < (R.length : Int) := by omega
          have HC1 : Hid (∀ W8 : World, Below wr.heap.size wr W8 → Calls Tryz.prog 13 #[.slice a2 E.length cap2, .int .u64 x, .int .u64 y] W8 fun e w' => e = .returned (.bool true) ∧ Below W8.heap.size W8 w') := fun W8 hW8 => by
            have := HED7.out W8 x y (belT HS.out hW8)
            rwa [decide_eq_true hxy] at this
          have HC2 : Hid (∀ W8 : World, Below wr.heap.size wr W8 → Calls Tryz.prog 12 #[.slice (some ⟨g, 0, none⟩) i cr, .int .u64 x] W8 fun e w' => e = .returned (.bool false) ∧ Below W8.heap.size W8 w') := fun W8 hW8 => by
            have := rHas_any (some ⟨g, 0, none⟩) cr (R.take i) x W8 ((nR.rfv.keep hW8).take i) (by rw [List.length_take]; omega)
            rwa [decide_eq_false hno, List.length_take, Nat.min_eq_left (by omega)] at this
          have hcw : R.length ≤ cr := by
            obtain ⟨cur, _, h2, _⟩ := (nR.2 g rfl).blk
            simpa using h2
          have hcwz : (i : Int) ≤ (cr : Int) := by omega
          have hil : i ≤ cr := by omega
          clear hx hy hxy hno hm hmd nR
          go_wp2_with fail
          refine wp_region_mark (fun Z => Z.cell? ⟨g, i, none⟩ = some (.int .u64 x) ∧ Z.cell? ⟨g, m, none⟩ = some (.int .u64 y)) 23 (by kernel_rfl) ?_
          have hHeld : (fun Z : World => Z.cell? ⟨g, i, none⟩ = some (.int .u64 x) ∧ Z.cell? ⟨g, m, none⟩ = some (.int .u64 y)) wr.drew := ⟨kx, ky⟩
          dsimp only at hHeld
          refine tkF (i := 0) (v := ?_) rfl (by kernel_rfl) (by rfl) ?_ (.inr (by assumption)) ?_
          rotate_left
          · intro Z hSw; go_simp; try (with_reducible rfl)
          simp only [Act.put, lsA, lsB, lsC]
          refine tkF (i := 1) (v := ?_) rfl (by kernel_rfl) (by rfl) ?_ (.inr (by assumption)) ?_
          rotate_left
          · intro Z hSw; go_simp; try (with_reducible rfl)
          simp only [Act.put, lsA, lsB, lsC]
          refine tkF (i := 2) (v := ?_) rfl (by kernel_rfl) (by rfl) ?_ (.inr (by assumption)) ?_
          rotate_left
          · intro Z hSw; go_simp; try (with_reducible rfl)
          simp only [Act.put, lsA, lsB, lsC]
          refine tkF (i := 3) (v := ?_) rfl (by kernel_rfl) (by rfl) ?_ (.inr (by assumption)) ?_
          rotate_left
          · intro Z hSw; go_simp; try (with_reducible rfl)
          simp only [Act.put, lsA, lsB, lsC]
          refine tkM (i := 4) (v := ?_) [15, 14, 13] rfl (by kernel_rfl) (by rfl) ?_ (by assumption) ?_
          rotate_left
          · intro Z hSw; (try dsimp only at hSw); go_simp; try (with_reducible rfl)
          simp only [Act.put, lsA, lsB, lsC]
          refine tkF (i := 5) (v := ?_) rfl (by kernel_rfl) (by rfl) ?_ (.inr (by assumption)) ?_
          rotate_left
          · intro Z hSw; go_simp; try (with_reducible rfl)
          simp only [Act.put, lsA, lsB, lsC]
          refine tkF (i := 6) (v := ?_) rfl (by kernel_rfl) (by rfl) ?_ (.inr (by assumption)) ?_
          rotate_left
          · intro Z hSw; go_simp; try (with_reducible rfl)
          simp only [Act.put, lsA, lsB, lsC]
          refine tkF (i := 7) (v := ?_) rfl (by kernel_rfl) (by rfl) ?_ (.inr (by assumption)) ?_
          rotate_left
          · intro Z hSw; go_simp; try (with_reducible rfl)
          simp only [Act.put, lsA, lsB, lsC]
          refine tkF (i := 8) (v := ?_) rfl (by kernel_rfl) (by rfl) ?_ (.inr (by assumption)) ?_
          rotate_left
          · intro Z hSw; go_simp; try (with_reducible rfl)
          simp only [Act.put, lsA, lsB, lsC]
          refine tkF (i := 9) (v := ?_) rfl (by kernel_rfl) (by rfl) ?_ (.inr (by assumption)) ?_
          rotate_left
          · intro Z hSw; go_simp; try (with_reducible rfl)
          simp only [Act.put, lsA, lsB, lsC]
          refine tkF (i := 10) (v := ?_) rfl (by kernel_rfl) (by rfl) ?_ (.inr (by assumption)) ?_
          rotate_left
          · intro Z hSw; go_simp; try (with_reducible rfl)
          simp only [Act.put, lsA, lsB, lsC]
          refine tkF (i := 11) (v := ?_) rfl (by kernel_rfl) (by rfl) ?_ (.inr (by assumption)) ?_
          rotate_left
          · intro Z hSw; go_simp; try (with_reducible rfl)
          simp only [Act.put, lsA, lsB, lsC]
          refine tkM (i := 12) (v := ?_) [15, 14, 13] rfl (by kernel_rfl) (by rfl) ?_ (by assumption) ?_
          rotate_left
          · intro Z hSw; (try dsimp only at hSw); go_simp; try (with_reducible rfl)
          simp only [Act.put, lsA, lsB, lsC]
          refine tkO (i := 13) (by kernel_rfl) rfl (fun K0 hK => ?_)
          go_simp
          refine (HC1.out wr.drew (Below.refl _ _).drew).mono ?_
          rintro e w11 ⟨rfl, hb11⟩
          have hh : (fun Z : World => Z.cell? ⟨g, i, none⟩ = some (.int .u64 x) ∧ Z.cell? ⟨g, m, none⟩ = some (.int .u64 y)) w11 := by
            refine ⟨?_, ?_⟩
            · rw [World.cell?_of_block (w := wr.drew) (hb11.block _ (World.block_lt_of_cell? _ _ hHeld.1))]; exact hHeld.1
            · rw [World.cell?_of_block (w := wr.drew) (hb11.block _ (World.block_lt_of_cell? _ _ hHeld.2))]; exact hHeld.2
          have H13 : Hid (Below wr.heap.size wr w11) := belT (Below.refl _ _).drew hb11
          clear hb11 hHeld kx ky
          have hHeld := hh
          dsimp only at hHeld
          clear hh
          go_wp2_with fail
          refine hK.out _ _ (.inr hHeld) ?_
          clear hK K0
          refine tkF (i := 14) (v := ?_) rfl (by kernel_rfl) (by rfl) ?_ (.inr (by assumption)) ?_
          rotate_left
          · intro Z hSw; go_simp; try (with_reducible rfl)
          simp only [Act.put, lsA, lsB, lsC]
          refine tkF (i := 15) (v := ?_) rfl (by kernel_rfl) (by rfl) ?_ (.inr (by assumption)) ?_
          rotate_left
          · intro Z hSw; go_simp; try (with_reducible rfl)
          simp only [Act.put, lsA, lsB, lsC]
          refine tkF (i := 16) (v := ?_) rfl (by kernel_rfl) (by rfl) ?_ (.inr (by assumption)) ?_
          rotate_left
          · intro Z hSw; go_simp; try (with_reducible rfl)
          simp only [Act.put, lsA, lsB, lsC]
          refine tkF (i := 17) (v := ?_) rfl (by kernel_rfl) (by rfl) ?_ (.inr (by assumption)) ?_
          rotate_left
          · intro Z hSw; go_simp; try (with_reducible rfl)
          simp only [Act.put, lsA, lsB, lsC]
          refine tkF (i := 18) (v := ?_) rfl (by kernel_rfl) (by rfl) ?_ (.inr (by assumption)) ?_
          rotate_left
          · intro Z hSw; go_simp; try (with_reducible rfl)
          simp only [Act.put, lsA, lsB, lsC]
          refine tkF (i := 19) (v := ?_) rfl (by kernel_rfl) (by rfl) ?_ (.inr (by assumption)) ?_
          rotate_left
          · intro Z hSw; go_simp; try (with_reducible rfl)
          simp only [Act.put, lsA, lsB, lsC]
          refine tkF (i := 20) (v := ?_) rfl (by kernel_rfl) (by rfl) ?_ (.inr (by assumption)) ?_
          rotate_left
          · intro Z hSw; go_simp; try (with_reducible rfl)
          simp only [Act.put, lsA, lsB, lsC]
          refine tkF (i := 21) (v := ?_) rfl (by kernel_rfl) (by rfl) ?_ (.inr (by assumption)) ?_
          rotate_left
          · intro Z hSw; go_simp; try (with_reducible rfl)
          simp only [Act.put, lsA, lsB, lsC]
          refine tkM (i := 22) (v := ?_) [] rfl (by kernel_rfl) (by rfl) ?_ (by assumption) ?_
          rotate_left
          · intro Z hSw; (try dsimp only at hSw); go_simp; try (with_reducible rfl)
          simp only [Act.put, lsA, lsB, lsC]
          refine tkO (i := 23) (by kernel_rfl) rfl (fun K0 hK => ?_)
          go_simp
          refine (HC2.out w11 H13.out).mono ?_
          rintro e w12 ⟨rfl, hb12⟩
          have H14 : Hid (Below w7.heap.size w7 w12) := belT HS.out (belT H13.out hb12)
          clear hb12 hHeld H13 HC1 HC2 HS
          go_wp2_with fail
          refine hK.out _ _ (.inl (by kernel_rfl)) ?_
          clear hK K0
          refine tkF (i := 24) (v := ?_) rfl (by kernel_rfl) (by rfl) ?_ (.inl (by kernel_rfl)) ?_
          rotate_left
          · intro Z hSw; go_simp; try (with_reducible rfl)
          simp only [Act.put, lsA, lsB, lsC]
          refine wpAnyM_done (by kernel_rfl) ?_ _
          go_wp2_with fail
          rw [← ead]
          go_roundw
          case rel => exact ⟨i + 1, by go_num, by omega, H14.out⟩
          case measure => simp [intOf]; omega
        · obtain rfl : R.length = i := by omega
          have HF : Hid (Below w.heap.size w wr) := belT H2.out (belT H7.out.1 HS.out)
          by_cases hoe : oe = 0
          · subst hoe
            have hol2 := HO.out.2.2.1 rfl
            have hfin : ((o.length : Int) == (nodes.length : Int)) = true := by rw [beq_iff_eq]; omega
            have HON : Hid (∀ (i k : Nat) (x y : Int), k ≤ i → o[i]? = some x → o[k]? = some y → (x, y) ∉ E) := HO.out.2.2.2
            have HFW : Hid (∀ W : World, Below w7.heap.size w7 W → Below w.heap.size w W) := fun W hW => belT H2.out (belT H7.out.1 hW)
            clear hol2 HO HF
            go_wp2_with fail
            rw [show ((0 : Int) == 0) = true from rfl]
            go_loopw [18, 19] (fun v18 _ wr => ∃ i : Nat, v18 = .int .i64 i ∧ i ≤ o.length ∧ Hid (Below w7.heap.size w7 wr)) (fun v18 _ _ => o.length - (intOf v18).toNat)
            case atStart => exact ⟨0, rfl, Nat.zero_le _, HS.out⟩
            case round =>
              as_aux_lemma =>
              clear HS
              obtain ⟨i, rfl, hi, HS⟩ := hrel
              by_cases hlt : i < o.length
              · have hltz : (i : Int) < (o.length : Int) := by omega
                obtain ⟨x, hx⟩ : ∃ e, o[i]? = some e := ⟨_, List.getElem?_eq_getElem hlt⟩
                have HX : Hid (o[i]? = some x) := hx
                clear hx
                go_wp2_with fail
                go_loopw [19] (fun v19 wr => ∃ k : Nat, v19 = .int .i64 k ∧ k ≤ i + 1 ∧ Hid (Below w7.heap.size w7 wr)) (fun v19 _ => i + 1 - (intOf v19).toNat)
                case atStart => exact ⟨0, rfl, Nat.zero_le _, HS.out⟩
                case round =>
                  as_aux_lemma =>
                  clear HS
                  obtain ⟨k, rfl, hk, HS⟩ := hrel
                  by_cases hki : k ≤ i
                  · have hkz : (k : Int) ≤ (i : Int) := by omega
                    have hkz2 : (k : Int) < (o.length : Int) := by omega
                    obtain ⟨y, hy⟩ : ∃ e, o[k]? = some e := ⟨_, List.getElem?_eq_getElem (by omega)⟩
                    have nO : NdR wr og oc o := H7.out.2.1.keep fun g hg => HS.out.block g (H7.out.2.1.2 g hg).lt
                    obtain ⟨g, rfl, kx⟩ := nO.at_ HX.out
                    have ky : wr.cell? ⟨g, k, none⟩ = some (.int .u64 y) := by
                      obtain ⟨g2, e, h⟩ := nO.at_ hy
                      injection e with e; subst e; exact h
                    have ead : adr (some g) = some ⟨g, 0, none⟩ := rfl
                    have hno := HON.out i k x y hki HX.out hy
                    have HC1 : Hid (∀ W8 : World, Below wr.heap.size wr W8 → Calls Tryz.prog 13 #[.slice a2 E.length cap2, .int .u64 x, .int .u64 y] W8 fun e w' => e = .returned (.bool false) ∧ Below W8.heap.size W8 w') := fun W8 hW8 => by
                      have := HED7.out W8 x y (belT HS.out hW8)
                      rwa [decide_eq_false hno] at this
                    clear hy hno nO
                    go_wp2_with fail
                    refine wp_region_mark (fun Z => Z.cell? ⟨g, i, none⟩ = some (.int .u64 x) ∧ Z.cell? ⟨g, k, none⟩ = some (.int .u64 y)) 9 (by kernel_rfl) ?_
                    have hHeld : (fun Z : World => Z.cell? ⟨g, i, none⟩ = some (.int .u64 x) ∧ Z.cell? ⟨g, k, none⟩ = some (.int .u64 y)) wr.drew := ⟨kx, ky⟩
                    dsimp only at hHeld
                    refine tkF (i := 0) (v := ?_) rfl (by kernel_rfl) (by rfl) ?_ (.inr (by assumption)) ?_
                    rotate_left
                    · intro Z hSw; go_simp; try (with_reducible rfl)
                    simp only [Act.put, lsA, lsB, lsC]
                    refine tkF (i := 1) (v := ?_) rfl (by kernel_rfl) (by rfl) ?_ (.inr (by assumption)) ?_
                    rotate_left
                    · intro Z hSw; go_simp; try (with_reducible rfl)
                    simp only [Act.put, lsA, lsB, lsC]
                    refine tkF (i := 2) (v := ?_) rfl (by kernel_rfl) (by rfl) ?_ (.inr (by assumption)) ?_
                    rotate_left
                    · intro Z hSw; go_simp; try (with_reducible rfl)
                    simp only [Act.put, lsA, lsB, lsC]
                    refine tkF (i := 3) (v := ?_) rfl (by kernel_rfl) (by rfl) ?_ (.inr (by assumption)) ?_
                    rotate_left
                    · intro Z hSw; go_simp; try (with_reducible rfl)
                    simp only [Act.put, lsA, lsB, lsC]
                    refine tkM (i := 4) (v := ?_) [] rfl (by kernel_rfl) (by rfl) ?_ (by assumption) ?_
                    rotate_left
                    · intro Z hSw; (try dsimp only at hSw); go_simp; try (with_reducible rfl)
                    simp only [Act.put, lsA, lsB, lsC]
                    refine tkF (i := 5) (v := ?_) rfl (by kernel_rfl) (by rfl) ?_ (.inr (by assumption)) ?_
                    rotate_left
                    · intro Z hSw; go_simp; try (with_reducible rfl)
                    simp only [Act.put, lsA, lsB, lsC]
                    refine tkF (i := 6) (v := ?_) rfl (by kernel_rfl) (by rfl) ?_ (.inr (by assumption)) ?_
                    rotate_left
                    · intro Z hSw; go_simp; try (with_reducible rfl)
                    simp only [Act.put, lsA, lsB, lsC]
                    refine tkF (i := 7) (v := ?_) rfl (by kernel_rfl) (by rfl) ?_ (.inr (by assumption)) ?_
                    rotate_left
                    · intro Z hSw; go_simp; try (with_reducible rfl)
                    simp only [Act.put, lsA, lsB, lsC]
                    refine tkM (i := 8) (v := ?_) [] rfl (by kernel_rfl) (by rfl) ?_ (by assumption) ?_
                    rotate_left
                    · intro Z hSw; (try dsimp only at hSw); go_simp; try (with_reducible rfl)
                    simp only [Act.put, lsA, lsB, lsC]
                    refine tkO (i := 9) (by kernel_rfl) rfl (fun K0 hK => ?_)
                    go_simp
                    refine (HC1.out wr.drew (Below.refl _ _).drew).mono ?_
                    rintro e w12 ⟨rfl, hb12⟩
                    have H14 : Hid (Below w7.heap.size w7 w12) := belT HS.out (belT (Below.refl _ _).drew hb12)
                    clear hb12 hHeld HC1 HS kx ky
                    go_wp2_with fail
                    refine hK.out _ _ (.inl (by kernel_rfl)) ?_
                    clear hK K0
                    refine wpAnyM_done (by kernel_rfl) ?_ _
                    go_wp2_with fail
                    rw [← ead]
                    go_roundw
                    case rel => exact ⟨k + 1, by go_num, by omega, H14.out⟩
                    case measure => simp [intOf]; omega
                  · obtain rfl : k = i + 1 := by omega
                    have hkz : ¬ ((i : Int) + 1 ≤ (i : Int)) := by omega
                    go_wp2_with fail
                    go_roundw
                    case rel => exact ⟨i + 1, by go_num, by omega, HS.out⟩
                    case measure => simp [intOf]; omega
              · obtain rfl : o.length = i := by omega
                have HF2 : Hid (Below w.heap.size w wr) := HFW.out wr HS.out
                clear HS HFW
                go_wp2_with fail
                go_ret
                exact ⟨rfl, HF2.out⟩
          · have ho0 : o = [] := (HO.out.1 (Classical.byContradiction fun h => hoe (HO.out.2.1 h))).2
            subst ho0
            have hoeb : (oe == 0) = false := by simpa using hoe
            have hoeb2 : (oe != 0) = true := by simpa using hoe
            clear HS HO
            go_wp2_with fail
            go_ret
            exact ⟨rfl, HF.out⟩
end Go.Proofs.YtikhpbidbcfedaaGreat

