/- tenonref14.Keeper. -/
import Derived.Test.YtilhheianbbbjaaK38
namespace Go.Proofs.Ytilhheianbbbjaa
open Go.RowKit Go.ChangeMaps

def Sp.domB (nx : Nat → List Nat) (L : Nat) (ps : List Nat) (t : Nat) (A : Bf) (k : Nat) : Bool := decide (k ∈ A.ord) && !decide (k = t) && !decide (t ∈ (Bf.all nx (k : Int) L ps).ord)
def Sp.kcB (A R : Bf) (i : Nat) : Bool := decide (i ∈ A.ord) && !decide (i ∈ R.ord)
def Sp.kcn (nx : Nat → List Nat) (L : Nat) (ps : List Nat) (A : Bf) (k : Nat) : Nat := (List.range L).countP (Sp.kcB A (Bf.all nx (k : Int) L ps))
theorem kb_ans {nx : Nat → List Nat} {L : Nat} {ps : List Nat} {t : Nat} (hlt : ∀ i, (nx i).Pairwise (· < ·)) (hb : ∀ i, ∀ x ∈ nx i, x < L) (hs : ∀ x ∈ ps, x < L) (ht : t ∈ (Bf.all nx (-1) L ps).ord) :
    IsK nx ps t (Sp.wy (Bf.all nx (-1) L ps) t) ((Sp.wy (Bf.all nx (-1) L ps) t).length - 1) (Sp.kb (Sp.domB nx L ps t (Bf.all nx (-1) L ps)) (Sp.kcn nx L ps (Bf.all nx (-1) L ps)) L).1 := by
  have H := all_BI (wo := -1) hlt hb hs
  have hW := (chn_way H _ t ht (Nat.le_refl _)).1
  refine kb_isK hW (fun k hk => ?_) (fun s q a b hsq ha hbq hda hdb => ?_)
  · unfold Sp.domB Dom
    simp only [Bool.and_eq_true, decide_eq_true_eq, Bool.not_eq_true', decide_eq_false_iff_not]
    rw [all_rch hlt hb hs, all_rch hlt hb hs]
    exact ⟨fun ⟨⟨h1, h2⟩, h3⟩ => ⟨h2, h1, h3⟩, fun ⟨h1, h2, h3⟩ => ⟨⟨h2, h1⟩, h3⟩⟩
  · obtain ⟨h1, h2, h3⟩ := hW.less hsq ha hbq hda hdb
    unfold Sp.kcn
    refine cnt_lt (fun i hi => ?_) ⟨a, hW.bd a (List.mem_of_getElem? ha), ?_, ?_⟩
    · unfold Sp.kcB at hi ⊢
      simp only [Bool.and_eq_true, decide_eq_true_eq, Bool.not_eq_true', decide_eq_false_iff_not] at hi ⊢
      refine ⟨hi.1, fun h => hi.2 ?_⟩
      rw [all_rch hlt hb hs] at h ⊢
      exact h1 i h
    · unfold Sp.kcB
      simp only [Bool.and_eq_true, decide_eq_true_eq, Bool.not_eq_true', decide_eq_false_iff_not]
      rw [all_rch hlt hb hs, all_rch hlt hb hs]
      exact ⟨hda.2.1, h2⟩
    · unfold Sp.kcB
      have : a ∈ (Bf.all nx (b : Int) L ps).ord := (all_rch hlt hb hs).2 h3
      simp [this]
theorem cP_succ (p : Nat → Bool) (i : Nat) : (List.range (i + 1)).countP p = (List.range i).countP p + if p i = true then 1 else 0 := by
  rw [List.range_succ, List.countP_append, List.countP_singleton]
theorem cP_le (p : Nat → Bool) (i : Nat) : (List.range i).countP p ≤ i := by
  have := List.countP_le_length (p := p) (l := List.range i); simpa using this
theorem kb_bd {dom : Nat → Bool} {c : Nat → Nat} {L : Nat} (hc : ∀ k, c k ≤ L) : ∀ m, -1 ≤ (Sp.kb dom c m).1 ∧ (Sp.kb dom c m).1 < m ∧ (Sp.kb dom c m).2 ≤ L
  | 0 => ⟨by simp [Sp.kb], by simp [Sp.kb], by simp [Sp.kb]⟩
  | m + 1 => by
    have h := kb_bd (dom := dom) hc m
    rw [Sp.kb]; split
    · exact ⟨by simp only; omega, by simp only; omega, hc m⟩
    · exact ⟨h.1, by have := h.2.1; omega, h.2.2⟩

set_option maxRecDepth 100000 in
set_option maxHeartbeats 8000000 in
theorem rKeeper_any (D : Nat → Prop) (gb : Nat) (N : List Int) (nx : Nat → List Nat) (a : Option Addr) (cap : Nat) (l : List Int) (x : Int) (w : World) (hg : RgE w D gb N nx) (hl0 : RefsAt w w.heap.size a l) (hl : l.length * 8 ≤ 140737488355328) (hn : N.length ≤ 4096) (hpw : N.Pairwise (· < ·)) (hb : ∀ i, ∀ x ∈ nx i, x < N.length) (hnl : ∀ p, (nx p).length ≤ 4096) (hlt : ∀ i, (nx i).Pairwise (· < ·)) :
    Calls Try.prog 13 #[.pointer (some ⟨gb, 0, none⟩), .slice a l.length cap, .int .u64 x] w (KrE w N nx l x) := by
  obtain ⟨gn, cn, lo, xb, bl, cp, hG⟩ := hg.gr
  have HG : Hid (GR w gb N nx gn cn lo xb bl cp) := hG
  have HP : Hid (Calls Try.prog 21 #[.pointer (some ⟨gb, 0, none⟩), .slice a l.length cap] w (PlE w N l)) :=
    places_any gb gn cn N a cap l w.heap.size w ⟨hG.c0, hG.nds⟩ hG.lt hpw hn hl0 (Nat.le_refl _) hl
  have HPL : Hid (∀ W : World, Below w.heap.size w W → Calls Try.prog 27 #[.pointer (some ⟨gb, 0, none⟩), .int .u64 x] W fun e w' => e = .returned (.int .i64 (Sp.plc N x)) ∧ w' = W) := fun W hW => place_any gb gn cn N x W ⟨(hG.keep hW).c0, (hG.keep hW).nds⟩ hpw hn
  have HSP : Hid (∀ (ps : List Nat) (wo : Int) (a2 : Option Addr) (c2 : Nat) (W : World), Below w.heap.size w W → InI W a2 ps → (∀ x ∈ ps, x < N.length) → ps.length = l.length → Calls Try.prog 23 #[.pointer (some ⟨gb, 0, none⟩), .slice a2 ps.length c2, .int .i64 wo] W (RchE W N.length (Bf.all nx wo N.length ps))) := fun ps wo a2 c2 W hW hi hp hpl => reach_any gb N nx gn cn lo xb bl cp a2 c2 ps wo W (hG.keep hW) hi hp hb hn (by rw [hpl]; exact hl) hnl
  have HB : Hid ((∀ i, ∀ x ∈ nx i, x < N.length) ∧ ∀ i, (nx i).Pairwise (· < ·)) := ⟨hb, hlt⟩
  clear hg hl0 hG hb hnl hlt
  go_enter Try.func13, Try.ntmps13
  go_wp2_with fail
  refine HP.out.mono ?_
  rintro e w1 ⟨hb1, h⟩
  have HP2 : Hid (Calls Try.prog 27 #[.pointer (some ⟨gb, 0, none⟩), .int .u64 x] w1 fun e w' => e = .returned (.int .i64 (Sp.plc N x)) ∧ w' = w1) := HPL.out w1 hb1
  by_cases hx : x ∈ N
  · obtain ⟨t, hti⟩ : ∃ t, N.idxOf x = t := ⟨_, rfl⟩
    have htl : t < N.length := by rw [← hti]; exact List.idxOf_lt_length_of_mem hx
    have hz : Sp.plc N x = (t : Int) := by unfold Sp.plc; rw [if_pos hx, hti]
    rw [hz] at HP2
    have htz : ¬ ((t : Int) < 0) := by omega
    have htzL : (t : Int) < (N.length : Int) := by omega
    rcases h with ⟨hn0, rfl⟩ | ⟨ps, gs, c, hps, rfl, hnd, hlo⟩
    · have HF : Hid (Below w.heap.size w w1 ∧ KrP N nx l x 0 false 140) := ⟨hb1, .inl ⟨.inl hn0, rfl, rfl, rfl⟩⟩
      clear hb1 hn0
      go_wp2_with fail
      refine HP2.out.mono ?_
      rintro e w' ⟨rfl, rfl⟩
      go_wp2_with fail
      exact bodyPost_ret (v := .tuple #[.int .u64 0, .bool false, .int .i64 140]) (by simp [results, Try.results13, go_sem] <;> rfl) rfl ⟨HF.out.1, _, _, _, rfl, HF.out.2⟩
    · have hplt := pls_lt hps
      have HPS : Hid (Sp.pls N l = some ps ∧ x ∈ N ∧ N.idxOf x = t ∧ Below w.heap.size w w1 ∧ InI w1 (adr gs) ps ∧ (∀ x ∈ ps, x < N.length) ∧ ps.length = l.length) := ⟨hps, hx, hti, hb1, hnd.inI, hplt.1, hplt.2⟩
      have HS2 : Hid (Calls Try.prog 23 #[.pointer (some ⟨gb, 0, none⟩), .slice (adr gs) ps.length c, .int .i64 (-1)] w1 (RchE w1 N.length (Bf.all nx (-1) N.length ps))) := HSP.out ps (-1) (adr gs) c w1 hb1 hnd.inI hplt.1 hplt.2
      have HS3 : Hid (∀ (i : Nat) (W : World), Below w1.heap.size w1 W → Calls Try.prog 23 #[.pointer (some ⟨gb, 0, none⟩), .slice (adr gs) ps.length c, .int .i64 (i : Int)] W (RchE W N.length (Bf.all nx (i : Int) N.length ps))) := fun i W hW => HSP.out ps i (adr gs) c W (belT hb1 hW) (hnd.inI.keep hW) hplt.1 hplt.2
      have HAN : Hid (t ∈ (Bf.all nx (-1) N.length ps).ord → IsK nx ps t (Sp.wy (Bf.all nx (-1) N.length ps) t) ((Sp.wy (Bf.all nx (-1) N.length ps) t).length - 1) (Sp.kb (Sp.domB nx N.length ps t (Bf.all nx (-1) N.length ps)) (Sp.kcn nx N.length ps (Bf.all nx (-1) N.length ps)) N.length).1) := kb_ans HB.out.2 HB.out.1 hplt.1
      clear hb1 hps hnd hlo hplt HP HSP HPL hx hti hz
      obtain ⟨A, hA⟩ : ∃ A, Bf.all nx (-1) N.length ps = A := ⟨_, rfl⟩
      have HA : Hid (Bf.all nx (-1) N.length ps = A) := hA
      rw [hA] at HS2 HAN
      clear hA
      obtain ⟨L, hL⟩ : ∃ L, N.length = L := ⟨_, rfl⟩
      have HL : Hid (N.length = L) := hL
      rw [hL] at HS2 HS3 HAN hn htl htzL
      clear hL
      go_wp2_with fail
      refine HP2.out.mono ?_
      rintro e w' ⟨rfl, rfl⟩
      go_wp2_with fail
      refine HS2.out.mono ?_
      rintro e w2 ⟨ga, rfl, hoa, hga, hb2⟩
      have HA2 : Hid (OwnR w2 4 ga L L (bv (Sp.bls L A)) ∧ Below w'.heap.size w' w2) := ⟨hoa, hb2⟩
      have hct : w2.cell? ⟨ga, t, none⟩ = some (.bool (decide (t ∈ A.ord))) := hoa.cell (by simp [bv, bls_at A htl])
      clear hoa hga hb2 HS2
      by_cases hin : t ∈ A.ord
      · rw [decide_eq_true hin] at hct
        have HFF : Hid (∀ y b, (((Sp.kb (Sp.domB nx L ps t A) (Sp.kcn nx L ps A) L).1 = -1 ∧ y = 0 ∧ b = false) ∨ ∃ k : Nat, (Sp.kb (Sp.domB nx L ps t A) (Sp.kcn nx L ps A) L).1 = k ∧ y = N.getD k 0 ∧ b = true) → KrP N nx l x y b 0) := fun y b h => .inr (.inr ⟨ps, _, HPS.out.1, HPS.out.2.1, by rw [HPS.out.2.2.1, HA.out]; exact hin, by rw [HPS.out.2.2.1, HA.out]; exact HAN.out hin, rfl, h⟩)
        have HDM : Hid (∀ i, Sp.domB nx L ps t A i = (decide (i ∈ A.ord) && !decide (i = t) && !decide (t ∈ (Bf.all nx (i : Int) L ps).ord))) := fun _ => rfl
        have HCN : Hid (∀ i, Sp.kcn nx L ps A i = (List.range L).countP (Sp.kcB A (Bf.all nx (i : Int) L ps))) := fun _ => rfl
        have HKS : Hid (∀ i, Sp.kb (Sp.domB nx L ps t A) (Sp.kcn nx L ps A) (i + 1) = if Sp.domB nx L ps t A i = true ∧ ((Sp.kb (Sp.domB nx L ps t A) (Sp.kcn nx L ps A) i).1 < 0 ∨ Sp.kcn nx L ps A i < (Sp.kb (Sp.domB nx L ps t A) (Sp.kcn nx L ps A) i).2) then ((i : Int), Sp.kcn nx L ps A i) else Sp.kb (Sp.domB nx L ps t A) (Sp.kcn nx L ps A) i) := fun _ => rfl
        have HKB : Hid (∀ i, -1 ≤ (Sp.kb (Sp.domB nx L ps t A) (Sp.kcn nx L ps A) i).1 ∧ (Sp.kb (Sp.domB nx L ps t A) (Sp.kcn nx L ps A) i).1 < i ∧ (Sp.kb (Sp.domB nx L ps t A) (Sp.kcn nx L ps A) i).2 ≤ L) := kb_bd (fun k => cP_le _ _)
        have HK0 : Hid (Sp.kb (Sp.domB nx L ps t A) (Sp.kcn nx L ps A) 0 = (-1, 0)) := rfl
        generalize hKB : Sp.kb (Sp.domB nx L ps t A) (Sp.kcn nx L ps A) = KB at HFF HKS HKB HK0
        clear hKB
        go_wp2_with fail
        go_loopw [13, 14, 15] (fun v13 v14 v15 wr => ∃ (i : Nat) (bs : Int) (ms : Nat), v13 = .int .i64 bs ∧ v14 = .int .i64 (ms : Int) ∧ v15 = .int .i64 (i : Int) ∧ i ≤ L ∧ -1 ≤ bs ∧ bs < i ∧ ms ≤ L ∧ Hid (KB i = (bs, ms)) ∧ Hid (Below w2.heap.size w2 wr)) (fun _ _ v15 _ => L - (intOf v15).toNat)
        case atStart => exact ⟨0, -1, 0, rfl, rfl, rfl, Nat.zero_le _, by omega, by omega, by omega, HK0.out, Below.refl _ _⟩
        case round =>
          obtain ⟨i, bs, ms, rfl, rfl, rfl, hi, hbs, hbi, hms, HE, HBL⟩ := hrel
          have hoa : OwnR wr 4 ga L L (bv (Sp.bls L A)) := HA2.out.1.keep (HBL.out.block ga HA2.out.1.lt)
          by_cases hlt : i < L
          · have hltz : (i : Int) < (L : Int) := by omega
            have hca : wr.cell? ⟨ga, i, none⟩ = some (.bool (decide (i ∈ A.ord))) := hoa.cell (by simp [bv, bls_at A hlt])
            have hKn : KB (i + 1) = if Sp.domB nx L ps t A i = true ∧ ((KB i).1 < 0 ∨ Sp.kcn nx L ps A i < (KB i).2) then ((i : Int), Sp.kcn nx L ps A i) else KB i := HKS.out i
            rw [HDM.out i, HCN.out i, HE.out] at hKn
            by_cases h1 : i ∈ A.ord
            · rw [decide_eq_true h1] at hca
              by_cases h2 : i = t
              · have h2b : ((i : Int) == (t : Int)) = true := by simp [h2]
                have HF : Hid (KB (i + 1) = (bs, ms)) := by show _ = _; rw [hKn, if_neg (by simp [h2])]
                clear hKn hoa h2
                go_wp2_with fail
                go_roundw
                case rel => exact ⟨i + 1, bs, ms, rfl, rfl, by go_num, by omega, by omega, by omega, by omega, HF.out, HBL.out⟩
                case measure => simp [intOf]; omega
              · have h2b : ((i : Int) == (t : Int)) = false := by simp; omega
                obtain ⟨R, hR⟩ : ∃ R, Bf.all nx (i : Int) L ps = R := ⟨_, rfl⟩
                have HSi : Hid (Calls Try.prog 23 #[.pointer (some ⟨gb, 0, none⟩), .slice (adr gs) ps.length c, .int .i64 (i : Int)] wr (RchE wr L R)) := by
                  have := HS3.out i wr (belT HA2.out.2 HBL.out)
                  rw [hR] at this; exact this
                rw [hR] at hKn
                have HKn : Hid (KB (i + 1) = if (decide (i ∈ A.ord) && !decide (i = t) && !decide (t ∈ R.ord)) = true ∧ (bs < 0 ∨ (List.range L).countP (Sp.kcB A R) < ms) then ((i : Int), (List.range L).countP (Sp.kcB A R)) else (bs, ms)) := hKn
                clear hKn hR
                go_wp2_with fail
                refine HSi.out.mono ?_
                rintro e w5 ⟨gr, rfl, hor, hgr, hb5⟩
                have HO5 : Hid (OwnR w5 4 gr L L (bv (Sp.bls L R)) ∧ OwnR w5 4 ga L L (bv (Sp.bls L A)) ∧ Below w2.heap.size w2 w5) := ⟨hor, hoa.keep (hb5.block ga hoa.lt), belT HBL.out hb5⟩
                have hcr : w5.cell? ⟨gr, t, none⟩ = some (.bool (decide (t ∈ R.ord))) := hor.cell (by simp [bv, bls_at R htl])
                clear hor hgr hb5 hoa HSi
                by_cases h3 : t ∈ R.ord
                · rw [decide_eq_true h3] at hcr
                  have HF : Hid (KB (i + 1) = (bs, ms)) := by show _ = _; rw [HKn.out, if_neg (by simp [h3])]
                  go_wp2_with fail
                  go_roundw
                  case rel => exact ⟨i + 1, bs, ms, rfl, rfl, by go_num, by omega, by omega, by omega, by omega, HF.out, HO5.out.2.2⟩
                  case measure => simp [intOf]; omega
                · rw [decide_eq_false h3] at hcr
                  have HKn2 : Hid (KB (i + 1) = if (bs < 0 ∨ (List.range L).countP (Sp.kcB A R) < ms) then ((i : Int), (List.range L).countP (Sp.kcB A R)) else (bs, ms)) := by show _ = _; rw [HKn.out]; simp [h1, h2, h3]
                  clear HKn
                  go_wp2_with fail
                  go_loopw [17, 18] (fun v17 v18 wq => ∃ (k q : Nat), v17 = .int .i64 (q : Int) ∧ v18 = .int .i64 (k : Int) ∧ k ≤ L ∧ q ≤ k ∧ Hid (q = (List.range k).countP (Sp.kcB A R)) ∧ Hid (wq = w5)) (fun _ v18 _ => L - (intOf v18).toNat)
                  case atStart => exact ⟨0, 0, rfl, rfl, Nat.zero_le _, Nat.le_refl _, rfl, rfl⟩
                  case round =>
                    obtain ⟨k, q, rfl, rfl, hk, hqk, HQ, HWQ⟩ := hrel
                    by_cases hkl : k < L
                    · have hklz : (k : Int) < (L : Int) := by omega
                      have hka : wr.cell? ⟨ga, k, none⟩ = some (.bool (decide (k ∈ A.ord))) := by rw [HWQ.out]; exact HO5.out.2.1.cell (by simp [bv, bls_at A hkl])
                      have hkr : wr.cell? ⟨gr, k, none⟩ = some (.bool (decide (k ∈ R.ord))) := by rw [HWQ.out]; exact HO5.out.1.cell (by simp [bv, bls_at R hkl])
                      have HSU : Hid ((List.range (k + 1)).countP (Sp.kcB A R) = q + if (decide (k ∈ A.ord) && !decide (k ∈ R.ord)) = true then 1 else 0) := by show _ = _; rw [cP_succ, ← HQ.out]; rfl
                      by_cases k1 : k ∈ A.ord
                      · by_cases k2 : k ∈ R.ord
                        · rw [decide_eq_true k1] at hka
                          rw [decide_eq_true k2] at hkr
                          have HQ2 : Hid (q = (List.range (k + 1)).countP (Sp.kcB A R)) := by show _ = _; rw [HSU.out]; simp [k1, k2]
                          go_wp2_with fail
                          go_roundw
                          case rel => exact ⟨k + 1, q, rfl, by go_num, by omega, by omega, HQ2.out, HWQ.out⟩
                          case measure => simp [intOf]; omega
                        · rw [decide_eq_true k1] at hka
                          rw [decide_eq_false k2] at hkr
                          have HQ2 : Hid (q + 1 = (List.range (k + 1)).countP (Sp.kcB A R)) := by show _ = _; rw [HSU.out]; simp [k1, k2]
                          go_wp2_with fail
                          go_roundw
                          case rel => exact ⟨k + 1, q + 1, by go_num, by go_num, by omega, by omega, HQ2.out, HWQ.out⟩
                          case measure => simp [intOf]; omega
                      · rw [decide_eq_false k1] at hka
                        have HQ2 : Hid (q = (List.range (k + 1)).countP (Sp.kcB A R)) := by show _ = _; rw [HSU.out]; simp [k1]
                        go_wp2_with fail
                        go_roundw
                        case rel => exact ⟨k + 1, q, rfl, by go_num, by omega, by omega, HQ2.out, HWQ.out⟩
                        case measure => simp [intOf]; omega
                    · obtain rfl : k = L := by omega
                      rw [← HQ.out] at HKn2
                      have HB5 : Hid (Below w2.heap.size w2 wr) := by rw [HWQ.out]; exact HO5.out.2.2
                      by_cases hc : bs < 0 ∨ q < ms
                      · have HF : Hid (KB (i + 1) = ((i : Int), q)) := by show _ = _; rw [HKn2.out, if_pos hc]
                        by_cases hbz : bs < 0
                        · go_wp2_with fail
                          go_roundw
                          case rel => exact ⟨i + 1, (i : Int), q, rfl, rfl, by go_num, by omega, by omega, by omega, by omega, HF.out, HB5.out⟩
                          case measure => simp [intOf]; omega
                        · have hqm : (q : Int) < (ms : Int) := by omega
                          go_wp2_with fail
                          go_roundw
                          case rel => exact ⟨i + 1, (i : Int), q, rfl, rfl, by go_num, by omega, by omega, by omega, by omega, HF.out, HB5.out⟩
                          case measure => simp [intOf]; omega
                      · have HF : Hid (KB (i + 1) = (bs, ms)) := by show _ = _; rw [HKn2.out, if_neg hc]
                        have hbz : ¬ bs < 0 := fun h => hc (.inl h)
                        have hqm : ¬ (q : Int) < (ms : Int) := fun h => hc (.inr (by omega))
                        go_wp2_with fail
                        go_roundw
                        case rel => exact ⟨i + 1, bs, ms, rfl, rfl, by go_num, by omega, by omega, by omega, by omega, HF.out, HB5.out⟩
                        case measure => simp [intOf]; omega
            · rw [decide_eq_false h1] at hca
              have HF : Hid (KB (i + 1) = (bs, ms)) := by show _ = _; rw [hKn, if_neg (by simp [h1])]
              clear hKn hoa
              go_wp2_with fail
              go_roundw
              case rel => exact ⟨i + 1, bs, ms, rfl, rfl, by go_num, by omega, by omega, by omega, by omega, HF.out, HBL.out⟩
              case measure => simp [intOf]; omega
          · obtain rfl : i = L := by omega
            have HBW : Hid (Below w.heap.size w wr) := belT HPS.out.2.2.2.1 (belT HA2.out.2 HBL.out)
            have HF : Hid (∀ y b, ((bs = -1 ∧ y = 0 ∧ b = false) ∨ ∃ k : Nat, bs = k ∧ y = N.getD k 0 ∧ b = true) → KrP N nx l x y b 0) := by
              have := HFF.out
              rw [HE.out] at this; exact this
            clear hoa
            by_cases hbz : bs < 0
            · have hb1 : bs = -1 := by omega
              have HR0 : Hid (KrP N nx l x 0 false 0) := HF.out _ _ (.inl ⟨hb1, rfl, rfl⟩)
              go_wp2_with fail
              exact bodyPost_ret (v := .tuple #[.int .u64 0, .bool false, .int .i64 0]) (by simp [results, Try.results13, go_sem] <;> rfl) rfl ⟨HBW.out, _, _, _, rfl, HR0.out⟩
            · obtain ⟨k, rfl⟩ : ∃ k : Nat, bs = k := ⟨bs.toNat, by omega⟩
              have hkL : k < N.length := by have := HL.out; omega
              have hkz : (k : Int) < (N.length : Int) := by omega
              have HG6 := HG.out.keep HBW.out
              have hc60 := HG6.c0
              obtain ⟨y, hy⟩ : ∃ y, N[k]? = some y := ⟨_, List.getElem?_eq_getElem hkL⟩
              obtain ⟨gN, rfl⟩ : ∃ g, gn = some g := by
                cases gn with
                | some g => exact ⟨g, rfl⟩
                | none => have := HG.out.nds.1 rfl; subst this; simp at hkL
              have hcy : wr.cell? ⟨gN, k, none⟩ = some (.int .u64 y) := (HG6.nds.2 gN rfl).cell (by simp [rv, hy])
              have hadN : adr (some gN) = some ⟨gN, 0, none⟩ := rfl
              have HYY : Hid (KrP N nx l x y true 0) := HF.out _ _ (.inr ⟨k, rfl, by rw [List.getD_eq_getElem?_getD, hy]; rfl, rfl⟩)
              clear HG6 hy
              go_wp2_with fail
              exact bodyPost_ret (v := .tuple #[.int .u64 y, .bool true, .int .i64 0]) (by simp [results, Try.results13, go_sem] <;> rfl) rfl ⟨HBW.out, _, _, _, rfl, HYY.out⟩
      · rw [decide_eq_false hin] at hct
        have HF : Hid (KrP N nx l x 0 false 142 ∧ Below w.heap.size w w2) := ⟨.inr (.inl ⟨ps, HPS.out.1, HPS.out.2.1, by rw [HPS.out.2.2.1, HA.out]; exact hin, rfl, rfl, rfl⟩), belT HPS.out.2.2.2.1 HA2.out.2⟩
        go_wp2_with fail
        exact bodyPost_ret (v := .tuple #[.int .u64 0, .bool false, .int .i64 142]) (by simp [results, Try.results13, go_sem] <;> rfl) rfl ⟨HF.out.2, _, _, _, rfl, HF.out.1⟩
  · have hz : Sp.plc N x = -1 := by unfold Sp.plc; rw [if_neg hx]
    rw [hz] at HP2
    have HF : Hid (Below w.heap.size w w1 ∧ KrP N nx l x 0 false 140) := ⟨hb1, .inl ⟨.inr hx, rfl, rfl, rfl⟩⟩
    rcases h with ⟨hn0, rfl⟩ | ⟨ps, gs, c, hps, rfl, hnd, hlo⟩
    · clear hb1 hn0
      go_wp2_with fail
      refine HP2.out.mono ?_
      rintro e w' ⟨rfl, rfl⟩
      go_wp2_with fail
      exact bodyPost_ret (v := .tuple #[.int .u64 0, .bool false, .int .i64 140]) (by simp [results, Try.results13, go_sem] <;> rfl) rfl ⟨HF.out.1, _, _, _, rfl, HF.out.2⟩
    · clear hb1 hps hnd hlo
      go_wp2_with fail
      refine HP2.out.mono ?_
      rintro e w' ⟨rfl, rfl⟩
      go_wp2_with fail
      exact bodyPost_ret (v := .tuple #[.int .u64 0, .bool false, .int .i64 140]) (by simp [results, Try.results13, go_sem] <;> rfl) rfl ⟨HF.out.1, _, _, _, rfl, HF.out.2⟩
end Go.Proofs.Ytilhheianbbbjaa

