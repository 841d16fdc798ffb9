/- Plain mathematics: there is an order just if there is no ring. -/
import Derived.Test.YtikhpbidbcfedaaGreatKp36
import Derived.Test.YtikhpbidbcfedaaGreatKp22
import Derived.Test.YtikhpbidbcfedaaGreatKp18
import Derived.Test.YtikhpbidbcfedaaGreatKp37
namespace Go.Proofs.YtikhpbidbcfedaaGreat
open Go.RowKit Go.ChangeMaps

def Cyc (nx : Nat → List Nat) (L : Nat) : Prop := ∃ a b, a < L ∧ b ∈ nx a ∧ Rw nx b a
section
variable {nx : Nat → List Nat} {L : Nat}
theorem incs_get : ∀ (l : List Nat) (d : Int) (b : List Int) (n : Nat), l.Nodup → n < b.length → (Sp.incs l d b).getD n 0 = if n ∈ l then wrap64 (b.getD n 0 + d) else b.getD n 0
  | [], d, b, n, _, _ => by simp [Sp.incs]
  | m :: l, d, b, n, hl, hn => by
    show (Sp.incs l d (Sp.inc b m d)).getD n 0 = _
    rw [List.nodup_cons] at hl
    rw [incs_get l d _ n hl.2 (by rw [inc_len]; exact hn)]
    have hi : (Sp.inc b m d).getD n 0 = if n = m then wrap64 (b.getD n 0 + d) else b.getD n 0 := by
      unfold Sp.inc
      by_cases e : n = m
      · subst e
        rw [if_pos rfl]
        conv => lhs; rw [List.getD_eq_getElem?_getD, List.getElem?_set_self (by simpa using hn)]
        rfl
      · rw [if_neg e, List.getD_eq_getElem?_getD, List.getElem?_set_ne (Ne.symm e), ← List.getD_eq_getElem?_getD]
    rw [hi]
    by_cases e : n = m
    · subst e; simp [hl.1]
    · simp [e]
def Sp.cn (nx : Nat → List Nat) (k n : Nat) (l : List Nat) : Nat := ((List.range k).filter fun p => decide (n ∈ nx p ∧ p ∉ l)).length
theorem cn_le (k n : Nat) (l : List Nat) : Sp.cn nx k n l ≤ k := by
  have := List.length_filter_le (fun p => decide (n ∈ nx p ∧ p ∉ l)) (List.range k)
  simpa [Sp.cn] using this
theorem wrap_sm (z : Int) (h : -10000 ≤ z ∧ z ≤ 10000) : wrap64 z = z := by unfold wrap64; omega
theorem wts_get (hlt : ∀ i, (nx i).Pairwise (· < ·)) : ∀ k n, k ≤ 4096 → n < L → (Sp.wts nx L k).getD n 0 = (Sp.cn nx k n [] : Int)
  | 0, n, _, hn => by simp [Sp.wts, Sp.cn, List.getD_eq_getElem?_getD, hn]
  | k + 1, n, hk, hn => by
    rw [Sp.wts, incs_get _ _ _ _ ((hlt k).imp (by intro a b h; omega)) (by rw [wts_len]; exact hn), wts_get hlt k n (by omega) hn]
    have hle := cn_le (nx := nx) k n []
    unfold Sp.cn at hle ⊢
    rw [List.range_succ, List.filter_append]
    by_cases h : n ∈ nx k
    · rw [if_pos h, wrap_sm _ (by omega)]; simp [h]
    · rw [if_neg h]; simp [h]
theorem cn_drop {l : List Nat} {m n : Nat} (hm : m < L) (hml : m ∉ l) : (Sp.cn nx L n (l ++ [m]) : Int) = Sp.cn nx L n l - if n ∈ nx m then 1 else 0 := by
  unfold Sp.cn
  have hnd : ((List.range L).filter fun p => decide (n ∈ nx p ∧ p ∉ l)).Nodup := List.nodup_range.filter _
  have e : ((List.range L).filter fun p => decide (n ∈ nx p ∧ p ∉ l ++ [m])) = ((List.range L).filter fun p => decide (n ∈ nx p ∧ p ∉ l)).filter (fun p => p != m) := by
    rw [List.filter_filter]
    apply List.filter_congr
    intro p _
    by_cases h1 : n ∈ nx p <;> by_cases h2 : p ∈ l <;> by_cases h3 : p = m <;> simp [h1, h2, h3]
  rw [e, ← hnd.erase_eq_filter]
  by_cases h : n ∈ nx m
  · have hmem : m ∈ (List.range L).filter fun p => decide (n ∈ nx p ∧ p ∉ l) := by simp [hm, h, hml]
    have := List.length_erase_of_mem hmem
    have hpos := List.length_pos_of_mem hmem
    rw [if_pos h, this]; omega
  · have hmem : m ∉ (List.range L).filter fun p => decide (n ∈ nx p ∧ p ∉ l) := by simp [h]
    rw [if_neg h, List.erase_of_not_mem hmem]; omega
structure OrdI (nx : Nat → List Nat) (L k : Nat) (b : List Int) (l : List Nat) : Prop where
  len : b.length = L ∧ l.length = k
  nd : l.Nodup
  bd : ∀ x ∈ l, x < L
  wt : ∀ n, n < L → b.getD n 0 = if n ∈ l then -1 else (Sp.cn nx L n l : Int)
  tp : ∀ i x, l[i]? = some x → ∀ p, p < L → x ∈ nx p → p ∈ l.take i
theorem cn_0 {l : List Nat} {n : Nat} (h : Sp.cn nx L n l = 0) : ∀ p, p < L → n ∈ nx p → p ∈ l := fun p hp hn => by
  unfold Sp.cn at h
  rw [List.length_eq_zero_iff, List.filter_eq_nil_iff] at h
  have := h p (by simpa using hp)
  simpa [hn] using this
theorem ord_I (hlt : ∀ i, (nx i).Pairwise (· < ·)) (hL : L ≤ 4096) : ∀ k b l, Sp.ord nx L k = some (b, l) → OrdI nx L k b l
  | 0, b, l, h => by
    simp [Sp.ord] at h
    obtain ⟨rfl, rfl⟩ := h
    exact ⟨⟨wts_len nx L L, rfl⟩, by simp, by simp, fun n hn => by rw [wts_get hlt L n hL hn]; simp, by simp⟩
  | k + 1, b, l, h => by
    rw [Sp.ord] at h
    cases ho : Sp.ord nx L k with
    | none => rw [ho] at h; cases h
    | some bl =>
      obtain ⟨b0, l0⟩ := bl
      obtain ⟨⟨h1, h2⟩, h3, h4, h5, h6⟩ := ord_I hlt hL k b0 l0 ho
      rw [ho] at h
      dsimp only at h
      split at h
      · rename_i hm
        injection h with h; injection h with e1 e2
        have hi : b0.idxOf 0 < L := by rw [← h1]; exact List.idxOf_lt_length_of_mem hm
        have h0 : b0.getD (b0.idxOf 0) 0 = 0 := by rw [List.getD_eq_getElem?_getD, at_idx hm]; rfl
        generalize b0.idxOf 0 = m at *
        have hml : m ∉ l0 := fun hc => by rw [h5 m hi, if_pos hc] at h0; omega
        have hcm : Sp.cn nx L m l0 = 0 := by rw [h5 m hi, if_neg hml] at h0; omega
        have hpm := cn_0 hcm
        have hmm : m ∉ nx m := fun hc => hml (hpm m hi hc)
        have hns : ∀ n, n ∈ nx m → n ∉ l0 := fun n hn hc => by
          obtain ⟨i, hi2, e⟩ := List.mem_iff_getElem.1 hc
          exact hml (List.mem_of_mem_take (h6 i n (by rw [List.getElem?_eq_getElem hi2, e]) m hi hn))
        subst e1 e2
        refine ⟨⟨by rw [incs_len]; simpa using h1, by simp [h2]⟩, ?_, fun x hx => ?_, fun n hn => ?_, fun i x hx p hp hxp => ?_⟩
        · rw [List.nodup_append]; exact ⟨h3, by simp, fun x hx y hy e => by simp at hy; subst hy; exact hml (e ▸ hx)⟩
        · rcases List.mem_append.1 hx with hx | hx
          · exact h4 x hx
          · simp at hx; omega
        · rw [incs_get _ _ _ _ ((hlt m).imp (by intro a b h; omega)) (by simpa [h1] using hn)]
          have hset : (b0.set m (-1)).getD n 0 = if n = m then -1 else b0.getD n 0 := by
            by_cases e : n = m
            · subst e; rw [if_pos rfl, List.getD_eq_getElem?_getD, List.getElem?_set_self (by omega)]; rfl
            · rw [if_neg e, List.getD_eq_getElem?_getD, List.getElem?_set_ne (Ne.symm e), ← List.getD_eq_getElem?_getD]
          rw [hset]
          by_cases e : n = m
          · subst e; simp [hmm]
          · have hcd := cn_drop (nx := nx) (n := n) hi hml
            have hle := cn_le (nx := nx) L n l0
            rw [if_neg e, h5 n hn]
            by_cases hnm : n ∈ nx m
            · rw [if_pos hnm, if_neg (hns n hnm), wrap_sm _ (by omega), if_neg (by simp [hns n hnm, e]), hcd, if_pos hnm]; omega
            · rw [if_neg hnm, hcd, if_neg hnm]
              by_cases hnl : n ∈ l0
              · simp [hnl]
              · simp [hnl, e]
        · by_cases hil : i < l0.length
          · rw [List.getElem?_append_left hil] at hx
            rw [List.take_append_of_le_length (by omega)]
            exact h6 i x hx p hp hxp
          · have hi2 : i = l0.length := by
              have := (List.getElem?_eq_some_iff.1 hx).1
              simp at this; omega
            subst hi2
            simp at hx
            subst hx
            simp
            exact hpm p hp hxp
      · cases h
theorem back_cyc {P : Nat → Prop} {n0 : Nat} (h0 : P n0) (hp : ∀ n, P n → ∃ p, P p ∧ n ∈ nx p) (hb : ∀ n, P n → n < L) : Cyc nx L := by
  let f : Nat → { n // P n } := fun i => Nat.rec ⟨n0, h0⟩ (fun _ n => ⟨(hp n.1 n.2).choose, (hp n.1 n.2).choose_spec.1⟩) i
  have hf : ∀ i, (f i).1 ∈ nx (f (i + 1)).1 := fun i => (hp (f i).1 (f i).2).choose_spec.2
  have hr : ∀ d i, Rw nx (f (i + d)).1 (f i).1 := fun d i => by
    induction d with
    | zero => exact .self nx _
    | succ d ih => exact (Rw.one (hf (i + d))).trans ih
  have hnd : ¬ ((List.range (L + 1)).map fun i => (f i).1).Nodup := fun h => by
    have := nd_len (L := L) h (fun x hx => by
      obtain ⟨i, _, e⟩ := List.mem_map.1 hx
      rw [← e]; exact hb _ (f i).2)
    simp at this
    omega
  obtain ⟨i, j, hij, e⟩ : ∃ i j, i < j ∧ (f i).1 = (f j).1 := Classical.byContradiction fun hno => hnd (by
    rw [List.nodup_iff_pairwise_ne] at *
    rw [List.pairwise_map]
    exact List.pairwise_lt_range.imp (by intro a b hab e; exact hno ⟨a, b, hab, e⟩))
  refine ⟨(f (i + 1)).1, (f i).1, hb _ (f (i + 1)).2, hf i, ?_⟩
  rw [e]
  have := hr (j - (i + 1)) (i + 1)
  rwa [show i + 1 + (j - (i + 1)) = j by omega] at this
theorem ord_cyc (hlt : ∀ i, (nx i).Pairwise (· < ·)) (hL : L ≤ 4096) : ∀ k, k ≤ L → Sp.ord nx L k = none → Cyc nx L
  | 0, _, h => by simp [Sp.ord] at h
  | k + 1, hk, h => by
    cases ho : Sp.ord nx L k with
    | none => exact ord_cyc hlt hL k (by omega) ho
    | some bl =>
      obtain ⟨b, l⟩ := bl
      have H := ord_I hlt hL k b l ho
      rw [Sp.ord, ho] at h
      dsimp only at h
      split at h
      · cases h
      · rename_i hno
        have hex : ∃ n, n < L ∧ n ∉ l := Classical.byContradiction fun hc => by
          have hsub : ∀ n ∈ List.range L, n ∈ l := fun n hn => Classical.byContradiction fun h2 => hc ⟨n, by simpa using hn, h2⟩
          have := List.Nodup.length_le_of_subset (List.nodup_range (n := L)) hsub
          simp [H.len.2] at this
          omega
        obtain ⟨n0, h1, h2⟩ := hex
        refine back_cyc (P := fun n => n < L ∧ n ∉ l) ⟨h1, h2⟩ (fun n hn => ?_) (fun n hn => hn.1)
        have hw := H.wt n hn.1
        rw [if_neg hn.2] at hw
        have hpos : Sp.cn nx L n l ≠ 0 := fun h0 => hno (by
          rw [h0] at hw
          have hg := List.getElem?_eq_getElem (l := b) (i := n) (by rw [H.len.1]; exact hn.1)
          rw [List.getD_eq_getElem?_getD, hg] at hw
          have : b[n]'(by rw [H.len.1]; exact hn.1) = 0 := hw
          rw [← this]; exact List.getElem_mem _)
        unfold Sp.cn at hpos
        obtain ⟨p, hp⟩ := List.exists_mem_of_length_pos (Nat.pos_of_ne_zero hpos)
        simp at hp
        exact ⟨p, ⟨hp.1, hp.2.2⟩, hp.2.1⟩
theorem ord_top {b : List Int} {l : List Nat} (hb : ∀ i, ∀ x ∈ nx i, x < L) (H : OrdI nx L L b l) : ¬ Cyc nx L := by
  have hin : ∀ x, x < L → x ∈ l := fun x hx => Classical.byContradiction fun h => by
    have hsub : ∀ y ∈ x :: l, y < L := fun y hy => by
      rcases List.mem_cons.1 hy with e | hy
      · omega
      · exact H.bd y hy
    have := nd_len (List.nodup_cons.2 ⟨h, H.nd⟩) hsub
    simp [H.len.2] at this
    omega
  have hedge : ∀ p x, p < L → x ∈ nx p → l.idxOf p < l.idxOf x := fun p x hp hx => by
    have hxl := hin x (hb p x hx)
    have hxi : l[l.idxOf x]? = some x := by
      have hlt := List.idxOf_lt_length_iff.2 hxl
      rw [List.getElem?_eq_getElem hlt, List.getElem_idxOf hlt]
    obtain ⟨j, hj, e⟩ := List.mem_iff_getElem.1 (H.tp _ x hxi p hp hx)
    simp at hj e
    have hpi : l[l.idxOf p]? = some p := by
      have hlt := List.idxOf_lt_length_iff.2 (hin p hp)
      rw [List.getElem?_eq_getElem hlt, List.getElem_idxOf hlt]
    have := nd_at H.nd hpi (show l[j]? = some p by rw [List.getElem?_eq_getElem (by omega), e])
    omega
  rintro ⟨a, c, ha, hc, hr⟩
  have h1 := hedge a c ha hc
  have hcL := hb a c hc
  have h2 : ∀ z, Rw nx c z → l.idxOf c ≤ l.idxOf z := fun z hz => by
    unfold Rw at hz
    induction hz with
    | base d _ => simp at d; subst d; exact Nat.le_refl _
    | @step y z h0 d e ih =>
      have hy : y < L := Rw.lt hb h0 hcL
      have := hedge y z hy d
      omega
  have := h2 a hr
  omega
theorem ord_iff (hlt : ∀ i, (nx i).Pairwise (· < ·)) (hb : ∀ i, ∀ x ∈ nx i, x < L) (hL : L ≤ 4096) : Sp.ord nx L L = none ↔ Cyc nx L := by
  refine ⟨ord_cyc hlt hL L (Nat.le_refl _), fun h => ?_⟩
  cases ho : Sp.ord nx L L with
  | none => rfl
  | some bl => exact absurd h (ord_top hb (ord_I hlt hL L bl.1 bl.2 ho))
theorem rgs_iff (hlt : ∀ i, (nx i).Pairwise (· < ·)) (hb : ∀ i, ∀ x ∈ nx i, x < L) : Sp.rgs nx L L ≠ [] ↔ Cyc nx L := by
  refine ⟨fun h => ?_, fun ⟨a, b, ha, hab, hr⟩ => ?_⟩
  · obtain ⟨a, p, ha, hw, hp⟩ := rgs_way hlt hb h
    have hr : Rw nx a p := hw.pre (k := -1) _ p hw.la (fun _ _ _ _ => by omega)
    exact ⟨p, a, hr.lt hb ha, hp, hr⟩
  · have hbL := hb a b hab
    exact (short1 hlt hb hbL hab ((all_rch hlt hb (by simpa using hbL)).2 hr)).1
theorem prt_iff (hb : ∀ i, ∀ x ∈ nx i, x < L) : (∀ r ∈ Sp.prt nx L, ∃ x, r = [x] ∧ x ∉ nx x) ↔ ¬ Cyc nx L := by
  obtain ⟨h1, h2, _⟩ := prt_ok hb
  refine ⟨fun h ⟨a, b, ha, hab, hrw⟩ => ?_, fun h r hr => ?_⟩
  · obtain ⟨r, hr, har⟩ := h2 a ha
    obtain ⟨_, _, y, _, hy⟩ := h1 r hr
    obtain ⟨x, e, hx⟩ := h r hr
    have hbr : b ∈ r := (hy b).2 ⟨hrw.trans ((hy a).1 har).1, ((hy a).1 har).2.trans (Rw.one hab)⟩
    rw [e] at har hbr
    simp at har hbr
    subst har hbr
    exact hx hab
  · obtain ⟨nd, hne, y, hyL, hy⟩ := h1 r hr
    have hall : ∀ x ∈ r, x = y := fun x hx => Classical.byContradiction fun hxy => h (by
      have hm := (hy x).1 hx
      have hxy2 := hm.1
      unfold Rw at hxy2
      have : ∀ z, Rch nx (-1) [x] z → z ≠ x → ∃ p, Rw nx x p ∧ z ∈ nx p := fun z hz hzx => by
        cases hz with
        | base d _ => simp at d; exact absurd d hzx
        | step h0 d _ => exact ⟨_, h0, d⟩
      obtain ⟨p, hp1, hp2⟩ := this y hxy2 (fun e => hxy e.symm)
      exact ⟨p, y, hp1.lt hb (hm.2.lt hb hyL), hp2, hm.2.trans hp1⟩)
    have hre : r = [y] := by
      match r, nd, hne, hall with
      | [a], _, _, hall => rw [hall a (by simp)]
      | a :: b :: r, nd, _, hall =>
        have e1 := hall a (by simp); have e2 := hall b (by simp)
        rw [List.nodup_cons] at nd
        exact absurd (by rw [e1, e2]; simp) nd.1
    exact ⟨y, hre, fun hyy => h ⟨y, y, hyL, hyy, .self nx y⟩⟩
end
end Go.Proofs.YtikhpbidbcfedaaGreat

/- Plain mathematics: the parts as rows of nodes, in order; turned about they are the same. -/
namespace Go.Proofs.YtikhpbidbcfedaaGreat

section
variable {nx : Nat → List Nat} {L : Nat}
theorem rw_turn (hb : ∀ i, ∀ x ∈ nx i, x < L) {x y : Nat} (hx : x < L) (h : Rw nx x y) : Rw (Sp.bkn nx L) y x := by
  have h' := h
  unfold Rw at h'
  induction h' with
  | base c _ => simp at c; subst c; exact .self _ _
  | @step u z h0 c _ ih => exact (Rw.one (bkn_mem.2 ⟨Rw.lt hb h0 hx, c⟩)).trans (ih h0)
theorem rw_unturn {x y : Nat} (h : Rw (Sp.bkn nx L) y x) : Rw nx x y := by
  unfold Rw at h
  induction h with
  | base c _ => simp at c; subst c; exact .self nx _
  | step _ c _ ih => exact (Rw.one (bkn_mem.1 c).2).trans ih
theorem mu_turn (hb : ∀ i, ∀ x ∈ nx i, x < L) {x y : Nat} (hx : x < L) (hy : y < L) : Mu (Sp.bkn nx L) x y ↔ Mu nx x y :=
  ⟨fun h => ⟨rw_unturn h.2, rw_unturn h.1⟩, fun h => ⟨rw_turn hb hy h.2, rw_turn hb hx h.1⟩⟩
end
def Sp.prv (N : List Int) (nx : Nat → List Nat) : List (List Int) := (Sp.prt nx N.length).map fun p => Sp.rfs N (Sp.upn N.length p)
theorem srtL_eq : ∀ {l m : List (List Int)}, l.Pairwise (fun a b => ¬ b < a) → m.Pairwise (fun a b => ¬ b < a) → l.Nodup → m.Nodup → (∀ x, x ∈ l ↔ x ∈ m) → l = m
  | [], [], _, _, _, _, _ => rfl
  | [], y :: m, _, _, _, _, h => absurd ((h y).2 (by simp)) (by simp)
  | x :: l, [], _, _, _, _, h => absurd ((h x).1 (by simp)) (by simp)
  | x :: l, y :: m, hl, hm, nl, nm, h => by
    rw [List.pairwise_cons] at hl hm
    rw [List.nodup_cons] at nl nm
    have e : x = y := by
      rcases List.mem_cons.1 ((h x).1 (by simp)) with h1 | h1
      · exact h1
      · rcases List.mem_cons.1 ((h y).2 (by simp)) with h2 | h2
        · exact h2.symm
        · have a := hl.1 y h2; have b := hm.1 x h1
          exact List.le_antisymm (List.not_lt.1 a) (List.not_lt.1 b)
    subst e
    rw [srtL_eq hl.2 hm.2 nl.2 nm.2 fun z => ⟨fun hz => ?_, fun hz => ?_⟩]
    · rcases List.mem_cons.1 ((h z).1 (List.mem_cons_of_mem _ hz)) with h1 | h1
      · subst h1; exact absurd hz nl.1
      · exact h1
    · rcases List.mem_cons.1 ((h z).2 (List.mem_cons_of_mem _ hz)) with h1 | h1
      · subst h1; exact absurd hz nm.1
      · exact h1
section
variable {N : List Int} {nx : Nat → List Nat}
theorem upn_bd (L : Nat) (p : List Nat) : ∀ x ∈ Sp.upn L p, x < L := fun _ h => (upn_mem.1 h).1
theorem prv_mem (hN : N.Pairwise (· < ·)) {r : List Nat} (hr : ∀ x ∈ r, x < N.length) {i : Nat} {v : Int} (hi : N[i]? = some v) : v ∈ Sp.rfs N (Sp.upn N.length r) ↔ i ∈ r := by
  rw [rfs_mem (upn_bd _ _)]
  refine ⟨fun ⟨j, hj, h⟩ => ?_, fun h => ⟨i, upn_mem.2 ⟨hr i h, h⟩, hi⟩⟩
  have h1 := idx_at2 (lt_nd hN) h
  have h2 := idx_at2 (lt_nd hN) hi
  rw [← h2, h1]; exact (upn_mem.1 hj).2
theorem prt_lt (hb : ∀ i, ∀ x ∈ nx i, x < N.length) {r : List Nat} (hr : r ∈ Sp.prt nx N.length) : ∀ x ∈ r, x < N.length := fun x hx => by
  obtain ⟨h1, _, _⟩ := prt_ok hb
  obtain ⟨_, _, y, hy, h2⟩ := h1 r hr
  exact ((h2 x).1 hx).2.lt hb hy
theorem prv_dis (hN : N.Pairwise (· < ·)) (hb : ∀ i, ∀ x ∈ nx i, x < N.length) : (Sp.prv N nx).Pairwise fun a b => ∀ v ∈ a, v ∉ b := by
  obtain ⟨_, _, h3⟩ := prt_ok hb
  unfold Sp.prv
  rw [List.pairwise_map]
  refine List.Pairwise.imp_of_mem ?_ h3
  intro a b ha hb2 h v hv hv2
  obtain ⟨i, hi, hiv⟩ := (rfs_mem (upn_bd _ _)).1 hv
  exact h i ((prv_mem hN (prt_lt hb ha) hiv).1 hv) ((prv_mem hN (prt_lt hb hb2) hiv).1 hv2)
theorem prv_row (hN : N.Pairwise (· < ·)) (hb : ∀ i, ∀ x ∈ nx i, x < N.length) {a : List Int} (ha : a ∈ Sp.prv N nx) : a ≠ [] ∧ a.Nodup ∧ (∀ v ∈ a, v ∈ N) := by
  obtain ⟨h1, _, _⟩ := prt_ok hb
  obtain ⟨r, hr, rfl⟩ := List.mem_map.1 ha
  obtain ⟨nd, hne, y, hy, h2⟩ := h1 r hr
  refine ⟨?_, lt_nd (rfs_srt hN (upn_pw _ _) (upn_bd _ _)), fun v hv => ?_⟩
  · obtain ⟨x, hx⟩ := List.exists_mem_of_ne_nil r hne
    have hxL := prt_lt hb hr x hx
    have hv := List.getElem?_eq_getElem hxL
    exact List.ne_nil_of_mem ((prv_mem hN (prt_lt hb hr) hv).2 hx)
  · obtain ⟨i, _, hiv⟩ := (rfs_mem (upn_bd _ _)).1 hv
    exact List.mem_of_getElem? hiv
theorem prv_nd (hN : N.Pairwise (· < ·)) (hb : ∀ i, ∀ x ∈ nx i, x < N.length) : (Sp.prv N nx).Nodup := by
  refine List.Pairwise.imp_of_mem ?_ (prv_dis hN hb)
  intro a b ha _ h e
  subst e
  obtain ⟨v, hv⟩ := List.exists_mem_of_ne_nil a (prv_row hN hb ha).1
  exact h v hv hv
theorem bkn_bd : ∀ i, ∀ x ∈ Sp.bkn nx N.length i, x < N.length := bk_lt nx N.length
theorem prv_turn1 {nx' : Nat → List Nat} (hb : ∀ i, ∀ x ∈ nx i, x < N.length) (hb' : ∀ i, ∀ x ∈ nx' i, x < N.length) (hm : ∀ x y, x < N.length → y < N.length → (Mu nx' x y ↔ Mu nx x y)) {a : List Int} (ha : a ∈ Sp.prv N nx) : a ∈ Sp.prv N nx' := by
  obtain ⟨h1, _, _⟩ := prt_ok hb
  obtain ⟨g1, g2, _⟩ := prt_ok hb'
  obtain ⟨r, hr, rfl⟩ := List.mem_map.1 ha
  obtain ⟨_, _, y, hy, h2⟩ := h1 r hr
  obtain ⟨r', hr', hyr⟩ := g2 y hy
  obtain ⟨_, _, z, hz, h3⟩ := g1 r' hr'
  refine List.mem_map.2 ⟨r', hr', ?_⟩
  congr 1
  unfold Sp.upn
  apply List.filter_congr
  intro x hx
  have hxL : x < N.length := by simpa using hx
  apply decide_eq_decide.2
  have hyz := (h3 y).1 hyr
  rw [h2, h3]
  exact ⟨fun h => (hm x y hxL hy).1 (h.trans hyz.symm), fun h => ((hm x y hxL hy).2 h).trans hyz⟩
theorem prv_turn (hb : ∀ i, ∀ x ∈ nx i, x < N.length) (a : List Int) : a ∈ Sp.prv N (Sp.bkn nx N.length) ↔ a ∈ Sp.prv N nx :=
  ⟨prv_turn1 bkn_bd hb (fun _ _ hx hy => (mu_turn hb hx hy).symm), prv_turn1 hb bkn_bd (fun _ _ hx hy => mu_turn hb hx hy)⟩
structure PrQ (N : List Int) (E : List (Int × Int)) (Q : List (List Int)) : Prop where
  ne : ∀ r ∈ Q, r ≠ [] ∧ r.length ≤ N.length ∧ ∀ v ∈ r, v ∈ N
  nd : Q.flatten.Nodup
  len : Q.flatten.length = N.length
  num : Q.length ≤ N.length
  sg : (∀ r ∈ Q, ∃ v, r = [v] ∧ (v, v) ∉ E) ↔ ¬ Cyc (Sp.nx N E) N.length
theorem flat_nd : ∀ {Q : List (List Int)}, (∀ r ∈ Q, r.Nodup) → Q.Pairwise (fun a b => ∀ v ∈ a, v ∉ b) → Q.flatten.Nodup
  | [], _, _ => by simp
  | r :: Q, h1, h2 => by
    rw [List.pairwise_cons] at h2
    rw [List.flatten_cons, List.nodup_append]
    refine ⟨h1 r (by simp), flat_nd (fun q hq => h1 q (by simp [hq])) h2.2, fun x hx y hy e => ?_⟩
    subst e
    obtain ⟨q, hq, hxq⟩ := List.mem_flatten.1 hy
    exact h2.1 q hq x hx hxq
theorem flat_len : ∀ {Q : List (List Int)}, (∀ r ∈ Q, r ≠ []) → Q.length ≤ Q.flatten.length
  | [], _ => by simp
  | r :: Q, h => by
    have := flat_len (Q := Q) (fun q hq => h q (by simp [hq]))
    have hp := List.length_pos_iff.2 (h r (by simp))
    simp at this ⊢
    omega
theorem PrQ.of {E : List (Int × Int)} (hN : N.Pairwise (· < ·)) {Q : List (List Int)} (hQ : Q.Perm (Sp.prv N (Sp.nx N E))) : PrQ N E Q := by
  have hb := nx_bd N E
  obtain ⟨h1, h2, _⟩ := prt_ok hb
  have hrow : ∀ r ∈ Q, r ≠ [] ∧ r.Nodup ∧ ∀ v ∈ r, v ∈ N := fun r hr => prv_row hN hb (hQ.mem_iff.1 hr)
  have hdis : Q.Pairwise fun a b => ∀ v ∈ a, v ∉ b := (hQ.pairwise_iff (fun {a b} h v hv hv2 => h v hv2 hv)).2 (prv_dis hN hb)
  have hnd := flat_nd (fun r hr => (hrow r hr).2.1) hdis
  have hlen : Q.flatten.length = N.length := by
    refine ((List.perm_ext_iff_of_nodup hnd (lt_nd hN)).2 fun v => ?_).length_eq
    rw [List.mem_flatten]
    refine ⟨fun ⟨r, hr, hv⟩ => (hrow r hr).2.2 v hv, fun hv => ?_⟩
    have hi := at_idx hv
    have hil := (List.getElem?_eq_some_iff.1 hi).1
    obtain ⟨r, hr, hir⟩ := h2 _ hil
    exact ⟨_, hQ.mem_iff.2 (List.mem_map_of_mem hr), (prv_mem hN (prt_lt hb hr) hi).2 hir⟩
  refine ⟨fun r hr => ⟨(hrow r hr).1, ?_, (hrow r hr).2.2⟩, hnd, hlen, by rw [← hlen]; exact flat_len fun r hr => (hrow r hr).1, ?_⟩
  · exact List.Nodup.length_le_of_subset (hrow r hr).2.1 (hrow r hr).2.2
  · rw [← prt_iff hb]
    refine ⟨fun h r hr => ?_, fun h r hr => ?_⟩
    · obtain ⟨v, e, hv⟩ := h _ (hQ.mem_iff.2 (List.mem_map_of_mem hr))
      obtain ⟨nd, hne, _⟩ := h1 r hr
      have hl : r.length = 1 := by
        have h3 := congrArg List.length e
        have h4 := upn_len nd (prt_lt hb hr)
        simp [Sp.rfs] at h3
        omega
      obtain ⟨x, rfl⟩ := List.length_eq_one_iff.1 hl
      refine ⟨x, rfl, fun hx => hv ?_⟩
      have hxL := prt_lt hb hr x (by simp)
      have hxv := List.getElem?_eq_getElem hxL
      have hm := (prv_mem hN (prt_lt hb hr) hxv).2 (by simp)
      rw [e] at hm
      simp at hm
      have h3 := (nx_mem.1 hx).2
      have h4 : N.getD x 0 = v := by rw [List.getD_eq_getElem?_getD, hxv, ← hm]; rfl
      rwa [h4] at h3
    · obtain ⟨p, hp, rfl⟩ := List.mem_map.1 (hQ.mem_iff.1 hr)
      obtain ⟨x, rfl, hx⟩ := h p hp
      have hxL := prt_lt hb hp x (by simp)
      have hxv := List.getElem?_eq_getElem hxL
      have hu : Sp.upn N.length [x] = [x] := ext_ltN (upn_pw _ _) (by simp) (fun y => by rw [upn_mem]; simp; intro e; rw [e]; exact hxL)
      have h4 : N.getD x 0 = N[x] := by rw [List.getD_eq_getElem?_getD, hxv]; rfl
      refine ⟨N[x], by rw [hu]; simp only [Sp.rfs, List.map_cons, List.map_nil, h4], fun he => hx (nx_mem.2 ⟨hxL, by rw [h4]; exact he⟩)⟩
theorem prv_one (hN : N.Pairwise (· < ·)) (hb : ∀ i, ∀ x ∈ nx i, x < N.length) {Q Q' : List (List Int)} (hQ : Q.Perm (Sp.prv N nx)) (hQ' : Q'.Perm (Sp.prv N (Sp.bkn nx N.length))) (hs : Q.Pairwise fun a b => ¬ b < a) (hs' : Q'.Pairwise fun a b => ¬ b < a) : Q' = Q :=
  srtL_eq hs' hs (hQ'.nodup_iff.2 (prv_nd hN bkn_bd)) (hQ.nodup_iff.2 (prv_nd hN hb)) fun a => by rw [hQ'.mem_iff, hQ.mem_iff]; exact prv_turn hb a
end
end Go.Proofs.YtikhpbidbcfedaaGreat

