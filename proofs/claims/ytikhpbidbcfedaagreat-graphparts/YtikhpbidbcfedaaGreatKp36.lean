/- Plain mathematics: searches in depth: who is entered, and in which order nodes are left. -/
import Derived.Test.YtikhpbidbcfedaaGreatKp27
import Derived.Test.YtikhpbidbcfedaaGreatKp16
namespace Go.Proofs.YtikhpbidbcfedaaGreat

inductive RhE (nx : Nat → List Nat) (E : List Bool) (src : List Nat) : Nat → Prop
  | base {x} : x ∈ src → E.getD x false = false → RhE nx E src x
  | step {x z} : RhE nx E src x → z ∈ nx x → E.getD z false = false → RhE nx E src z
section
variable {nx : Nat → List Nat} {E E1 : List Bool} {l m : List Nat} {a b n x : Nat}
theorem RhE.no (h : RhE nx E l x) : E.getD x false = false := by cases h <;> assumption
theorem RhE.more (hs : ∀ x ∈ l, x ∈ m) (h : RhE nx E l x) : RhE nx E m x := by
  induction h with
  | base a b => exact .base (hs _ a) b
  | step _ a b ih => exact .step ih a b
theorem mor_no (hm : Mor E E1) (h : E1.getD x false = false) : E.getD x false = false := by
  cases h2 : E.getD x false with
  | false => rfl
  | true => rw [hm.2 x h2] at h; cases h
theorem RhE.down (hm : Mor E E1) (h : RhE nx E1 l x) : RhE nx E l x := by
  induction h with
  | base a b => exact .base a (mor_no hm b)
  | step _ a b ih => exact .step ih a (mor_no hm b)
theorem RhE.trans (h : RhE nx E l a) (k : RhE nx E [a] b) : RhE nx E l b := by
  induction k with
  | base c _ => simp at c; subst c; exact h
  | step _ c d ih => exact .step ih c d
theorem RhE.self (h : E.getD a false = false) : RhE nx E [a] a := .base (by simp) h
theorem RhE.next (h0 : E.getD n false = false) (h : RhE nx (E.set n true) (nx n) x) : RhE nx E [n] x := by
  induction h with
  | base c d => exact .step (.self h0) c (mor_no (Mor.set E n) d)
  | step _ c d ih => exact .step ih c (mor_no (Mor.set E n) d)
theorem RhE.cut1 (n : Nat) (h : RhE nx E [a] b) : RhE nx (E.set n true) [a] b ∨ RhE nx E [a] n := by
  induction h with
  | @base x c d =>
    by_cases e : x = n
    · subst e; exact .inr (.base c d)
    · exact .inl (.base c (by rw [getD_set_ne e]; exact d))
  | @step x z h0 c d ih =>
    rcases ih with ih | ih
    · by_cases e : z = n
      · subst e; exact .inr (.step h0 c d)
      · exact .inl (.step ih c (by rw [getD_set_ne e]; exact d))
    · exact .inr ih
theorem RhE.cut2 (ha : E1.getD a false = false) (h : RhE nx E [a] b) : RhE nx E1 [a] b ∨ ∃ x, E.getD x false = false ∧ E1.getD x false = true ∧ RhE nx E [x] b := by
  induction h with
  | base c d => simp at c; subst c; exact .inl (.self ha)
  | @step x z h0 c d ih =>
    rcases ih with ih | ⟨y, h1, h2, h3⟩
    · cases e : E1.getD z false with
      | false => exact .inl (.step ih c e)
      | true => exact .inr ⟨z, d, e, .self d⟩
    · exact .inr ⟨y, h1, h2, .step h3 c d⟩
end
def Aft (u : List Nat) (b w : Nat) : Prop := ∀ p q, u = p ++ q → b ∈ q → w ∈ q
theorem Aft.self (u : List Nat) (b : Nat) : Aft u b b := fun _ _ _ h => h
theorem Aft.left {u v : List Nat} {b w : Nat} (h : Aft u b w) (hb : b ∉ v) : Aft (u ++ v) b w := fun p q e hq => by
  rcases List.append_eq_append_iff.1 e with ⟨c, h1, h2⟩ | ⟨c, h1, h2⟩
  · exact absurd (by rw [h2]; simp [hq]) hb
  · rw [h2] at hq ⊢
    rcases List.mem_append.1 hq with hq | hq
    · exact List.mem_append_left _ (h p c h1 hq)
    · exact absurd hq hb
theorem Aft.right {u v : List Nat} {b w : Nat} (h : Aft v b w) (hw : w ∈ v) : Aft (u ++ v) b w := fun p q e hq => by
  rcases List.append_eq_append_iff.1 e with ⟨c, h1, h2⟩ | ⟨c, h1, h2⟩
  · exact h c q h2 hq
  · rw [h2]; exact List.mem_append_right _ hw
theorem Aft.over {u v : List Nat} {b w : Nat} (hb : b ∉ v) (hw : w ∈ v) : Aft (u ++ v) b w := fun p q e hq => by
  rcases List.append_eq_append_iff.1 e with ⟨c, h1, h2⟩ | ⟨c, h1, h2⟩
  · exact absurd (by rw [h2]; simp [hq]) hb
  · rw [h2]; exact List.mem_append_right _ hw
theorem Aft.last (u : List Nat) (b n : Nat) : Aft (u ++ [n]) b n := fun p q e hq => by
  rcases List.eq_nil_or_concat q with rfl | ⟨q', z, rfl⟩
  · simp at hq
  · rw [List.concat_eq_append, ← List.append_assoc] at e
    have := (List.append_inj' e rfl).2
    simp at this
    simp [this]
structure LfQ (nx : Nat → List Nat) (L : Nat) (l : List Nat) (E : List Bool) (s : List Nat) (r : Option Bool × Wst (List Nat)) : Prop where
  ok : r.1 = some true
  mor : Mor E r.2.1
  all : ∀ x ∈ l, r.2.1.getD x false = true
  row : ∃ u, r.2.2 = s ++ u ∧ u.Nodup ∧ (∀ x ∈ u, x < L ∧ E.getD x false = false ∧ r.2.1.getD x false = true ∧ RhE nx E l x ∧ ∀ z ∈ nx x, r.2.1.getD z false = true) ∧ (∀ x, r.2.1.getD x false = true → E.getD x false = true ∨ x ∈ u) ∧
    ∀ a ∈ u, ∀ b ∈ u, RhE nx E [a] b → ∃ w ∈ u, RhE nx E [a] w ∧ RhE nx E [w] a ∧ Aft u b w
theorem shut_in {nx : Nat → List Nat} {E E1 : List Bool} {u : List Nat} {a b : Nat} (h1 : ∀ x ∈ u, E1.getD x false = true ∧ ∀ z ∈ nx x, E1.getD z false = true) (h2 : ∀ x, E1.getD x false = true → E.getD x false = true ∨ x ∈ u) (ha : a ∈ u) (h : RhE nx E [a] b) : b ∈ u := by
  induction h with
  | base c _ => simp at c; subst c; exact ha
  | step _ c d ih =>
    rcases h2 _ ((h1 _ ih).2 _ c) with e | e
    · rw [e] at d; cases d
    · exact e
theorem lq_all {L f : Nat} {nx : Nat → List Nat} (h1 : ∀ n E s, E.length = L → n < L → E.getD n false = false → Sp.cf E ≤ f → LfQ nx L [n] E s (wOne Sp.lf nx f n (E, s))) :
    ∀ (l : List Nat) E s, E.length = L → (∀ x ∈ l, x < L) → Sp.cf E ≤ f → LfQ nx L l E s (wAll (wOne Sp.lf nx f) l (E, s))
  | [], E, s, hE, hl, hf => ⟨rfl, Mor.refl _, by simp, [], by simp [wAll], by simp, by simp, fun x hx => .inl hx, by simp⟩
  | n :: l, E, s, hE, hl, hf => by
    rw [wAll]
    split
    · rename_i hn
      have H := lq_all h1 l E s hE (fun x hx => hl x (by simp [hx])) hf
      obtain ⟨u, e, nd, h4, h5, h6⟩ := H.row
      refine ⟨H.ok, H.mor, fun x hx => ?_, u, e, nd, fun x hx => ?_, h5, h6⟩
      · rcases List.mem_cons.1 hx with e | hx
        · rw [e]; exact H.mor.2 n hn
        · exact H.all x hx
      · obtain ⟨a, b, c, d, g⟩ := h4 x hx
        exact ⟨a, b, c, d.more (fun y hy => by simp [hy]), g⟩
    · rename_i hn
      have hn' : E.getD n false = false := by cases h : E.getD n false with | false => rfl | true => exact absurd h hn
      have H := h1 n E s hE (hl n (by simp)) hn' hf
      rw [if_pos H.ok]
      generalize wOne Sp.lf nx f n (E, s) = r at H ⊢
      obtain ⟨r1, E1, s1⟩ := r
      obtain ⟨u, e1, nd1, p1, q1, c1⟩ := H.row
      have hal := H.all
      have hmo := H.mor
      dsimp only at e1 p1 q1 hal hmo ⊢
      subst e1
      have H2 := lq_all h1 l E1 (s ++ u) (hmo.1.trans hE) (fun x hx => hl x (by simp [hx])) (Nat.le_trans hmo.cf hf)
      obtain ⟨u2, e2, nd2, p2, q2, c2⟩ := H2.row
      have hsh : ∀ {a b}, a ∈ u → RhE nx E [a] b → b ∈ u := fun ha h => shut_in (fun x hx => ⟨(p1 x hx).2.2.1, (p1 x hx).2.2.2.2⟩) q1 ha h
      have hap : ∀ x, x ∈ u → x ∉ u2 := fun x hx hy => by
        have h3 := (p1 x hx).2.2.1
        rw [(p2 x hy).2.1] at h3; cases h3
      refine ⟨H2.ok, hmo.trans H2.mor, fun x hx => ?_, u ++ u2, by rw [e2]; simp, ?_, fun x hx => ?_, fun x hx => ?_, fun a ha b hb hr => ?_⟩
      · rcases List.mem_cons.1 hx with e | hx
        · rw [e]; exact H2.mor.2 n (hal n (by simp))
        · exact H2.all x hx
      · rw [List.nodup_append]
        exact ⟨nd1, nd2, fun x hx y hy e => hap x hx (e ▸ hy)⟩
      · rcases List.mem_append.1 hx with hx | hx
        · obtain ⟨a, b, c, d, g⟩ := p1 x hx
          exact ⟨a, b, H2.mor.2 x c, d.more (fun y hy => by simp at hy; simp [hy]), fun z hz => H2.mor.2 z (g z hz)⟩
        · obtain ⟨a, b, c, d, g⟩ := p2 x hx
          exact ⟨a, mor_no hmo b, c, (d.down hmo).more (fun y hy => by simp [hy]), g⟩
      · rcases q2 x hx with h | h
        · rcases q1 x h with h | h
          · exact .inl h
          · exact .inr (by simp [h])
        · exact .inr (by simp [h])
      · rcases List.mem_append.1 ha with ha | ha
        · have hb1 := hsh ha hr
          obtain ⟨w, hw, r1, r2, r3⟩ := c1 a ha b hb1 hr
          exact ⟨w, by simp [hw], r1, r2, r3.left (hap b hb1)⟩
        · rcases List.mem_append.1 hb with hb | hb
          · exact ⟨a, by simp [ha], .self (mor_no hmo (p2 a ha).2.1), .self (mor_no hmo (p2 a ha).2.1), .over (hap b hb) ha⟩
          · rcases hr.cut2 (p2 a ha).2.1 with h | ⟨x, g1, g2, g3⟩
            · obtain ⟨w, hw, r1, r2, r3⟩ := c2 a ha b hb h
              exact ⟨w, by simp [hw], r1.down hmo, r2.down hmo, r3.right hw⟩
            · rcases q1 x g2 with h | h
              · rw [h] at g1; cases g1
              · exact absurd hb (hap b (hsh h g3))
theorem lq_one {L : Nat} {nx : Nat → List Nat} (hb : ∀ i, ∀ x ∈ nx i, x < L) : ∀ f n E s, E.length = L → n < L → E.getD n false = false → Sp.cf E ≤ f → LfQ nx L [n] E s (wOne Sp.lf nx f n (E, s))
  | 0, n, E, s, hE, hn, h0, hf => by
    have h1 : E[n]? = some false := by
      rw [List.getD_eq_getElem?_getD] at h0
      rw [List.getElem?_eq_getElem (by omega)] at h0 ⊢
      simpa using h0
    have := cf_set h1
    omega
  | f + 1, n, E, s, hE, hn, h0, hf => by
    have h1 : E[n]? = some false := by
      rw [List.getD_eq_getElem?_getD] at h0
      rw [List.getElem?_eq_getElem (by omega)] at h0 ⊢
      simpa using h0
    have hc := cf_set h1
    have H := lq_all (fun m E s => lq_one hb f m E s) (nx n) (E.set n true) s (by simpa using hE) (hb n) (by omega)
    rw [wOne]
    show LfQ nx L [n] E s (if (some true : Option Bool) = some true then (if (wAll (wOne Sp.lf nx f) (nx n) (E.set n true, s)).1 = some true then wLeave Sp.lf n (wAll (wOne Sp.lf nx f) (nx n) (E.set n true, s)).2 else _) else _)
    rw [if_pos rfl, if_pos H.ok]
    generalize wAll (wOne Sp.lf nx f) (nx n) (E.set n true, s) = r at H ⊢
    obtain ⟨r1, E1, s1⟩ := r
    obtain ⟨u, e1, nd1, p1, q1, c1⟩ := H.row
    have hal := H.all
    have hmo := H.mor
    dsimp only at e1 p1 q1 hal hmo ⊢
    subst e1
    have hn1 : n ∉ u := fun h => by
      have := (p1 n h).2.1
      rw [getD_set_eq (by omega)] at this; cases this
    have hnE : E1.getD n false = true := hmo.2 n (getD_set_eq (by omega))
    have hnr : ∀ x ∈ u, RhE nx E [n] x := fun x hx => RhE.next h0 (p1 x hx).2.2.2.1
    refine ⟨rfl, (Mor.set E n).trans hmo, fun x hx => by simp at hx; subst hx; exact hnE, u ++ [n], by simp [wLeave, Sp.lf], ?_, fun x hx => ?_, fun x hx => ?_, fun a ha b hb2 hr => ?_⟩
    · rw [List.nodup_append]; exact ⟨nd1, by simp, fun x hx y hy e => by simp at hy; subst hy; exact hn1 (e ▸ hx)⟩
    · rcases List.mem_append.1 hx with hx | hx
      · obtain ⟨a, b, c, d, g⟩ := p1 x hx
        exact ⟨a, mor_no (Mor.set E n) b, c, hnr x hx, g⟩
      · simp at hx; subst hx
        exact ⟨hn, h0, hnE, .self h0, hal⟩
    · rcases q1 x hx with h | h
      · by_cases e : x = n
        · exact .inr (by simp [e])
        · rw [getD_set_ne e] at h; exact .inl h
      · exact .inr (by simp [h])
    · rcases List.mem_append.1 ha with ha | ha
      · have viaN : RhE nx E [a] n → ∃ w ∈ u ++ [n], RhE nx E [a] w ∧ RhE nx E [w] a ∧ Aft (u ++ [n]) b w := fun h => ⟨n, by simp, h, hnr a ha, Aft.last u b n⟩
        rcases List.mem_append.1 hb2 with hb2 | hb2
        · rcases hr.cut1 n with h | h
          · obtain ⟨w, hw, r1, r2, r3⟩ := c1 a ha b hb2 h
            exact ⟨w, by simp [hw], r1.down (Mor.set E n), r2.down (Mor.set E n), r3.left (by simp; exact fun e => hn1 (e ▸ hb2))⟩
          · exact viaN h
        · simp at hb2; subst hb2; exact viaN hr
      · simp at ha; subst ha
        exact ⟨a, by simp, .self h0, .self h0, Aft.last u b a⟩
end Go.Proofs.YtikhpbidbcfedaaGreat

/- Plain mathematics: the parts of a graph are the nodes that reach one another: a search there, and one back. -/
namespace Go.Proofs.YtikhpbidbcfedaaGreat

def Rw (nx : Nat → List Nat) (x y : Nat) : Prop := Rch nx (-1) [x] y
theorem Rw.self (nx : Nat → List Nat) (x : Nat) : Rw nx x x := .base (by simp) (by omega)
theorem Rw.trans {nx : Nat → List Nat} {x y z : Nat} (h : Rw nx x y) (k : Rw nx y z) : Rw nx x z := by
  unfold Rw at k
  induction k with
  | base c _ => simp at c; subst c; exact h
  | step _ c d ih => exact .step ih c d
theorem Rw.one {nx : Nat → List Nat} {x y : Nat} (h : y ∈ nx x) : Rw nx x y := .step (.base (by simp) (by omega)) h (by omega)
theorem Rw.lt {nx : Nat → List Nat} {L x y : Nat} (hb : ∀ i, ∀ x ∈ nx i, x < L) (h : Rw nx x y) (hx : x < L) : y < L := by
  unfold Rw at h
  cases h with
  | base c _ => simp at c; subst c; exact hx
  | step _ c _ => exact hb _ _ c
def Mu (nx : Nat → List Nat) (x y : Nat) : Prop := Rw nx x y ∧ Rw nx y x
theorem Mu.self (nx : Nat → List Nat) (x : Nat) : Mu nx x x := ⟨.self nx x, .self nx x⟩
theorem Mu.symm {nx : Nat → List Nat} {x y : Nat} (h : Mu nx x y) : Mu nx y x := ⟨h.2, h.1⟩
theorem Mu.trans {nx : Nat → List Nat} {x y z : Nat} (h : Mu nx x y) (k : Mu nx y z) : Mu nx x z := ⟨h.1.trans k.1, k.2.trans h.2⟩
theorem rep_no (L x : Nat) : (List.replicate L false).getD x false = false := by
  rw [List.getD_eq_getElem?_getD, List.getElem?_replicate]; split <;> rfl
theorem rhE_rw {nx : Nat → List Nat} {E : List Bool} {x y : Nat} (h : RhE nx E [x] y) : Rw nx x y := by
  induction h with
  | base c _ => exact .base c (by omega)
  | step _ c _ ih => exact .step ih c (by omega)
theorem rw_rhE {nx : Nat → List Nat} {L x y : Nat} (h : Rw nx x y) : RhE nx (List.replicate L false) [x] y := by
  unfold Rw at h
  induction h with
  | base c _ => exact .base c (rep_no _ _)
  | step _ c _ ih => exact .step ih c (rep_no _ _)
theorem lfo_fin {nx : Nat → List Nat} {L : Nat} (hb : ∀ i, ∀ x ∈ nx i, x < L) : (Sp.lfo nx L).Nodup ∧ (∀ x, x ∈ Sp.lfo nx L ↔ x < L) ∧ ∀ a b, a < L → b < L → Rw nx a b → ∃ w, w < L ∧ Mu nx a w ∧ Aft (Sp.lfo nx L) b w := by
  have H := lq_all (lq_one hb L) (List.range L) (List.replicate L false) [] (by simp) (by simp) (by have := cf_len (List.replicate L false); simpa using this)
  obtain ⟨u, e, nd, p, q, c⟩ := H.row
  have e' : Sp.lfo nx L = u := by unfold Sp.lfo; rw [e]; rfl
  have hm : ∀ x, x ∈ u ↔ x < L := fun x => ⟨fun h => (p x h).1, fun h => by
    rcases q x (H.all x (by simpa using h)) with h | h
    · rw [rep_no] at h; cases h
    · exact h⟩
  rw [e']
  refine ⟨nd, hm, fun a b ha hb2 h => ?_⟩
  obtain ⟨w, hw, r1, r2, r3⟩ := c a ((hm a).2 ha) b ((hm b).2 hb2) (rw_rhE h)
  exact ⟨w, (hm w).1 hw, ⟨rhE_rw r1, rhE_rw r2⟩, r3⟩
section
variable {nx : Nat → List Nat} {L : Nat}
theorem back_rw {S : List Bool} {n x : Nat} (h : RhE (Sp.bkn nx L) S [n] x) : Rw nx x n := by
  induction h with
  | base c _ => simp at c; subst c; exact .self nx _
  | step _ c _ ih => exact (Rw.one (bkn_mem.1 c).2).trans ih
theorem rw_back {S : List Bool} {n : Nat} (hb : ∀ i, ∀ x ∈ nx i, x < L) (hS : ∀ z, Mu nx z n → S.getD z false = false) {x z : Nat} (h : Rw nx x z) (hx : x < L) : Rw nx n x → Rw nx z n → RhE (Sp.bkn nx L) S [n] z → RhE (Sp.bkn nx L) S [n] x := by
  unfold Rw at h
  induction h with
  | base c _ => simp at c; subst c; exact fun _ _ h => h
  | @step y z h0 c d ih =>
    intro hnx hzn hz
    have hy : Rw nx x y := h0
    have hyn : Rw nx y n := (Rw.one c).trans hzn
    exact ih hnx hyn (.step hz (bkn_mem.2 ⟨hy.lt hb hx, c⟩) (hS y ⟨hyn, hnx.trans hy⟩))
structure PtQ (nx : Nat → List Nat) (L : Nat) (q : List Nat) (st : List Bool × List (List Nat)) : Prop where
  len : st.1.length = L
  fl : ∀ x, st.1.getD x false = true ↔ ∃ y ∈ q, Mu nx x y
  rows : ∀ r ∈ st.2, r.Nodup ∧ r ≠ [] ∧ ∃ y ∈ q, ∀ x, x ∈ r ↔ Mu nx x y
  cov : ∀ y ∈ q, ∃ r ∈ st.2, y ∈ r
  dis : st.2.Pairwise fun r1 r2 => ∀ x ∈ r1, x ∉ r2
theorem bk_lt (nx : Nat → List Nat) (L : Nat) : ∀ i, ∀ x ∈ Sp.bkn nx L i, x < L := fun _ _ h => (bkn_mem.1 h).1
theorem ptq (hb : ∀ i, ∀ x ∈ nx i, x < L) : ∀ (q p : List Nat), Sp.lfo nx L = p ++ q → PtQ nx L q (Sp.pts (Sp.bkn nx L) L q.reverse)
  | [], _, _ => ⟨by simp [Sp.pts], fun x => by simp only [Sp.pts, List.reverse_nil, List.foldl_nil]; rw [rep_no]; simp, by simp [Sp.pts], by simp, by simp [Sp.pts]⟩
  | n :: q, p, hF => by
    obtain ⟨nd, hm, hfin⟩ := lfo_fin hb
    have ih := ptq hb q (p ++ [n]) (by rw [hF]; simp)
    have hnL : n < L := (hm n).1 (by rw [hF]; simp)
    rw [List.reverse_cons, pts_snoc]
    generalize Sp.pts (Sp.bkn nx L) L q.reverse = st at ih ⊢
    obtain ⟨S, P⟩ := st
    obtain ⟨i1, i2, i3, i4, i5⟩ := ih
    dsimp only at i1 i2 i3 i4 i5
    have H := lq_all (lq_one (bk_lt nx L) L) [n] S [] i1 (by simpa using hnL) (by have := cf_len S; omega)
    have hok := H.row
    have hmor := H.mor
    have hall := H.all n (by simp)
    unfold Sp.pst
    generalize wAll (wOne Sp.lf (Sp.bkn nx L) L) [n] (S, []) = r at H hok hmor hall ⊢
    obtain ⟨r1, S1, u⟩ := r
    obtain ⟨v, e, ndu, pu, qu, _⟩ := hok
    dsimp only at e pu qu hmor hall ⊢
    rw [List.nil_append] at e
    subst e
    cases hSn : S.getD n false with
    | true =>
      have hu : u = [] := by
        rw [List.eq_nil_iff_forall_not_mem]
        intro x hx
        have key : ∀ y, ¬ RhE (Sp.bkn nx L) S [n] y := fun y h => by
          induction h with
          | base c d => simp at c; subst c; rw [hSn] at d; cases d
          | step _ _ _ ih => exact ih
        exact key x (pu x hx).2.2.2.1
      subst hu
      rw [if_pos rfl]
      obtain ⟨y0, hy0, hny⟩ := (i2 n).1 hSn
      have hS1 : ∀ x, S1.getD x false = true ↔ S.getD x false = true := fun x => ⟨fun h => (qu x h).resolve_right (by simp), fun h => hmor.2 x h⟩
      refine ⟨hmor.1.trans i1, fun x => ?_, fun r hr => ?_, fun y hy => ?_, i5⟩
      · rw [hS1, i2]
        refine ⟨fun ⟨y, h1, h2⟩ => ⟨y, by simp [h1], h2⟩, fun ⟨y, h1, h2⟩ => ?_⟩
        rcases List.mem_cons.1 h1 with e | h1
        · subst e; exact ⟨y0, hy0, h2.trans hny⟩
        · exact ⟨y, h1, h2⟩
      · obtain ⟨a, b, y, h1, h2⟩ := i3 r hr
        exact ⟨a, b, y, by simp [h1], h2⟩
      · rcases List.mem_cons.1 hy with e | hy
        · subst e
          obtain ⟨r, hr, hyr⟩ := i4 y0 hy0
          obtain ⟨_, _, z, _, h2⟩ := i3 r hr
          exact ⟨r, hr, (h2 y).2 (hny.trans ((h2 y0).1 hyr))⟩
        · exact i4 y hy
    | false =>
      have hnu : n ∈ u := by
        rcases qu n hall with h | h
        · rw [hSn] at h; cases h
        · exact h
      have hmu : ∀ z, Mu nx z n → S.getD z false = false := fun z hz => by
        cases h : S.getD z false with
        | false => rfl
        | true =>
          obtain ⟨y, hy, hzy⟩ := (i2 z).1 h
          have := (i2 n).2 ⟨y, hy, hz.symm.trans hzy⟩
          rw [hSn] at this; cases this
      have key : ∀ x, x ∈ u ↔ Mu nx x n := fun x => by
        refine ⟨fun hx => ?_, fun hx => ?_⟩
        · obtain ⟨hxL, hxS, _, hxr, _⟩ := pu x hx
          obtain ⟨w, hw, hxw, haf⟩ := hfin x n hxL hnL (back_rw hxr)
          have hwq := haf p (n :: q) hF (by simp)
          rcases List.mem_cons.1 hwq with e | hwq
          · subst e; exact hxw
          · have := (i2 x).2 ⟨w, hwq, hxw⟩
            rw [hxS] at this; cases this
        · have hxL : x < L := hx.2.lt hb hnL
          have hr := rw_back hb hmu hx.1 hxL hx.2 (Rw.self nx n) (.self hSn)
          exact shut_in (fun y hy => ⟨(pu y hy).2.2.1, (pu y hy).2.2.2.2⟩) qu hnu hr
      have hun : u ≠ [] := List.ne_nil_of_mem hnu
      rw [if_neg hun]
      refine ⟨hmor.1.trans i1, fun x => ?_, fun r hr => ?_, fun y hy => ?_, ?_⟩
      · refine ⟨fun h => ?_, fun ⟨y, h1, h2⟩ => ?_⟩
        · rcases qu x h with h | h
          · obtain ⟨y, h1, h2⟩ := (i2 x).1 h
            exact ⟨y, by simp [h1], h2⟩
          · exact ⟨n, by simp, (key x).1 h⟩
        · rcases List.mem_cons.1 h1 with e | h1
          · subst e; exact (pu x ((key x).2 h2)).2.2.1
          · exact hmor.2 x ((i2 x).2 ⟨y, h1, h2⟩)
      · rcases List.mem_append.1 hr with hr | hr
        · obtain ⟨a, b, y, h1, h2⟩ := i3 r hr
          exact ⟨a, b, y, by simp [h1], h2⟩
        · simp at hr; subst hr
          exact ⟨ndu, hun, n, by simp, key⟩
      · rcases List.mem_cons.1 hy with e | hy
        · subst e; exact ⟨u, by simp, hnu⟩
        · obtain ⟨r, hr, hyr⟩ := i4 y hy
          exact ⟨r, by simp [hr], hyr⟩
      · rw [List.pairwise_append]
        refine ⟨i5, by simp, fun r hr r2 hr2 x hx hx2 => ?_⟩
        simp at hr2; subst hr2
        obtain ⟨_, _, y, h1, h2⟩ := i3 r hr
        have h3 := (i2 x).2 ⟨y, h1, (h2 x).1 hx⟩
        rw [(pu x hx2).2.1] at h3; cases h3
def Sp.prt (nx : Nat → List Nat) (L : Nat) : List (List Nat) := (Sp.pts (Sp.bkn nx L) L (Sp.lfo nx L).reverse).2
theorem prt_ok (hb : ∀ i, ∀ x ∈ nx i, x < L) : (∀ r ∈ Sp.prt nx L, r.Nodup ∧ r ≠ [] ∧ ∃ y, y < L ∧ ∀ x, x ∈ r ↔ Mu nx x y) ∧ (∀ y, y < L → ∃ r ∈ Sp.prt nx L, y ∈ r) ∧ (Sp.prt nx L).Pairwise fun r1 r2 => ∀ x ∈ r1, x ∉ r2 := by
  have H := ptq hb (Sp.lfo nx L) [] rfl
  obtain ⟨_, hm, _⟩ := lfo_fin hb
  refine ⟨fun r hr => ?_, fun y hy => H.cov y ((hm y).2 hy), H.dis⟩
  obtain ⟨a, b, y, h1, h2⟩ := H.rows r hr
  exact ⟨a, b, y, (hm y).1 h1, h2⟩
end
end Go.Proofs.YtikhpbidbcfedaaGreat

