/- Plain mathematics: the way that a search finds is the least of the shortest ones. -/
import Derived.Test.YtikhpbidbcfedaaGreatKp1
namespace Go.Proofs.YtikhpbidbcfedaaGreat

section
variable {nx : Nat → List Nat} {wo : Int} {L : Nat} {src : List Nat} {s : Bf}
theorem BI.fin (H : BI nx wo L src s s.ord.length []) {p z : Nat} (hp : p ∈ s.ord) (hz : z ∈ nx p) (hw : (z : Int) ≠ wo) : z ∈ s.ord ∧ (s.bq z ≠ z → s.ps (s.bq z) ≤ s.ps p) := H.cl p hp z hz hw (.inl (H.pslt hp))
theorem BI.up (H : BI nx wo L src s s.ord.length []) {x : Nat} (hx : x ∈ s.ord) (hb : s.bq x ≠ x) : s.bq x ∈ s.ord ∧ s.ps (s.bq x) < s.ps x ∧ x ∈ nx (s.bq x) ∧ s.lv x = s.lv (s.bq x) + 1 := by
  rcases H.st x hx with ⟨_, h, _⟩ | ⟨h1, h2, h3, h4, _⟩
  · exact absurd h hb
  · exact ⟨h1, h2, h3, h4⟩
theorem BI.root (H : BI nx wo L src s s.ord.length []) {x : Nat} (hx : x ∈ s.ord) (hb : s.bq x = x) : x ∈ src ∧ s.lv x = 0 := by
  rcases H.st x hx with ⟨h, _, h2⟩ | ⟨h1, h2, _⟩
  · exact ⟨h, h2⟩
  · rw [hb] at h2; omega
theorem BI.lvmono (H : BI nx wo L src s s.ord.length []) : ∀ n, ∀ x ∈ s.ord, ∀ y ∈ s.ord, s.ps y ≤ n → s.ps x ≤ s.ps y → s.lv x ≤ s.lv y := by
  intro n
  induction n with
  | zero =>
    intro x hx y hy hn hxy
    have : x = y := H.psinj hx hy (by omega)
    subst this; exact Nat.le_refl _
  | succ n ih =>
    intro x hx y hy hn hxy
    by_cases he : s.ps x = s.ps y
    · have : x = y := H.psinj hx hy he
      subst this; exact Nat.le_refl _
    · by_cases hbx : s.bq x = x
      · rw [(H.root hx hbx).2]; exact Nat.zero_le _
      · by_cases hby : s.bq y = y
        · have := H.s1 y hy x hx hby hbx; omega
        · have h1 := H.up hx hbx
          have h2 := H.up hy hby
          have h3 := (H.mo x hx y hy hbx hby (by omega)).1
          have := ih _ h1.1 _ h2.1 (by omega) h3
          omega
theorem BI.lip (H : BI nx wo L src s s.ord.length []) {p z : Nat} (hp : p ∈ s.ord) (hz : z ∈ nx p) (hw : (z : Int) ≠ wo) : s.lv z ≤ s.lv p + 1 := by
  have h := H.fin hp hz hw
  by_cases hb : s.bq z = z
  · rw [(H.root h.1 hb).2]; exact Nat.zero_le _
  · have h1 := H.up h.1 hb
    have := H.lvmono _ _ h1.1 _ hp (Nat.le_refl _) (h.2 hb)
    omega
end

def Bf.chn (s : Bf) : Nat → Nat → List Nat
  | 0, x => [x]
  | f + 1, x => if s.bq x = x then [x] else x :: s.chn f (s.bq x)
def Bf.On (s : Bf) (b : Nat) : Nat → List Nat → Prop
  | x, [] => x = b
  | x, y :: l => s.bq y = x ∧ s.bq y ≠ y ∧ y ∈ s.ord ∧ s.On b y l
def Sp.stp (nx : Nat → List Nat) (d : Nat → Int) (n : Nat) : Nat := ((nx n).find? fun v => d v == d n - 1).getD n
def Sp.lst (nx : Nat → List Nat) (d : Nat → Int) (to : Nat) : Nat → Nat → List Nat
  | 0, n => [n]
  | f + 1, n => if n = to then [n] else n :: Sp.lst nx d to f (Sp.stp nx d n)
def Bf.dst (s : Bf) (x : Nat) : Int := if x ∈ s.ord then (s.lv x : Int) else -1

theorem chn_on {nx : Nat → List Nat} {wo : Int} {L : Nat} {src : List Nat} {s : Bf} (H : BI nx wo L src s s.ord.length []) {b : Nat} : ∀ f x suf, x ∈ s.ord → s.On b x suf → s.ps x ≤ f → ∃ a suf2, (s.chn f x).reverse ++ suf = a :: suf2 ∧ s.On b a suf2 ∧ a ∈ s.ord ∧ s.bq a = a
  | 0, x, suf, hx, ho, hf => by
    have hb : s.bq x = x := Classical.byContradiction fun hb => by have := (H.up hx hb).2.1; omega
    exact ⟨x, suf, by simp [Bf.chn], ho, hx, hb⟩
  | f + 1, x, suf, hx, ho, hf => by
    by_cases hb : s.bq x = x
    · exact ⟨x, suf, by simp [Bf.chn, hb], ho, hx, hb⟩
    · have h1 := H.up hx hb
      obtain ⟨a, suf2, h2, h3⟩ := chn_on H f (s.bq x) (x :: suf) h1.1 ⟨rfl, hb, hx, ho⟩ (by omega)
      exact ⟨a, suf2, by rw [Bf.chn, if_neg hb]; simpa using h2, h3⟩
theorem on_lv {nx : Nat → List Nat} {wo : Int} {L : Nat} {src : List Nat} {s : Bf} (H : BI nx wo L src s s.ord.length []) {b : Nat} : ∀ suf x, s.On b x suf → s.lv b = s.lv x + suf.length
  | [], x, h => by have : x = b := h; subst this; rfl
  | y :: l, x, h => by
    have := on_lv H l y h.2.2.2
    have h1 := (H.up h.2.2.1 h.2.1).2.2.2
    rw [h.1] at h1
    rw [List.length_cons]; omega

section
variable {nx bk : Nat → List Nat} {L a b : Nat} {s t : Bf}
structure TwoW (nx bk : Nat → List Nat) (L a b : Nat) (s t : Bf) : Prop where
  hs : BI nx (-1) L [a] s s.ord.length []
  ht : BI bk (-1) L [b] t t.ord.length []
  tw : ∀ x y, x < L → y < L → (y ∈ nx x ↔ x ∈ bk y)
  nb : ∀ i, ∀ x ∈ nx i, x < L
  bb : ∀ i, ∀ x ∈ bk i, x < L
  nl : ∀ i, (nx i).Pairwise (· < ·)
theorem nn {x : Nat} : (x : Int) ≠ -1 := by omega
theorem TwoW.d3 (H : TwoW nx bk L a b s t) {x : Nat} (hx : x ∈ t.ord) (hb : x ≠ b) : ∃ y ∈ nx x, y ∈ t.ord ∧ t.lv x = t.lv y + 1 := by
  rcases H.ht.st x hx with ⟨h, _⟩ | ⟨h1, _, h3, h4, _⟩
  · simp at h; exact absurd h hb
  · exact ⟨t.bq x, (H.tw _ _ (H.ht.bd x hx) (H.ht.bd _ h1)).2 h3, h1, h4⟩
theorem TwoW.d2 (H : TwoW nx bk L a b s t) {x y : Nat} (hx : x < L) (hy : y ∈ nx x) (ht : y ∈ t.ord) : x ∈ t.ord ∧ t.lv x ≤ t.lv y + 1 := by
  have h1 := (H.tw x y hx (H.nb _ _ hy)).1 hy
  exact ⟨(H.ht.fin ht h1 nn).1, H.ht.lip ht h1 nn⟩
theorem TwoW.bin (H : TwoW nx bk L a b s t) : b ∈ t.ord := H.ht.sr b (by simp) nn
theorem TwoW.ain (H : TwoW nx bk L a b s t) : a ∈ s.ord := H.hs.sr a (by simp) nn
theorem TwoW.lb (H : TwoW nx bk L a b s t) : t.lv b = 0 := by
  rcases H.ht.st b H.bin with ⟨_, _, h⟩ | ⟨h1, h2, h3, h4, _⟩
  · exact h
  · by_cases hq : t.bq b = b
    · rw [hq] at h2; omega
    · have hmo := H.ht.s1
      -- who began stands ahead of all: b itself began
      have : ∃ r ∈ t.ord, t.bq r = r ∧ r ∈ [b] := by
        obtain ⟨c, _, _, _, hc, hcb⟩ := chn_on H.ht (t.ps b) b [] H.bin rfl (Nat.le_refl _)
        exact ⟨c, hc, hcb, (H.ht.root hc hcb).1⟩
      obtain ⟨r, _, hr, hrb⟩ := this
      simp at hrb; subst hrb; exact absurd hr hq
theorem TwoW.d0 (H : TwoW nx bk L a b s t) {x : Nat} (hx : x ∈ t.ord) (h : t.lv x = 0) : x = b := by
  rcases H.ht.st x hx with ⟨h1, _⟩ | ⟨_, _, _, h4, _⟩
  · simpa using h1
  · omega
theorem TwoW.there (H : TwoW nx bk L a b s t) : ∀ k x, x ∈ s.ord → x ∈ t.ord → t.lv x = k → b ∈ s.ord
  | 0, x, hx, hxt, hk => by rw [← H.d0 hxt hk]; exact hx
  | k + 1, x, hx, hxt, hk => by
    obtain ⟨y, hy, hyt, h⟩ := H.d3 hxt (fun e => by rw [e, H.lb] at hk; omega)
    exact H.there k y (H.hs.fin hx hy nn).1 hyt (by omega)
theorem TwoW.onin (H : TwoW nx bk L a b s t) : ∀ suf x, x ∈ s.ord → s.On b x suf → x ∈ t.ord
  | [], x, hx, h => by have : x = b := h; rw [this]; exact H.bin
  | y :: l, x, hx, h => by
    have h1 := H.onin l y h.2.2.1 h.2.2.2
    have h2 := (H.hs.up h.2.2.1 h.2.1).2.2.1
    rw [h.1] at h2
    exact (H.d2 (H.hs.bd x hx) h2 h1).1
theorem TwoW.both (H : TwoW nx bk L a b s t) : a ∈ t.ord ↔ b ∈ s.ord := by
  refine ⟨fun h => H.there _ a H.ain h rfl, fun h => ?_⟩
  obtain ⟨c, suf, _, h2, hc, hcb⟩ := chn_on H.hs (s.ps b) b [] h rfl (Nat.le_refl _)
  have := (H.hs.root hc hcb).1
  simp at this; subst this
  exact H.onin suf c hc h2
theorem TwoW.low (H : TwoW nx bk L a b s t) : ∀ k x, x ∈ s.ord → x ∈ t.ord → t.lv x = k → s.lv b ≤ s.lv x + k
  | 0, x, hx, hxt, hk => by rw [← H.d0 hxt hk]; exact Nat.le_refl _
  | k + 1, x, hx, hxt, hk => by
    obtain ⟨y, hy, hyt, h⟩ := H.d3 hxt (fun e => by rw [e, H.lb] at hk; omega)
    have h1 := H.low k y (H.hs.fin hx hy nn).1 hyt (by omega)
    have h2 := H.hs.lip hx hy nn
    omega
theorem TwoW.keyB (H : TwoW nx bk L a b s t) : ∀ suf y, y ∈ s.ord → s.On b y suf → ∀ v ∈ s.ord, v ∈ t.ord → t.lv v = suf.length → s.ps v < s.ps y → False
  | [], y, hy, ho, v, hv, hvt, hl, hp => by
    have h1 : y = b := ho
    have h2 := H.d0 hvt hl
    rw [h1, h2] at hp; omega
  | z :: suf, y, hy, ho, v, hv, hvt, hl, hp => by
    obtain ⟨hz1, hz2, hz3, hz4⟩ := ho
    rw [List.length_cons] at hl
    obtain ⟨v', hv', hvt', hlv⟩ := H.d3 hvt (fun e => by rw [e, H.lb] at hl; omega)
    have hf := H.hs.fin hv hv' nn
    refine H.keyB suf z hz3 hz4 v' hf.1 hvt' (by omega) ?_
    rcases Nat.lt_or_ge (s.ps v') (s.ps z) with h | h
    · exact h
    · exfalso
      by_cases hb : s.bq v' = v'
      · have := H.hs.s1 v' hf.1 z hz3 hb hz2; omega
      · have h1 := hf.2 hb
        by_cases he : s.ps z = s.ps v'
        · have e := H.hs.psinj hz3 hf.1 he
          rw [← e, hz1] at h1; omega
        · have h2 := (H.hs.mo z hz3 v' hf.1 hz2 hb (by omega)).1
          rw [hz1] at h2; omega
theorem find_first {l : List Nat} {p : Nat → Bool} {y : Nat} (hl : l.Pairwise (· < ·)) (hy : y ∈ l) (hp : p y = true) (hm : ∀ v ∈ l, p v = true → y ≤ v) : l.find? p = some y := by
  induction l with
  | nil => simp at hy
  | cons x l ih =>
    rw [List.pairwise_cons] at hl
    rw [List.find?_cons]
    rcases List.mem_cons.1 hy with e | hy
    · subst e; rw [hp]
    · cases hx : p x with
      | true => have := hm x (by simp) hx; have := hl.1 y hy; omega
      | false => exact ih hl.2 hy (fun v hv => hm v (by simp [hv]))
theorem TwoW.main (H : TwoW nx bk L a b s t) : ∀ suf x, x ∈ s.ord → s.On b x suf → t.dst x = suf.length ∧ Sp.lst nx t.dst b suf.length x = x :: suf
  | [], x, hx, ho => by
    have : x = b := ho
    subst this
    exact ⟨by simp [Bf.dst, H.bin, H.lb], rfl⟩
  | y :: suf, x, hx, ho => by
    have ho' := ho
    obtain ⟨h1, h2, h3, h4⟩ := ho
    obtain ⟨ih1, ih2⟩ := H.main suf y h3 h4
    have hyt := H.onin suf y h3 h4
    have hxt := H.onin (y :: suf) x hx ho'
    have hxy : y ∈ nx x := by have := (H.hs.up h3 h2).2.2.1; rwa [h1] at this
    have hly : t.lv y = suf.length := by simp only [Bf.dst, if_pos hyt] at ih1; omega
    have hlx : t.lv x = suf.length + 1 := by
      have e1 := (H.d2 (H.hs.bd x hx) hxy hyt).2
      have e2 := H.low _ x hx hxt rfl
      have e3 := on_lv H.hs _ x ho'
      rw [List.length_cons] at e3
      omega
    have hdx : t.dst x = (suf.length : Int) + 1 := by simp only [Bf.dst, if_pos hxt, hlx]; omega
    have hxb : x ≠ b := fun e => by rw [e, H.lb] at hlx; omega
    have hst : Sp.stp nx t.dst x = y := by
      unfold Sp.stp
      rw [find_first (y := y) (H.nl x) hxy]
      · rfl
      · rw [ih1, hdx]; simp
      · intro v hv hd
        have hd' : t.dst v = suf.length := by have : t.dst v = t.dst x - 1 := by simpa using hd
                                              rw [hdx] at this; omega
        have hvt : v ∈ t.ord := by
          by_cases hvt : v ∈ t.ord
          · exact hvt
          · simp only [Bf.dst, if_neg hvt] at hd'; omega
        have hlv : t.lv v = suf.length := by simp only [Bf.dst, if_pos hvt] at hd'; omega
        have hvs := H.hs.fin hx hv nn
        rcases Nat.lt_or_ge v y with hlt | hge
        · exfalso
          refine H.keyB suf y h3 h4 v hvs.1 hvt hlv ?_
          rcases Nat.lt_or_ge (s.ps v) (s.ps y) with h | h
          · exact h
          · exfalso
            by_cases he : s.ps y = s.ps v
            · have := H.hs.psinj h3 hvs.1 he; omega
            · by_cases hb : s.bq v = v
              · have := H.hs.s1 v hvs.1 y h3 hb h2; omega
              · have h5 := H.hs.mo y h3 v hvs.1 h2 hb (by omega)
                have h6 := hvs.2 hb
                rw [h1] at h5
                have : s.bq v = x := H.hs.psinj (H.hs.up hvs.1 hb).1 hx (by omega)
                have := h5.2 (by rw [this])
                omega
        · exact hge
    refine ⟨by rw [hdx, List.length_cons]; omega, ?_⟩
    rw [List.length_cons, Sp.lst, if_neg hxb, hst, ih2]
theorem TwoW.way (H : TwoW nx bk L a b s t) (h : b ∈ s.ord) : (s.chn (s.ps b) b).reverse = Sp.lst nx t.dst b (t.lv a) a ∧ a ∈ t.ord := by
  obtain ⟨c, suf, h1, h2, hc, hcb⟩ := chn_on H.hs (s.ps b) b [] h rfl (Nat.le_refl _)
  have := (H.hs.root hc hcb).1
  simp at this; subst this
  obtain ⟨h3, h4⟩ := H.main suf c hc h2
  have hct := H.onin suf c hc h2
  have : t.lv c = suf.length := by simp only [Bf.dst, if_pos hct] at h3; omega
  rw [this, h4]
  exact ⟨by simpa using h1, hct⟩
end
end Go.Proofs.YtikhpbidbcfedaaGreat

/- Plain mathematics: the last node ahead of one through which all ways to it go. -/
namespace Go.Proofs.YtikhpbidbcfedaaGreat

structure WayF (nx : Nat → List Nat) (L : Nat) (src : List Nat) (n : Nat) (W : List Nat) : Prop where
  nd : W.Nodup
  hd : ∀ x : Nat, W[0]? = some x → x ∈ src
  ne : W ≠ []
  ed : ∀ (i x y : Nat), W[i]? = some x → W[i + 1]? = some y → y ∈ nx x
  la : W[W.length - 1]? = some n
  bd : ∀ x ∈ W, x < L
theorem WayF.pos {nx : Nat → List Nat} {L : Nat} {src : List Nat} {n : Nat} {W : List Nat} (h : WayF nx L src n W) : 0 < W.length := List.length_pos_iff.2 h.ne
theorem nd_at {W : List Nat} (h : W.Nodup) {i j x : Nat} (hi : W[i]? = some x) (hj : W[j]? = some x) : i = j := by
  obtain ⟨h1, e1⟩ := List.getElem?_eq_some_iff.1 hi
  obtain ⟨h2, e2⟩ := List.getElem?_eq_some_iff.1 hj
  exact nd_inj h h1 h2 (e1.trans e2.symm)
theorem WayF.snoc {nx : Nat → List Nat} {L : Nat} {src : List Nat} {u x : Nat} {W : List Nat} (h : WayF nx L src u W) (hx : x ∈ nx u) (hn : x ∉ W) (hb : x < L) : WayF nx L src x (W ++ [x]) := by
  have hp := h.pos
  refine ⟨?_, ?_, by simp, ?_, by simp, ?_⟩
  · rw [List.nodup_append]; exact ⟨h.nd, by simp, fun a ha b hb => by simp at hb; subst hb; exact fun e => hn (e ▸ ha)⟩
  · intro y hy; rw [List.getElem?_append_left hp] at hy; exact h.hd y hy
  · intro i a b h1 h2
    rcases Nat.lt_trichotomy (i + 1) W.length with hl | hl | hl
    · rw [List.getElem?_append_left (by omega)] at h1
      rw [List.getElem?_append_left hl] at h2
      exact h.ed i a b h1 h2
    · rw [List.getElem?_append_left (by omega)] at h1
      rw [List.getElem?_append_right (by omega), hl] at h2
      simp at h2; subst h2
      have := h.la
      rw [show W.length - 1 = i by omega, h1] at this
      rw [Option.some.inj this]; exact hx
    · rw [List.getElem?_append_right (by omega)] at h2
      rw [List.getElem?_eq_none (by simp; omega)] at h2; cases h2
  · intro y hy; rcases List.mem_append.1 hy with hy | hy
    · exact h.bd y hy
    · simp at hy; subst hy; exact hb
theorem chn_way {nx : Nat → List Nat} {wo : Int} {L : Nat} {src : List Nat} {s : Bf} (H : BI nx wo L src s s.ord.length []) : ∀ f x, x ∈ s.ord → s.ps x ≤ f → WayF nx L src x (s.chn f x).reverse ∧ ∀ y ∈ s.chn f x, s.ps y ≤ s.ps x
  | 0, x, hx, hf => by
    have hb : s.bq x = x := Classical.byContradiction fun hb => by have := (H.up hx hb).2.1; omega
    refine ⟨⟨by simp [Bf.chn], ?_, by simp [Bf.chn], ?_, by simp [Bf.chn], ?_⟩, by simp [Bf.chn]⟩
    · intro y hy; simp [Bf.chn] at hy; subst hy; exact (H.root hx hb).1
    · intro i a b _ h2; simp [Bf.chn] at h2
    · intro y hy; simp [Bf.chn] at hy; subst hy; exact H.bd _ hx
  | f + 1, x, hx, hf => by
    by_cases hb : s.bq x = x
    · rw [Bf.chn, if_pos hb]
      refine ⟨⟨by simp, ?_, by simp, ?_, by simp, ?_⟩, by simp⟩
      · intro y hy; simp at hy; subst hy; exact (H.root hx hb).1
      · intro i a b _ h2; simp at h2
      · intro y hy; simp at hy; subst hy; exact H.bd _ hx
    · have h1 := H.up hx hb
      obtain ⟨h2, h3⟩ := chn_way H f (s.bq x) h1.1 (by omega)
      rw [Bf.chn, if_neg hb]
      refine ⟨?_, ?_⟩
      · rw [List.reverse_cons]
        refine h2.snoc h1.2.2.1 (fun hm => ?_) (H.bd x hx)
        have := h3 x (by simpa using hm); omega
      · intro y hy; rcases List.mem_cons.1 hy with e | hy
        · rw [e]; exact Nat.le_refl _
        · have := h3 y hy; omega

section
variable {nx : Nat → List Nat} {L : Nat} {src : List Nat} {n : Nat} {W : List Nat}
theorem WayF.pre (h : WayF nx L src n W) {k : Int} : ∀ (j x : Nat), W[j]? = some x → (∀ (i y : Nat), i ≤ j → W[i]? = some y → (y : Int) ≠ k) → Rch nx k src x
  | 0, x, hx, hk => .base (h.hd x hx) (hk 0 x (Nat.le_refl _) hx)
  | j + 1, x, hx, hk => by
    have hj : j < W.length := by have := (List.getElem?_eq_some_iff.1 hx).1; omega
    have hy := List.getElem?_eq_getElem hj
    exact .step (h.pre j _ hy (fun i y hi => hk i y (by omega))) (h.ed j _ x hy hx) (hk (j + 1) x (Nat.le_refl _) hx)
theorem WayF.suf (h : WayF nx L src n W) {k : Int} {j x : Nat} (hx : W[j]? = some x) (hr : Rch nx k src x) (hk : ∀ (i y : Nat), j ≤ i → W[i]? = some y → (y : Int) ≠ k) : ∀ (d y : Nat), W[j + d]? = some y → Rch nx k src y
  | 0, y, hy => by rw [Nat.add_zero, hx] at hy; rw [← Option.some.inj hy]; exact hr
  | d + 1, y, hy => by
    have hj : j + d < W.length := by have := (List.getElem?_eq_some_iff.1 hy).1; omega
    have hz := List.getElem?_eq_getElem hj
    exact .step (h.suf hx hr hk d _ hz) (h.ed (j + d) _ y hz hy) (hk _ y (by omega) hy)
theorem WayF.tail (h : WayF nx L src n W) {k : Int} {j x : Nat} (hx : W[j]? = some x) (hr : Rch nx k src x) (hk : ∀ (i y : Nat), j ≤ i → W[i]? = some y → (y : Int) ≠ k) : Rch nx k src n := by
  have hj := (List.getElem?_eq_some_iff.1 hx).1
  refine h.suf hx hr hk (W.length - 1 - j) n ?_
  rw [show j + (W.length - 1 - j) = W.length - 1 by omega]; exact h.la
def Dom (nx : Nat → List Nat) (src : List Nat) (n k : Nat) : Prop := k ≠ n ∧ Rch nx (-1) src k ∧ ¬ Rch nx k src n
theorem WayF.dom (h : WayF nx L src n W) {k : Nat} (hd : Dom nx src n k) : ∃ j, j + 1 < W.length ∧ W[j]? = some k := by
  by_cases hk : k ∈ W
  · obtain ⟨j, hj, e⟩ := List.mem_iff_getElem.1 hk
    refine ⟨j, ?_, by rw [List.getElem?_eq_getElem hj, e]⟩
    rcases Nat.lt_or_ge (j + 1) W.length with h1 | h1
    · exact h1
    · exfalso
      have := h.la
      rw [show W.length - 1 = j by omega, List.getElem?_eq_getElem hj, e] at this
      exact hd.1 (Option.some.inj this)
  · exact absurd (h.pre (k := k) _ n h.la (fun i y _ hy e => hk (by have : y = k := (by omega); rw [← this]; exact List.mem_of_getElem? hy))) hd.2.2
theorem WayF.less (h : WayF nx L src n W) {s t a b : Nat} (hst : s < t) (ha : W[s]? = some a) (hb : W[t]? = some b) (hda : Dom nx src n a) (hdb : Dom nx src n b) :
    (∀ x, Rch nx a src x → Rch nx b src x) ∧ ¬ Rch nx a src a ∧ Rch nx b src a := by
  have hab : ¬ Rch nx a src b := fun hr => hda.2.2 (h.tail hb hr (fun i y hi hy e => by
    have : y = a := by omega
    subst this
    have := nd_at h.nd hy ha; omega))
  refine ⟨fun x hx => ?_, fun hr => ?_, ?_⟩
  · induction hx with
    | @base x h1 h2 => exact .base h1 (fun e => hab (by have : x = b := (by omega); rw [← this]; exact .base h1 h2))
    | @step y z h0 h1 h2 ih => exact .step ih h1 (fun e => hab (by have : z = b := (by omega); rw [← this]; exact .step h0 h1 h2))
  · cases hr with
    | base _ h2 => exact h2 rfl
    | step _ _ h2 => exact h2 rfl
  · exact h.pre s a ha (fun i y hi hy e => by
      have : y = b := by omega
      subst this
      have := nd_at h.nd hy hb; omega)

/-! ### what is reached beside the way -/
inductive Off (nx : Nat → List Nat) (W : List Nat) (srcs : Nat → Prop) : Nat → Prop
  | base {x} : srcs x → Off nx W srcs x
  | step {x z} : Off nx W srcs x → x ∉ W → z ∈ nx x → Off nx W srcs z
def Sp.srcs (nx : Nat → List Nat) (W src : List Nat) (a : Nat) (x : Nat) : Prop := x ∈ src ∨ ∃ s y, s < a ∧ W[s]? = some y ∧ x ∈ nx y
structure OnW (W : List Nat) (on : Nat → Int) : Prop where
  at_ : ∀ (i x : Nat), W[i]? = some x → on x = i
  off : ∀ (x : Nat), x ∉ W → on x = -1
structure Far (nx : Nat → List Nat) (W : List Nat) (on : Nat → Int) (srcs : Nat → Prop) (far : Int) : Prop where
  up : ∀ (x : Nat), Off nx W srcs x → on x ≤ far
  it : far = -1 ∨ ∃ x : Nat, x ∈ W ∧ Off nx W srcs x ∧ on x = far
theorem WayF.far (h : WayF nx L src n W) {on : Nat → Int} (ho : OnW W on) {a k : Nat} {far : Int} (hk : W[a]? = some k) (ha : a + 1 < W.length) (hf : Far nx W on (Sp.srcs nx W src a) far) : far = a ↔ ¬ Rch nx k src n := by
  have hwa : Off nx W (Sp.srcs nx W src a) k := by
    cases a with
    | zero => exact .base (.inl (h.hd k hk))
    | succ a =>
      have hy := List.getElem?_eq_getElem (l := W) (i := a) (by omega)
      exact .base (.inr ⟨a, _, by omega, hy, h.ed a _ k hy hk⟩)
  have hle : (a : Int) ≤ far := by have := hf.up k hwa; rw [ho.at_ a k hk] at this; exact this
  constructor
  · intro he hr
    have key : ∀ x, Rch nx k src x → Off nx W (Sp.srcs nx W src a) x ∧ (x ∉ W ∨ ∃ s, s < a ∧ W[s]? = some x) := by
      have two : ∀ x, x ≠ k → Off nx W (Sp.srcs nx W src a) x → Off nx W (Sp.srcs nx W src a) x ∧ (x ∉ W ∨ ∃ s, s < a ∧ W[s]? = some x) := fun x hxk hx => by
        refine ⟨hx, ?_⟩
        by_cases hm : x ∈ W
        · obtain ⟨j, hj, e⟩ := List.mem_iff_getElem.1 hm
          have hj' : W[j]? = some x := by rw [List.getElem?_eq_getElem hj, e]
          have := hf.up x hx
          rw [ho.at_ j x hj', he] at this
          refine .inr ⟨j, ?_, hj'⟩
          rcases Nat.lt_trichotomy j a with h1 | h1 | h1
          · exact h1
          · subst h1; rw [hk] at hj'; exact absurd (Option.some.inj hj').symm hxk
          · omega
        · exact .inl hm
      intro x hx
      induction hx with
      | @base x h1 h2 => exact two x (by omega) (.base (.inl h1))
      | @step y z _ h1 h2 ih =>
        refine two z (by omega) ?_
        rcases ih.2 with h3 | ⟨s, hs, h3⟩
        · exact .step ih.1 h3 h1
        · exact .base (.inr ⟨s, y, hs, h3, h1⟩)
    rcases (key n hr).2 with h1 | ⟨s, hs, h1⟩
    · exact h1 (List.mem_of_getElem? h.la)
    · have := nd_at h.nd h1 h.la; omega
  · intro hr
    rcases hf.it with h1 | ⟨x, hx, hox, he⟩
    · omega
    · obtain ⟨j, hj, e⟩ := List.mem_iff_getElem.1 hx
      have hj' : W[j]? = some x := by rw [List.getElem?_eq_getElem hj, e]
      rw [ho.at_ j x hj'] at he
      rcases Nat.lt_or_ge a j with hlt | hge
      · exfalso
        have key : ∀ y, Off nx W (Sp.srcs nx W src a) y → y ≠ k → Rch nx k src y := by
          intro y hy
          induction hy with
          | @base y h1 =>
            intro hyk
            rcases h1 with h1 | ⟨s, u, hs, hu, h1⟩
            · exact .base h1 (by omega)
            · refine .step (h.pre s u hu (fun i v hi hv e => ?_)) h1 (by omega)
              have : v = k := by omega
              subst this
              have := nd_at h.nd hv hk; omega
          | @step u z h0 h1 h2 ih =>
            intro hzk
            exact .step (ih (fun e => h1 (by rw [e]; exact List.mem_of_getElem? hk))) h2 (by omega)
        refine hr (h.tail hj' (key x hox (fun e => ?_)) (fun i y hi hy e => ?_))
        · subst e; have := nd_at h.nd hj' hk; omega
        · have : y = k := by omega
          subst this
          have := nd_at h.nd hy hk; omega
      · omega
/-! ### which is told -/
def IsK (nx : Nat → List Nat) (src : List Nat) (n : Nat) (W : List Nat) (m : Nat) (r : Int) : Prop :=
  (r = -1 ∧ ∀ (j k : Nat), j < m → W[j]? = some k → ¬ Dom nx src n k) ∨ ∃ (j k : Nat), j < m ∧ W[j]? = some k ∧ r = k ∧ Dom nx src n k ∧ ∀ (i x : Nat), j < i → i < m → W[i]? = some x → ¬ Dom nx src n x
theorem IsK.one {m : Nat} {r q : Int} (hr : IsK nx src n W m r) (hq : IsK nx src n W m q) : r = q := by
  rcases hr with ⟨e, h1⟩ | ⟨j, k, hj, hk, e, hd, hl⟩ <;> rcases hq with ⟨e', h1'⟩ | ⟨j', k', hj', hk', e', hd', hl'⟩
  · rw [e, e']
  · exact absurd hd' (h1 j' k' hj' hk')
  · exact absurd hd (h1' j k hj hk)
  · rcases Nat.lt_trichotomy j j' with h2 | h2 | h2
    · exact absurd hd' (hl j' k' h2 hj' hk')
    · subst h2; rw [hk] at hk'; rw [e, e', Option.some.inj hk']
    · exact absurd hd (hl' j k h2 hj hk)
def Sp.kb (dom : Nat → Bool) (c : Nat → Nat) : Nat → Int × Nat
  | 0 => (-1, 0)
  | i + 1 => if dom i = true ∧ ((Sp.kb dom c i).1 < 0 ∨ c i < (Sp.kb dom c i).2) then ((i : Int), c i) else Sp.kb dom c i
end
end Go.Proofs.YtikhpbidbcfedaaGreat

