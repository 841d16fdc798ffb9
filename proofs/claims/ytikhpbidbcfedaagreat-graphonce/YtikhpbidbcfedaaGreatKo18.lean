/- Plain mathematics: the last node ahead of one through which all ways to it go. -/
import Derived.Test.YtikhpbidbcfedaaGreatKo17
namespace Go.Proofs.YtikhpbidbcfedaaGreat

structure WayF (nx : Nat → List Nat) (L : Nat) (src : List Nat) (n : Nat) (W : List Nat) : Prop where
  nd : W.Nodup
  hd : ∀ x : Nat, W[0]? = some x → x ∈ src
  ne : W ≠ []
  ed : ∀ (i x y : Nat), W[i]? = some x → W[i + 1]? = some y → y ∈ nx x
  la : W[W.length - 1]? = some n
  bd : ∀ x ∈ W, x < L
theorem WayF.pos {nx : Nat → List Nat} {L : Nat} {src : List Nat} {n : Nat} {W : List Nat} (h : WayF nx L src n W) : 0 < W.length := List.length_pos_iff.2 h.ne
theorem nd_at {W : List Nat} (h : W.Nodup) {i j x : Nat} (hi : W[i]? = some x) (hj : W[j]? = some x) : i = j := by
  obtain ⟨h1, e1⟩ := List.getElem?_eq_some_iff.1 hi
  obtain ⟨h2, e2⟩ := List.getElem?_eq_some_iff.1 hj
  exact nd_inj h h1 h2 (e1.trans e2.symm)
theorem WayF.snoc {nx : Nat → List Nat} {L : Nat} {src : List Nat} {u x : Nat} {W : List Nat} (h : WayF nx L src u W) (hx : x ∈ nx u) (hn : x ∉ W) (hb : x < L) : WayF nx L src x (W ++ [x]) := by
  have hp := h.pos
  refine ⟨?_, ?_, by simp, ?_, by simp, ?_⟩
  · rw [List.nodup_append]; exact ⟨h.nd, by simp, fun a ha b hb => by simp at hb; subst hb; exact fun e => hn (e ▸ ha)⟩
  · intro y hy; rw [List.getElem?_append_left hp] at hy; exact h.hd y hy
  · intro i a b h1 h2
    rcases Nat.lt_trichotomy (i + 1) W.length with hl | hl | hl
    · rw [List.getElem?_append_left (by omega)] at h1
      rw [List.getElem?_append_left hl] at h2
      exact h.ed i a b h1 h2
    · rw [List.getElem?_append_left (by omega)] at h1
      rw [List.getElem?_append_right (by omega), hl] at h2
      simp at h2; subst h2
      have := h.la
      rw [show W.length - 1 = i by omega, h1] at this
      rw [Option.some.inj this]; exact hx
    · rw [List.getElem?_append_right (by omega)] at h2
      rw [List.getElem?_eq_none (by simp; omega)] at h2; cases h2
  · intro y hy; rcases List.mem_append.1 hy with hy | hy
    · exact h.bd y hy
    · simp at hy; subst hy; exact hb
theorem chn_way {nx : Nat → List Nat} {wo : Int} {L : Nat} {src : List Nat} {s : Bf} (H : BI nx wo L src s s.ord.length []) : ∀ f x, x ∈ s.ord → s.ps x ≤ f → WayF nx L src x (s.chn f x).reverse ∧ ∀ y ∈ s.chn f x, s.ps y ≤ s.ps x
  | 0, x, hx, hf => by
    have hb : s.bq x = x := Classical.byContradiction fun hb => by have := (H.up hx hb).2.1; omega
    refine ⟨⟨by simp [Bf.chn], ?_, by simp [Bf.chn], ?_, by simp [Bf.chn], ?_⟩, by simp [Bf.chn]⟩
    · intro y hy; simp [Bf.chn] at hy; subst hy; exact (H.root hx hb).1
    · intro i a b _ h2; simp [Bf.chn] at h2
    · intro y hy; simp [Bf.chn] at hy; subst hy; exact H.bd _ hx
  | f + 1, x, hx, hf => by
    by_cases hb : s.bq x = x
    · rw [Bf.chn, if_pos hb]
      refine ⟨⟨by simp, ?_, by simp, ?_, by simp, ?_⟩, by simp⟩
      · intro y hy; simp at hy; subst hy; exact (H.root hx hb).1
      · intro i a b _ h2; simp at h2
      · intro y hy; simp at hy; subst hy; exact H.bd _ hx
    · have h1 := H.up hx hb
      obtain ⟨h2, h3⟩ := chn_way H f (s.bq x) h1.1 (by omega)
      rw [Bf.chn, if_neg hb]
      refine ⟨?_, ?_⟩
      · rw [List.reverse_cons]
        refine h2.snoc h1.2.2.1 (fun hm => ?_) (H.bd x hx)
        have := h3 x (by simpa using hm); omega
      · intro y hy; rcases List.mem_cons.1 hy with e | hy
        · rw [e]; exact Nat.le_refl _
        · have := h3 y hy; omega

section
variable {nx : Nat → List Nat} {L : Nat} {src : List Nat} {n : Nat} {W : List Nat}
theorem WayF.pre (h : WayF nx L src n W) {k : Int} : ∀ (j x : Nat), W[j]? = some x → (∀ (i y : Nat), i ≤ j → W[i]? = some y → (y : Int) ≠ k) → Rch nx k src x
  | 0, x, hx, hk => .base (h.hd x hx) (hk 0 x (Nat.le_refl _) hx)
  | j + 1, x, hx, hk => by
    have hj : j < W.length := by have := (List.getElem?_eq_some_iff.1 hx).1; omega
    have hy := List.getElem?_eq_getElem hj
    exact .step (h.pre j _ hy (fun i y hi => hk i y (by omega))) (h.ed j _ x hy hx) (hk (j + 1) x (Nat.le_refl _) hx)
theorem WayF.suf (h : WayF nx L src n W) {k : Int} {j x : Nat} (hx : W[j]? = some x) (hr : Rch nx k src x) (hk : ∀ (i y : Nat), j ≤ i → W[i]? = some y → (y : Int) ≠ k) : ∀ (d y : Nat), W[j + d]? = some y → Rch nx k src y
  | 0, y, hy => by rw [Nat.add_zero, hx] at hy; rw [← Option.some.inj hy]; exact hr
  | d + 1, y, hy => by
    have hj : j + d < W.length := by have := (List.getElem?_eq_some_iff.1 hy).1; omega
    have hz := List.getElem?_eq_getElem hj
    exact .step (h.suf hx hr hk d _ hz) (h.ed (j + d) _ y hz hy) (hk _ y (by omega) hy)
theorem WayF.tail (h : WayF nx L src n W) {k : Int} {j x : Nat} (hx : W[j]? = some x) (hr : Rch nx k src x) (hk : ∀ (i y : Nat), j ≤ i → W[i]? = some y → (y : Int) ≠ k) : Rch nx k src n := by
  have hj := (List.getElem?_eq_some_iff.1 hx).1
  refine h.suf hx hr hk (W.length - 1 - j) n ?_
  rw [show j + (W.length - 1 - j) = W.length - 1 by omega]; exact h.la
def Dom (nx : Nat → List Nat) (src : List Nat) (n k : Nat) : Prop := k ≠ n ∧ Rch nx (-1) src k ∧ ¬ Rch nx k src n
theorem WayF.dom (h : WayF nx L src n W) {k : Nat} (hd : Dom nx src n k) : ∃ j, j + 1 < W.length ∧ W[j]? = some k := by
  by_cases hk : k ∈ W
  · obtain ⟨j, hj, e⟩ := List.mem_iff_getElem.1 hk
    refine ⟨j, ?_, by rw [List.getElem?_eq_getElem hj, e]⟩
    rcases Nat.lt_or_ge (j + 1) W.length with h1 | h1
    · exact h1
    · exfalso
      have := h.la
      rw [show W.length - 1 = j by omega, List.getElem?_eq_getElem hj, e] at this
      exact hd.1 (Option.some.inj this)
  · exact absurd (h.pre (k := k) _ n h.la (fun i y _ hy e => hk (by have : y = k := (by omega); rw [← this]; exact List.mem_of_getElem? hy))) hd.2.2
theorem WayF.less (h : WayF nx L src n W) {s t a b : Nat} (hst : s < t) (ha : W[s]? = some a) (hb : W[t]? = some b) (hda : Dom nx src n a) (hdb : Dom nx src n b) :
    (∀ x, Rch nx a src x → Rch nx b src x) ∧ ¬ Rch nx a src a ∧ Rch nx b src a := by
  have hab : ¬ Rch nx a src b := fun hr => hda.2.2 (h.tail hb hr (fun i y hi hy e => by
    have : y = a := by omega
    subst this
    have := nd_at h.nd hy ha; omega))
  refine ⟨fun x hx => ?_, fun hr => ?_, ?_⟩
  · induction hx with
    | @base x h1 h2 => exact .base h1 (fun e => hab (by have : x = b := (by omega); rw [← this]; exact .base h1 h2))
    | @step y z h0 h1 h2 ih => exact .step ih h1 (fun e => hab (by have : z = b := (by omega); rw [← this]; exact .step h0 h1 h2))
  · cases hr with
    | base _ h2 => exact h2 rfl
    | step _ _ h2 => exact h2 rfl
  · exact h.pre s a ha (fun i y hi hy e => by
      have : y = b := by omega
      subst this
      have := nd_at h.nd hy hb; omega)

/-! ### what is reached beside the way -/
inductive Off (nx : Nat → List Nat) (W : List Nat) (srcs : Nat → Prop) : Nat → Prop
  | base {x} : srcs x → Off nx W srcs x
  | step {x z} : Off nx W srcs x → x ∉ W → z ∈ nx x → Off nx W srcs z
def Sp.srcs (nx : Nat → List Nat) (W src : List Nat) (a : Nat) (x : Nat) : Prop := x ∈ src ∨ ∃ s y, s < a ∧ W[s]? = some y ∧ x ∈ nx y
structure OnW (W : List Nat) (on : Nat → Int) : Prop where
  at_ : ∀ (i x : Nat), W[i]? = some x → on x = i
  off : ∀ (x : Nat), x ∉ W → on x = -1
structure Far (nx : Nat → List Nat) (W : List Nat) (on : Nat → Int) (srcs : Nat → Prop) (far : Int) : Prop where
  up : ∀ (x : Nat), Off nx W srcs x → on x ≤ far
  it : far = -1 ∨ ∃ x : Nat, x ∈ W ∧ Off nx W srcs x ∧ on x = far
theorem WayF.far (h : WayF nx L src n W) {on : Nat → Int} (ho : OnW W on) {a k : Nat} {far : Int} (hk : W[a]? = some k) (ha : a + 1 < W.length) (hf : Far nx W on (Sp.srcs nx W src a) far) : far = a ↔ ¬ Rch nx k src n := by
  have hwa : Off nx W (Sp.srcs nx W src a) k := by
    cases a with
    | zero => exact .base (.inl (h.hd k hk))
    | succ a =>
      have hy := List.getElem?_eq_getElem (l := W) (i := a) (by omega)
      exact .base (.inr ⟨a, _, by omega, hy, h.ed a _ k hy hk⟩)
  have hle : (a : Int) ≤ far := by have := hf.up k hwa; rw [ho.at_ a k hk] at this; exact this
  constructor
  · intro he hr
    have key : ∀ x, Rch nx k src x → Off nx W (Sp.srcs nx W src a) x ∧ (x ∉ W ∨ ∃ s, s < a ∧ W[s]? = some x) := by
      have two : ∀ x, x ≠ k → Off nx W (Sp.srcs nx W src a) x → Off nx W (Sp.srcs nx W src a) x ∧ (x ∉ W ∨ ∃ s, s < a ∧ W[s]? = some x) := fun x hxk hx => by
        refine ⟨hx, ?_⟩
        by_cases hm : x ∈ W
        · obtain ⟨j, hj, e⟩ := List.mem_iff_getElem.1 hm
          have hj' : W[j]? = some x := by rw [List.getElem?_eq_getElem hj, e]
          have := hf.up x hx
          rw [ho.at_ j x hj', he] at this
          refine .inr ⟨j, ?_, hj'⟩
          rcases Nat.lt_trichotomy j a with h1 | h1 | h1
          · exact h1
          · subst h1; rw [hk] at hj'; exact absurd (Option.some.inj hj').symm hxk
          · omega
        · exact .inl hm
      intro x hx
      induction hx with
      | @base x h1 h2 => exact two x (by omega) (.base (.inl h1))
      | @step y z _ h1 h2 ih =>
        refine two z (by omega) ?_
        rcases ih.2 with h3 | ⟨s, hs, h3⟩
        · exact .step ih.1 h3 h1
        · exact .base (.inr ⟨s, y, hs, h3, h1⟩)
    rcases (key n hr).2 with h1 | ⟨s, hs, h1⟩
    · exact h1 (List.mem_of_getElem? h.la)
    · have := nd_at h.nd h1 h.la; omega
  · intro hr
    rcases hf.it with h1 | ⟨x, hx, hox, he⟩
    · omega
    · obtain ⟨j, hj, e⟩ := List.mem_iff_getElem.1 hx
      have hj' : W[j]? = some x := by rw [List.getElem?_eq_getElem hj, e]
      rw [ho.at_ j x hj'] at he
      rcases Nat.lt_or_ge a j with hlt | hge
      · exfalso
        have key : ∀ y, Off nx W (Sp.srcs nx W src a) y → y ≠ k → Rch nx k src y := by
          intro y hy
          induction hy with
          | @base y h1 =>
            intro hyk
            rcases h1 with h1 | ⟨s, u, hs, hu, h1⟩
            · exact .base h1 (by omega)
            · refine .step (h.pre s u hu (fun i v hi hv e => ?_)) h1 (by omega)
              have : v = k := by omega
              subst this
              have := nd_at h.nd hv hk; omega
          | @step u z h0 h1 h2 ih =>
            intro hzk
            exact .step (ih (fun e => h1 (by rw [e]; exact List.mem_of_getElem? hk))) h2 (by omega)
        refine hr (h.tail hj' (key x hox (fun e => ?_)) (fun i y hi hy e => ?_))
        · subst e; have := nd_at h.nd hj' hk; omega
        · have : y = k := by omega
          subst this
          have := nd_at h.nd hy hk; omega
      · omega
/-! ### which is told -/
def IsK (nx : Nat → List Nat) (src : List Nat) (n : Nat) (W : List Nat) (m : Nat) (r : Int) : Prop :=
  (r = -1 ∧ ∀ (j k : Nat), j < m → W[j]? = some k → ¬ Dom nx src n k) ∨ ∃ (j k : Nat), j < m ∧ W[j]? = some k ∧ r = k ∧ Dom nx src n k ∧ ∀ (i x : Nat), j < i → i < m → W[i]? = some x → ¬ Dom nx src n x
theorem IsK.one {m : Nat} {r q : Int} (hr : IsK nx src n W m r) (hq : IsK nx src n W m q) : r = q := by
  rcases hr with ⟨e, h1⟩ | ⟨j, k, hj, hk, e, hd, hl⟩ <;> rcases hq with ⟨e', h1'⟩ | ⟨j', k', hj', hk', e', hd', hl'⟩
  · rw [e, e']
  · exact absurd hd' (h1 j' k' hj' hk')
  · exact absurd hd (h1' j k hj hk)
  · rcases Nat.lt_trichotomy j j' with h2 | h2 | h2
    · exact absurd hd' (hl j' k' h2 hj' hk')
    · subst h2; rw [hk] at hk'; rw [e, e', Option.some.inj hk']
    · exact absurd hd (hl' j k h2 hj hk)
def Sp.kb (dom : Nat → Bool) (c : Nat → Nat) : Nat → Int × Nat
  | 0 => (-1, 0)
  | i + 1 => if dom i = true ∧ ((Sp.kb dom c i).1 < 0 ∨ c i < (Sp.kb dom c i).2) then ((i : Int), c i) else Sp.kb dom c i
end
end Go.Proofs.YtikhpbidbcfedaaGreat

/- graph.way: the way back from a node to where the search began, turned about. -/
namespace Go.Proofs.YtikhpbidbcfedaaGreat
open Go.RowKit Go.ChangeMaps

structure RwI (w : World) (l : List Int) (g c : Nat) (wr : World) : Prop where
  row : OwnR wr 3 g l.length c (iv l)
  lo : w.heap.size ≤ g
  bel : Below w.heap.size w wr
theorem RwI.nd {w wr : World} {l : List Int} {g c : Nat} (h : RwI w l g c wr) : NdI wr (some g) c l := ⟨(fun e => by cases e), fun g' hg => by injection hg with hg; subst hg; exact h.row⟩
theorem RwI.put {w wr w4 : World} {l : List Int} {g c g' c' : Nat} {x : Int} (h : RwI w l g c wr) (ho : OwnR w4 3 g' (l.length + 1) c' (iv (l ++ [x]))) (hg : (wr.alloc (.cells #[.int .i64 x] 3)).grownBy w4 (some g)) (hor : some g = some g' ∨ wr.heap.size < g') : RwI w (l ++ [x]) g' c' w4 := by
  have hb := h.bel.alloc h.bel.size (.cells #[.int .i64 x] 3)
  refine ⟨by simpa using ho, ?_, hb.grown hg hb.size (fun k hk => by injection hk with hk; subst hk; exact h.lo)⟩
  rcases hor with h1 | h1
  · injection h1 with h1; subst h1; exact h.lo
  · have := h.bel.size; omega
def WayE (w : World) (l : List Nat) (e : Ending) (w' : World) : Prop := ∃ g c, e = .returned (.slice (some ⟨g, 0, none⟩) l.length c) ∧ OwnR w' 3 g l.length c (iv (l.map fun j : Nat => (j : Int))) ∧ w.heap.size ≤ g ∧ Below w.heap.size w w'
theorem chn_len {nx : Nat → List Nat} {wo : Int} {L : Nat} {src : List Nat} {s : Bf} (H : BI nx wo L src s s.ord.length []) {x : Nat} (hx : x ∈ s.ord) : (s.chn (s.ps x) x).length ≤ L := by
  have h := (chn_way H (s.ps x) x hx (Nat.le_refl _)).1
  have := nd_len h.nd h.bd
  simpa using this

set_option maxRecDepth 100000 in
set_option maxHeartbeats 8000000 in
theorem way_gen (L : Nat) (s : Bf) (hbd : ∀ x ∈ s.ord, x < L) (hup : ∀ x ∈ s.ord, s.bq x ≠ x → s.bq x ∈ s.ord ∧ s.ps (s.bq x) < s.ps x) (gi : Nat) (o : Value) (x0 : Nat) (w : World) (hx : x0 ∈ s.ord) (hln : (s.chn (s.ps x0) x0).length ≤ L) (ho : OwnR w 3 gi L L (iv (Sp.byl L s))) (hL : L ≤ 4096) :
    Calls Tryz.prog 33 #[.agg #[.slice (some ⟨gi, 0, none⟩) L L, o], .int .i64 (x0 : Int)] w (WayE w (s.chn (s.ps x0) x0).reverse) := by
  have HLN : Hid ((s.chn (s.ps x0) x0).length ≤ L) := hln
  have HB : Hid ((∀ x ∈ s.ord, x < L) ∧ ∀ x ∈ s.ord, s.bq x ≠ x → s.bq x ∈ s.ord ∧ s.ps (s.bq x) < s.ps x) := ⟨hbd, hup⟩
  have HO : Hid (OwnR w 3 gi L L (iv (Sp.byl L s))) := ho
  have hgi := ho.lt
  obtain ⟨T, hT⟩ : ∃ T, s.chn (s.ps x0) x0 = T := ⟨_, rfl⟩
  have HT : Hid (s.chn (s.ps x0) x0 = T) := hT
  rw [hT] at HLN ⊢
  obtain ⟨W1, hW1⟩ : ∃ W1, w.alloc (.cells #[.slice (some ⟨gi, 0, none⟩) L L, o] 65) = W1 := ⟨_, rfl⟩
  have HW1 : Hid (W1.heap[w.heap.size]? = some (.cells #[.slice (some ⟨gi, 0, none⟩) L L, o] 65 (0, 0)) ∧ W1.heap.size = w.heap.size + 1 ∧ Below w.heap.size w W1) := by
    show _ ∧ _ ∧ _
    rw [← hW1]; exact ⟨heap_alloc_new w _, al_size _ _, (Below.refl _ _).alloc (Nat.le_refl _) _⟩
  have H1 : Hid (RwI W1 [(x0 : Int)] W1.heap.size 1 (W1.alloc (.cells #[.int .i64 (x0 : Int)] 3))) := by
    refine ⟨⟨rfl, _, heap_alloc_new _ _, Nat.le_refl _, by simp [maxLen], rfl, rfl⟩, Nat.le_refl _, (Below.refl _ _).alloc (Nat.le_refl _) _⟩
  have hz : W1.heap.size = w.heap.size + 1 := HW1.out.2.1
  clear hT hbd hup hln ho
  go_enter Tryz.func33, Tryz.ntmps33
  clear hz
  go_upto_region 1 with fail
  clear hW1
  go_wp2_with fail
  go_loopw [1, 5] (fun v1 v5 wr => ∃ (x f : Nat) (pre : List Nat) (g c m : Nat), v1 = .int .i64 (x : Int) ∧ v5 = .slice (some ⟨g, 0, none⟩) m c ∧ x < L ∧ Hid (x ∈ s.ord ∧ s.ps x ≤ f ∧ pre ++ s.chn f x = T) ∧ Hid (m = pre.length + 1) ∧ Hid (RwI W1 ((pre ++ [x]).map fun j : Nat => (j : Int)) g c wr)) (fun v1 _ _ => s.ps (intOf v1).toNat)
  case atStart => exact ⟨x0, s.ps x0, [], _, _, 1, rfl, rfl, HB.out.1 x0 hx, ⟨hx, Nat.le_refl _, HT.out⟩, rfl, H1.out⟩
  case round =>
    clear H1
    obtain ⟨x, f, pre, g, c, m, rfl, rfl, hxL, HX, HM, HR⟩ := hrel
    have hxz : (x : Int) < (L : Int) := by omega
    have hbox : wr.heap[w.heap.size]? = some (.cells #[.slice (some ⟨gi, 0, none⟩) L L, o] 65 (0, 0)) := (HR.out.bel.block w.heap.size (by have := HW1.out.2.1; omega)).trans HW1.out.1
    have hc0 : wr.cell? ⟨w.heap.size, 0, none⟩ = some (.slice (some ⟨gi, 0, none⟩) L L) := by simp [World.cell?, hbox]
    have hgb : wr.heap[gi]? = w.heap[gi]? := (HR.out.bel.block gi (by have := HW1.out.2.1; omega)).trans (HW1.out.2.2.block gi hgi)
    have hcx : wr.cell? ⟨gi, x, none⟩ = some (.int .i64 (s.bq x : Int)) := by
      have := (HO.out.keep hgb).cell (t := x) (x := .int .i64 (s.bq x : Int)) (by
        simp only [iv, List.getElem?_map, byl_at s hxL, if_pos HX.out.1, Option.map_some])
      exact this
    clear hbox hgb
    by_cases hb : s.bq x = x
    · have hbz : (((s.bq x : Nat) : Int) != (x : Int)) = false := by simp [hb]
      have HTT : Hid (T = pre ++ [x]) := by
        show _ = _
        rw [← HX.out.2.2]
        cases f with
        | zero => rfl
        | succ f => rw [Bf.chn, if_pos hb]
      have hml : (T.map fun j : Nat => (j : Int)).length = m := by rw [HTT.out, HM.out]; simp
      have HV : Hid (Calls Tryz.prog 54 #[.slice (some ⟨g, 0, none⟩) m c] wr fun e w' => e = .returned (.tuple #[]) ∧ OwnR w' 3 g m c (iv (T.reverse.map fun j : Nat => (j : Int))) ∧ Below W1.heap.size W1 w') := by
        have hro : OwnR wr 3 g m c (iv (T.map fun j : Nat => (j : Int))) := by
          have := HR.out.row
          rw [← HTT.out, hml] at this; exact this
        have h1 := Tryz.slices_Reverse_int g 0 c (T.map fun j : Nat => (j : Int)) wr hro.holdsI (by have := HLN.out; simp; omega)
        rw [hml] at h1
        refine h1.mono ?_
        rintro e w' ⟨rfl, q, rfl⟩
        have hp := put_own hro (T.map fun j : Nat => (j : Int)).reverse (by rw [List.length_reverse, hml]) q #[]
        rw [Sort.grow_empty] at hp
        refine ⟨rfl, by simpa using hp.1, ?_⟩
        have hbl := HR.out.bel
        exact ⟨hp.2.1.trans hbl.os, hp.2.2.1.trans hbl.tape, hp.2.2.2.1.trans hbl.output, Nat.le_trans hbl.size hp.2.2.2.2.1, fun k hk => (hp.2.2.2.2.2 k (Nat.lt_of_lt_of_le hk hbl.size) (fun e => by injection e with e; have := HR.out.lo; omega)).trans (hbl.block k hk)⟩
      have hmT : T.length = m := by simpa using hml
      clear hml
      go_wp2_with fail
      refine HV.out.mono ?_
      rintro e w' ⟨rfl, h1, h2⟩
      have HF : Hid (OwnR w' 3 g m c (iv (T.reverse.map fun j : Nat => (j : Int))) ∧ Below w.heap.size w w') := ⟨h1, HW1.out.2.2.trans (h2.mono (by have := HW1.out.2.1; omega))⟩
      clear h1 h2
      go_wp2_with fail
      go_ret
      exact ⟨g, c, by rw [List.length_reverse, hmT]; rfl, by rw [List.length_reverse, hmT]; exact HF.out.1, by have := HR.out.lo; have := HW1.out.2.1; omega, HF.out.2⟩
    · have hbz : (((s.bq x : Nat) : Int) != (x : Int)) = true := by simp; omega
      obtain ⟨hu1, hu2⟩ := HB.out.2 _ HX.out.1 hb
      have hbL : s.bq x < L := HB.out.1 _ hu1
      have hml : ((pre ++ [x]).map fun j : Nat => (j : Int)).length = m := by rw [HM.out]; simp
      have hm4 : m ≤ 4096 := by
        have := HLN.out
        rw [← HX.out.2.2, List.length_append] at this
        have h2 : 1 ≤ (s.chn f x).length := by cases f <;> simp only [Bf.chn]; simp; split <;> simp
        rw [HM.out]; omega
      obtain ⟨g', c', w4, hap, ho4, hgr4, hor4⟩ := appI (some g) c ((pre ++ [x]).map fun j : Nat => (j : Int)) wr HR.out.nd ((s.bq x : Nat) : Int) (by rw [hml]; omega) 60
      rw [hml] at hap
      have hadg : adr (some g) = some ⟨g, 0, none⟩ := rfl
      rw [hadg] at hap
      have HF : Hid (RwI W1 (((pre ++ [x]) ++ [s.bq x]).map fun j : Nat => (j : Int)) g' c' w4) := by
        show RwI _ _ _ _ _
        have := HR.out.put ho4 hgr4 hor4
        simpa using this
      have HX2 : Hid (s.bq x ∈ s.ord ∧ s.ps (s.bq x) ≤ f - 1 ∧ (pre ++ [x]) ++ s.chn (f - 1) (s.bq x) = T) := by
        obtain ⟨f', rfl⟩ : ∃ f', f = f' + 1 := ⟨f - 1, by have := HX.out.2.1; omega⟩
        have h3 := HX.out.2.2
        rw [Bf.chn, if_neg hb] at h3
        exact ⟨hu1, by have := HX.out.2.1; omega, by simpa using h3⟩
      have HPS : Hid (s.ps (s.bq x) < s.ps x) := hu2
      clear ho4 hgr4 hor4 hu1 hu2
      go_wp2_with (at_builtin; refine wpList_ranS _ rfl _ _ 60 60 rfl _ _ _ _ rfl rfl hap ?_)
      go_roundw
      case rel => exact ⟨s.bq x, f - 1, pre ++ [x], g', c', m + 1, rfl, rfl, hbL, HX2.out, by show _ = _; rw [HM.out]; simp, HF.out⟩
      case measure => simp [intOf]; exact HPS.out
theorem way_any (nx : Nat → List Nat) (wo : Int) (L : Nat) (src : List Nat) (s : Bf) (H : BI nx wo L src s s.ord.length []) (gi : Nat) (o : Value) (x0 : Nat) (w : World) (hx : x0 ∈ s.ord) (ho : OwnR w 3 gi L L (iv (Sp.byl L s))) (hL : L ≤ 4096) :
    Calls Tryz.prog 33 #[.agg #[.slice (some ⟨gi, 0, none⟩) L L, o], .int .i64 (x0 : Int)] w (WayE w (s.chn (s.ps x0) x0).reverse) :=
  way_gen L s H.bd (fun _ hx hb => ⟨(H.up hx hb).1, (H.up hx hb).2.1⟩) gi o x0 w hx (chn_len H hx) ho hL
end Go.Proofs.YtikhpbidbcfedaaGreat

/- Plain mathematics: a search that keeps to what is not less than where it begins, and the ring that it closes. -/
namespace Go.Proofs.YtikhpbidbcfedaaGreat

def Sp.ge (nx : Nat → List Nat) (a i : Nat) : List Nat := (nx i).filter fun x => decide (a ≤ x)
theorem ge_mem {nx : Nat → List Nat} {a i x : Nat} : x ∈ Sp.ge nx a i ↔ x ∈ nx i ∧ a ≤ x := by simp [Sp.ge]
def Sp.rs (nx : Nat → List Nat) (L a : Nat) : Bf := Bf.all (Sp.ge nx a) (-1) L [a]
def Sp.rfm (nx : Nat → List Nat) (L a : Nat) : List Nat :=
  match (Sp.rs nx L a).ord.find? (fun p => decide (a ∈ nx p)) with
  | some p => ((Sp.rs nx L a).chn ((Sp.rs nx L a).ps p) p).reverse
  | none => []
def Sp.rgs (nx : Nat → List Nat) (L : Nat) : Nat → List Nat
  | 0 => []
  | k + 1 => if Sp.rfm nx L k ≠ [] ∧ (Sp.rgs nx L k = [] ∨ (Sp.rfm nx L k).length < (Sp.rgs nx L k).length) then Sp.rfm nx L k else Sp.rgs nx L k

section
variable {nx : Nat → List Nat} {L a : Nat}
theorem rs_BI (hlt : ∀ i, (nx i).Pairwise (· < ·)) (hb : ∀ i, ∀ x ∈ nx i, x < L) (ha : a < L) : BI (Sp.ge nx a) (-1) L [a] (Sp.rs nx L a) (Sp.rs nx L a).ord.length [] :=
  all_BI (fun i => (hlt i).filter _) (fun i x hx => hb i x (ge_mem.1 hx).1) (by simpa using ha)
structure Rng (nx : Nat → List Nat) (L a : Nat) (r : List Nat) : Prop where
  way : ∃ p, WayF (Sp.ge nx a) L [a] p r ∧ a ∈ nx p
  ge : ∀ x ∈ r, a ≤ x
theorem rfm_rng (hlt : ∀ i, (nx i).Pairwise (· < ·)) (hb : ∀ i, ∀ x ∈ nx i, x < L) (ha : a < L) (h : Sp.rfm nx L a ≠ []) : Rng nx L a (Sp.rfm nx L a) := by
  have H := rs_BI hlt hb ha
  unfold Sp.rfm at h ⊢
  cases hf : (Sp.rs nx L a).ord.find? (fun p => decide (a ∈ nx p)) with
  | none => rw [hf] at h; exact absurd rfl h
  | some p =>
    have hp := List.mem_of_find?_eq_some hf
    have hq : a ∈ nx p := by simpa using List.find?_some hf
    have hw := (chn_way H ((Sp.rs nx L a).ps p) p hp (Nat.le_refl _)).1
    dsimp only
    refine ⟨⟨p, hw, hq⟩, fun x hx => ?_⟩
    obtain ⟨i, hi, e⟩ := List.mem_iff_getElem.1 hx
    cases i with
    | zero => have := hw.hd x (by rw [List.getElem?_eq_getElem hi, e]); simp at this; exact Nat.le_of_eq this.symm
    | succ i => exact (ge_mem.1 (hw.ed i _ x (List.getElem?_eq_getElem (Nat.lt_of_succ_lt hi)) (by rw [List.getElem?_eq_getElem hi, e]))).2
theorem WayF.wide {nx' : Nat → List Nat} {src : List Nat} {b : Nat} {w : List Nat} (h : WayF nx' L src b w) (hs : ∀ i, ∀ x ∈ nx' i, x ∈ nx i) : WayF nx L src b w := ⟨h.nd, h.hd, h.ne, fun i x y h1 h2 => hs _ _ (h.ed i x y h1 h2), h.la, h.bd⟩
end
end Go.Proofs.YtikhpbidbcfedaaGreat

/- Plain mathematics: no way back by an edge is shorter than the ring, and from each node of the ring it is as long. -/
namespace Go.Proofs.YtikhpbidbcfedaaGreat

section
variable {nx : Nat → List Nat} {L : Nat}
end
end Go.Proofs.YtikhpbidbcfedaaGreat

