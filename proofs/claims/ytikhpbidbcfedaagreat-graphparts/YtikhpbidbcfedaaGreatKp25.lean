/- Walks with any visitor, one that puts nodes into a row of its own too: what is asked of one. -/
import Derived.Test.YtikhpbidbcfedaaGreatKp24
namespace Go.Proofs.YtikhpbidbcfedaaGreat
open Go.RowKit Go.ChangeMaps

structure KwO (M : Nat → Option Obj → Prop) (w w' : World) : Prop where
  os : w'.os = w.os
  tape : w'.tape = w.tape
  output : w'.output = w.output
  size : w.heap.size ≤ w'.heap.size
  block : ∀ j, j < w.heap.size → ¬ M j (w.heap[j]?) → w'.heap[j]? = w.heap[j]?
theorem KwO.refl (M : Nat → Option Obj → Prop) (w : World) : KwO M w w := ⟨rfl, rfl, rfl, Nat.le_refl _, fun _ _ _ => rfl⟩
theorem KwO.trans {M : Nat → Option Obj → Prop} {a b d : World} (h : KwO M a b) (k : KwO M b d) : KwO M a d := ⟨k.os.trans h.os, k.tape.trans h.tape, k.output.trans h.output, Nat.le_trans h.size k.size, fun j h1 h2 => (k.block j (Nat.lt_of_lt_of_le h1 h.size) (by rw [h.block j h1 h2]; exact h2)).trans (h.block j h1 h2)⟩
theorem KwO.mono {M M' : Nat → Option Obj → Prop} {w w' : World} (h : KwO M w w') (hm : ∀ j o, M j o → M' j o) : KwO M' w w' := ⟨h.os, h.tape, h.output, h.size, fun j h1 h2 => h.block j h1 fun h3 => h2 (hm j _ h3)⟩
theorem KwO.alloc {M : Nat → Option Obj → Prop} {a w : World} (h : KwO M a w) (o : Obj) : KwO M a (w.alloc o) := h.trans ⟨rfl, rfl, rfl, by simp, fun j h1 _ => Below.heap_alloc w o j h1⟩
theorem KwO.drew {M : Nat → Option Obj → Prop} {a w : World} (h : KwO M a w) : KwO M a w.drew := ⟨h.os, h.tape, h.output, h.size, h.block⟩
theorem KwO.set {M : Nat → Option Obj → Prop} {c o : Nat} {a w : World} (h : KwO M a w) (hc : (∀ o, M c o) ∨ a.heap.size ≤ c) (v : Value) : KwO M a (w.setCell ⟨c, o, none⟩ v) := ⟨h.os, h.tape, h.output, by simpa [World.setCell] using h.size, fun j h1 h2 => (Below.heap_setCell _ _ _ _ (show j ≠ c by intro e; subst e; rcases hc with hc | hc; exact h2 (hc _); omega)).trans (h.block j h1 h2)⟩

structure VisO (σ : Type) (V : Vr σ) (zf : σ → Nat) (n m0 eb : Nat) (M : Nat → Option Obj → Prop) (I : σ → World → Prop) (Fe Fl : Nat) (ce cl : Array Value) : Prop where
  keep : ∀ s (W W' : World), I s W → W.heap.size ≤ W'.heap.size → (∀ k, k < W.heap.size → k ≠ eb → W'.heap[k]? = W.heap[k]?) → W'.os = W.os → W'.tape = W.tape → W'.output = W.output → I s W'
  enter : ∀ s j (W : World), j < n → zf s < 16384 → I s W → Calls Tryz.prog Fe (#[.int .i64 (j : Nat)] ++ ce) W fun e W' => BEnd (V.enter s j).1 e ∧ I (V.enter s j).2 W' ∧ KwO M W W'
  leave : ∀ s j (W : World), j < n → zf s < 16384 → I s W → Calls Tryz.prog Fl (#[.int .i64 (j : Nat)] ++ cl) W fun e W' => BEnd (V.leave s j).1 e ∧ I (V.leave s j).2 W' ∧ KwO M W W'
  ecf : ∀ (j : Nat) (W : World), Sem.run Tryz.prog (callFunc Fe (#[.int .i64 (j : Nat)] ++ ce)) W = .ok (.enter Fe (#[.int .i64 (j : Nat)] ++ ce)) W
  lcf : ∀ (j : Nat) (W : World), Sem.run Tryz.prog (callFunc Fl (#[.int .i64 (j : Nat)] ++ cl)) W = .ok (.enter Fl (#[.int .i64 (j : Nat)] ++ cl)) W
  sze : ∀ s j, zf (V.enter s j).2 ≤ zf s + 1
  szl : ∀ s j, zf (V.leave s j).2 ≤ zf s + 1
  box : ∀ k c, m0 ≤ k → ¬ M k (some (.cells c 83 (0, 0)))
  eo : eb < m0 ∧ ∀ o, ¬ M eb o
def StaO (M : Nat → Option Obj → Prop) (eb : Nat) (gs : Option Nat) : Prop := ∀ g, gs = some g → (∀ o, ¬ M g o) ∧ g ≠ eb
structure WkJ (σ : Type) (zf : σ → Nat) (T n m0 eb : Nat) (M : Nat → Option Obj → Prop) (I : σ → World → Prop) (nx : Nat → List Nat) (lo xb : Nat) (bl : Nat → Option Nat) (cp : Nat → Nat) (st : Wst σ) (w : World) : Prop where
  inv : I st.2 w
  ent : OwnR w 4 eb n n (bv st.1)
  nxt : NxR w lo xb n bl cp (fun t => (nx t).map (fun j : Nat => (j : Int)))
  sz : m0 ≤ w.heap.size
  sx : (∀ o, ¬ M xb o) ∧ xb ≠ eb
  sb : ∀ t, t < n → StaO M eb (bl t)
  nb : ∀ t, t < n → ∀ j ∈ nx t, j < n
  bud : zf st.2 + 2 * Sp.cf st.1 ≤ T ∧ T ≤ 16384
theorem WkJ.len {σ : Type} {zf : σ → Nat} {T n m0 eb : Nat} {M : Nat → Option Obj → Prop} {I : σ → World → Prop} {nx : Nat → List Nat} {lo xb : Nat} {bl : Nat → Option Nat} {cp : Nat → Nat} {st : Wst σ} {w : World} (h : WkJ σ zf T n m0 eb M I nx lo xb bl cp st w) : st.1.length = n := by simpa using h.ent.len
theorem WkJ.step {σ : Type} {zf : σ → Nat} {T n m0 eb : Nat} {M : Nat → Option Obj → Prop} {I : σ → World → Prop} {nx : Nat → List Nat} {lo xb : Nat} {bl : Nat → Option Nat} {cp : Nat → Nat} {st : Wst σ} {w w' : World} {s' : σ} (h : WkJ σ zf T n m0 eb M I nx lo xb bl cp st w) (hk : KwO M w w') (hm : ∀ o, ¬ M eb o) (hI : I s' w') {T' : Nat} (hT : zf s' + 2 * Sp.cf st.1 ≤ T' ∧ T' ≤ 16384) : WkJ σ zf T' n m0 eb M I nx lo xb bl cp (st.1, s') w' :=
  ⟨hI, h.ent.keep (hk.block eb h.ent.lt (hm _)), h.nxt.keep (hk.block xb h.nxt.lt.1 (h.sx.1 _)) (fun t g ht hg => hk.block g (h.nxt.lt.2 t g ht hg) ((h.sb t ht g hg).1 _)), Nat.le_trans h.sz hk.size, h.sx, h.sb, h.nb, hT⟩
theorem WkJ.alloc {σ : Type} {V : Vr σ} {zf : σ → Nat} {T n m0 eb : Nat} {M : Nat → Option Obj → Prop} {I : σ → World → Prop} {Fe Fl : Nat} {ce cl : Array Value} {nx : Nat → List Nat} {lo xb : Nat} {bl : Nat → Option Nat} {cp : Nat → Nat} {st : Wst σ} {w : World} (hV : VisO σ V zf n m0 eb M I Fe Fl ce cl) (h : WkJ σ zf T n m0 eb M I nx lo xb bl cp st w) (o : Obj) : WkJ σ zf T n m0 eb M I nx lo xb bl cp st (w.alloc o) :=
  ⟨hV.keep _ w _ h.inv (by simp) (fun k h1 _ => Below.heap_alloc w o k h1) rfl rfl rfl, h.ent.keep (Below.heap_alloc w o eb h.ent.lt), h.nxt.keep (Below.heap_alloc w o xb h.nxt.lt.1) (fun t g ht hg => Below.heap_alloc w o g (h.nxt.lt.2 t g ht hg)), by rw [al_size]; have := h.sz; omega, h.sx, h.sb, h.nb, h.bud⟩
theorem WkJ.drew {σ : Type} {V : Vr σ} {zf : σ → Nat} {T n m0 eb : Nat} {M : Nat → Option Obj → Prop} {I : σ → World → Prop} {Fe Fl : Nat} {ce cl : Array Value} {nx : Nat → List Nat} {lo xb : Nat} {bl : Nat → Option Nat} {cp : Nat → Nat} {st : Wst σ} {w : World} (hV : VisO σ V zf n m0 eb M I Fe Fl ce cl) (h : WkJ σ zf T n m0 eb M I nx lo xb bl cp st w) : WkJ σ zf T n m0 eb M I nx lo xb bl cp st w.drew :=
  ⟨hV.keep _ w _ h.inv (Nat.le_refl _) (fun _ _ _ => rfl) rfl rfl rfl, h.ent.keep rfl, h.nxt.keep rfl (fun _ _ _ _ => rfl), h.sz, h.sx, h.sb, h.nb, h.bud⟩
theorem WkJ.mark {σ : Type} {V : Vr σ} {zf : σ → Nat} {T n m0 eb : Nat} {M : Nat → Option Obj → Prop} {I : σ → World → Prop} {Fe Fl : Nat} {ce cl : Array Value} {nx : Nat → List Nat} {lo xb : Nat} {bl : Nat → Option Nat} {cp : Nat → Nat} {st : Wst σ} {w : World} (hV : VisO σ V zf n m0 eb M I Fe Fl ce cl) (h : WkJ σ zf T n m0 eb M I nx lo xb bl cp st w) {j : Nat} (hj : st.1[j]? = some false) : WkJ σ zf (T - 2) n m0 eb M I nx lo xb bl cp (st.1.set j true, st.2) (w.setCell ⟨eb, j, none⟩ (.bool true)) := by
  have e : ∀ k, k ≠ eb → (w.setCell ⟨eb, j, none⟩ (.bool true)).heap[k]? = w.heap[k]? := fun k hk => Below.heap_setCell w _ _ k hk
  refine ⟨hV.keep _ w _ h.inv (by simp [World.setCell]) (fun k _ h2 => e k h2) rfl rfl rfl, ?_, h.nxt.keep (e xb h.sx.2) (fun t g ht hg => e g (h.sb t ht g hg).2), by simpa [World.setCell] using h.sz, h.sx, h.sb, h.nb, by have := cf_set hj; have := h.bud; show zf st.2 + 2 * Sp.cf (st.1.set j true) ≤ T - 2 ∧ T - 2 ≤ 16384; omega⟩
  have := h.ent.set j (.bool true)
  rw [show bv (st.1.set j true) = (bv st.1).set j (.bool true) from List.map_set]
  exact this
theorem WkJ.more {σ : Type} {zf : σ → Nat} {T T' n m0 eb : Nat} {M : Nat → Option Obj → Prop} {I : σ → World → Prop} {nx : Nat → List Nat} {lo xb : Nat} {bl : Nat → Option Nat} {cp : Nat → Nat} {st : Wst σ} {w : World} (h : WkJ σ zf T n m0 eb M I nx lo xb bl cp st w) (h1 : T ≤ T') (h2 : T' ≤ 16384) : WkJ σ zf T' n m0 eb M I nx lo xb bl cp st w :=
  ⟨h.inv, h.ent, h.nxt, h.sz, h.sx, h.sb, h.nb, Nat.le_trans h.bud.1 h1, h2⟩
def WkF (σ : Type) (zf : σ → Nat) (T n m0 eb : Nat) (M : Nat → Option Obj → Prop) (I : σ → World → Prop) (nx : Nat → List Nat) (lo xb : Nat) (bl : Nat → Option Nat) (cp : Nat → Nat) (r : Option Bool × Wst σ) (w : World) (e : Ending) (w' : World) : Prop :=
  BEnd r.1 e ∧ WkJ σ zf T n m0 eb M I nx lo xb bl cp r.2 w' ∧ KwO (fun k o => M k o ∨ k = eb) w w'
end Go.Proofs.YtikhpbidbcfedaaGreat

/- graph.walk.all, given one. -/
namespace Go.Proofs.YtikhpbidbcfedaaGreat
open Go.RowKit Go.ChangeMaps

section
variable {σ : Type} {V : Vr σ} {zf : σ → Nat} {n m0 eb : Nat} {M : Nat → Option Obj → Prop} {I : σ → World → Prop} {Fe Fl : Nat} {ce cl : Array Value} {nx : Nat → List Nat} {lo xb : Nat} {bl : Nat → Option Nat} {cp : Nat → Nat}
def OneD (σ : Type) (V : Vr σ) (zf : σ → Nat) (n m0 eb : Nat) (M : Nat → Option Obj → Prop) (I : σ → World → Prop) (Fe Fl : Nat) (ce cl : Array Value) (nx : Nat → List Nat) (lo xb : Nat) (bl : Nat → Option Nat) (cp : Nat → Nat) (f : Nat) : Prop :=
  ∀ T j st W, WkJ σ zf T n m0 eb M I nx lo xb bl cp st W → j < n → st.1[j]? = some false → Sp.cf st.1 ≤ f → Calls Tryz.prog 67 #[.agg (wsC xb eb n Fe Fl ce cl), .int .i64 (j : Nat)] W (WkF σ zf T n m0 eb M I nx lo xb bl cp (wOne V nx f j st) W)
def AllD (σ : Type) (V : Vr σ) (zf : σ → Nat) (n m0 eb : Nat) (M : Nat → Option Obj → Prop) (I : σ → World → Prop) (Fe Fl : Nat) (ce cl : Array Value) (nx : Nat → List Nat) (lo xb : Nat) (bl : Nat → Option Nat) (cp : Nat → Nat) (f : Nat) : Prop :=
  ∀ T (l : List Nat) st W gs c, WkJ σ zf T n m0 eb M I nx lo xb bl cp st W → Sp.cf st.1 ≤ f → (∀ j ∈ l, j < n) → NdI W gs c (l.map fun j : Nat => (j : Int)) → StaO M eb gs → l.length * 8 ≤ 140737488355328 → Calls Tryz.prog 46 #[.agg (wsC xb eb n Fe Fl ce cl), .slice (adr gs) l.length c] W (WkF σ zf T n m0 eb M I nx lo xb bl cp (wAll (wOne V nx f) l st) W)

set_option maxRecDepth 100000 in
set_option maxHeartbeats 8000000 in
theorem all_ofO (hV : VisO σ V zf n m0 eb M I Fe Fl ce cl) (f : Nat) (hOne : OneD σ V zf n m0 eb M I Fe Fl ce cl nx lo xb bl cp f) : AllD σ V zf n m0 eb M I Fe Fl ce cl nx lo xb bl cp f := by
  intro T l st W gs c hW hcf hl hnd hsta hlen
  have HO : Hid (OneD σ V zf n m0 eb M I Fe Fl ce cl nx lo xb bl cp f) := hOne
  have HV : Hid (VisO σ V zf n m0 eb M I Fe Fl ce cl) := hV
  obtain ⟨W0, hW0⟩ : ∃ W0, W.alloc (.cells (wsC xb eb n Fe Fl ce cl) 83) = W0 := ⟨_, rfl⟩
  have HB0 : Hid (∀ X, KwO (fun k o => M k o ∨ k = eb) W0 X → X.heap[W.heap.size]? = some (.cells (wsC xb eb n Fe Fl ce cl) 83 (0, 0))) := fun X hX => by
    have h1 : W0.heap[W.heap.size]? = some (.cells (wsC xb eb n Fe Fl ce cl) 83 (0, 0)) := by rw [← hW0]; exact heap_alloc_new _ _
    refine (hX.block _ (Array.getElem?_eq_some_iff.1 h1).1 ?_).trans h1
    have hz := hW.sz
    rintro (h | h)
    · rw [h1] at h; exact hV.box _ _ (by omega) h
    · have := hV.eo.1; omega
  have HW0 : Hid (WkJ σ zf T n m0 eb M I nx lo xb bl cp st W0) := by rw [← hW0]; exact hW.alloc hV _
  have HK0 : Hid (KwO (fun k o => M k o ∨ k = eb) W W0) := by rw [← hW0]; exact (KwO.refl _ _).alloc _
  have HR : Hid (∀ X, KwO (fun k o => M k o ∨ k = eb) W0 X → ∀ t j, l[t]? = some j → ∃ g, gs = some g ∧ X.cell? ⟨g, t, none⟩ = some (.int .i64 (j : Nat))) := fun X hX t j ht => by
    cases gs with
    | none => have := (hnd.1 rfl).1; rw [List.map_eq_nil_iff] at this; subst this; simp at ht
    | some g =>
      have ho := hnd.2 g rfl
      refine ⟨g, rfl, ?_⟩
      have e1 : W0.heap[g]? = W.heap[g]? := by rw [← hW0]; exact Below.heap_alloc W _ g ho.lt
      have e2 : X.heap[g]? = W0.heap[g]? := hX.block g (by have := ho.lt; rw [← hW0, al_size]; omega) (by rintro (h | h); exact (hsta g rfl).1 _ h; exact (hsta g rfl).2 h)
      exact (ho.keep (e2.trans e1)).cell (by simp [iv, ht])
  have HL : Hid (∀ j ∈ l, j < n) := hl
  have HCF : Hid (Sp.cf st.1 ≤ f) := hcf
  have hbx : W0.cell? ⟨W.heap.size, 1, none⟩ = some (.slice (some ⟨eb, 0, none⟩) n n) := by
    simp [World.cell?, HB0.out W0 (KwO.refl _ _), wsC]
  clear hW hcf hl hnd hsta hOne hV hbx
  go_enter Tryz.func46, Tryz.ntmps46
  go_wp2
  go_loopw [9] (fun v9 wr => ∃ (i : Nat) (s1 : Wst σ), v9 = .int .i64 i ∧ i ≤ l.length ∧ Hid (WkJ σ zf T n m0 eb M I nx lo xb bl cp s1 wr ∧ KwO (fun k o => M k o ∨ k = eb) W0 wr ∧ wAll (wOne V nx f) (l.drop i) s1 = wAll (wOne V nx f) l st ∧ Sp.cf s1.1 ≤ f)) (fun v9 _ => l.length - (intOf v9).toNat)
  case atStart => exact ⟨0, st, rfl, Nat.zero_le _, HW0.out, KwO.refl _ _, rfl, HCF.out⟩
  case round =>
    obtain ⟨i, s1, rfl, hi, HI⟩ := hrel
    have hb := HB0.out wr HI.out.2.1
    have hb0 : wr.cell? ⟨W.heap.size, 0, none⟩ = some (.slice (some ⟨xb, 0, none⟩) n n) := by simp [World.cell?, hb, wsC]
    have hb1 : wr.cell? ⟨W.heap.size, 1, none⟩ = some (.slice (some ⟨eb, 0, none⟩) n n) := by simp [World.cell?, hb, wsC]
    have hb2 : wr.cell? ⟨W.heap.size, 2, none⟩ = some (.func (.func Fe) #[] ce) := by simp [World.cell?, hb, wsC]
    have hb3 : wr.cell? ⟨W.heap.size, 3, none⟩ = some (.func (.func Fl) #[] cl) := by simp [World.cell?, hb, wsC]
    clear hb
    by_cases hlt : i < l.length
    · obtain ⟨j, hj⟩ : ∃ j, l[i]? = some j := ⟨_, List.getElem?_eq_getElem hlt⟩
      obtain ⟨g, rfl, hcj⟩ := HR.out wr HI.out.2.1 i j hj
      have hjn : j < n := HL.out j (List.mem_of_getElem? hj)
      have ea : adr (some g) = some ⟨g, 0, none⟩ := rfl
      have hdr : l.drop i = j :: l.drop (i + 1) := by
        rw [List.getElem?_eq_getElem hlt] at hj
        injection hj with hj
        rw [← hj]; exact List.drop_eq_getElem_cons hlt
      obtain ⟨bj, hbj⟩ : ∃ bj, s1.1[j]? = some bj := ⟨_, List.getElem?_eq_getElem (by rw [HI.out.1.len]; exact hjn)⟩
      have hce : wr.cell? ⟨eb, j, none⟩ = some (.bool bj) := HI.out.1.ent.cell (by simp [bv, hbj])
      have hgd : s1.1.getD j false = bj := by rw [List.getD_eq_getElem?_getD, hbj]; rfl
      have E1 : Hid (wAll (wOne V nx f) (l.drop i) s1 = if bj = true then wAll (wOne V nx f) (l.drop (i + 1)) s1 else if (wOne V nx f j s1).1 = some true then wAll (wOne V nx f) (l.drop (i + 1)) (wOne V nx f j s1).2 else wOne V nx f j s1) := by
        show _ = _
        rw [hdr, wAll, hgd]
      clear hdr hgd hj
      cases bj with
      | true =>
        go_wp2
        go_roundw
        case rel => exact ⟨i + 1, s1, by go_num, by omega, HI.out.1, HI.out.2.1, by rw [← HI.out.2.2.1, E1.out, if_pos rfl], HI.out.2.2.2⟩
        case measure => simp [intOf]; omega
      | false =>
        have hO := HO.out T j s1 wr HI.out.1 hjn hbj HI.out.2.2.2
        have HM : Hid (Mor s1.1 (wOne V nx f j s1).2.1) := wOne_mor V nx f j s1
        obtain ⟨r, hr⟩ : ∃ r, r = wOne V nx f j s1 := ⟨_, rfl⟩
        rw [← hr] at hO HM
        have E2 : Hid (wAll (wOne V nx f) l st = if r.1 = some true then wAll (wOne V nx f) (l.drop (i + 1)) r.2 else r) := by
          show _ = _
          rw [← HI.out.2.2.1, E1.out, if_neg (by decide), ← hr]
        have HKI : Hid (KwO (fun k o => M k o ∨ k = eb) W0 wr ∧ Sp.cf s1.1 ≤ f) := ⟨HI.out.2.1, HI.out.2.2.2⟩
        clear hr E1 hbj HI
        obtain ⟨r1, r2⟩ := r
        cases r1 with
        | none =>
          go_wp2_with (go_at_call 67; refine hO.mono ?_; rintro e w2 ⟨⟨v, rfl⟩, q1, q2⟩; exact ⟨rfl, (by rw [E2.out, if_neg (by simp)]; exact ⟨⟨v, rfl⟩, q1, HK0.out.trans (HKI.out.1.trans q2)⟩)⟩)
        | some b =>
          cases b with
          | false =>
            go_wp2_with (go_at_call 67; refine hO.mono ?_; rintro e w2 ⟨q0, q1, q2⟩; obtain rfl : e = .returned (.bool false) := q0)
            go_ret
            rw [E2.out, if_neg (by simp)]
            exact ⟨rfl, q1, HK0.out.trans (HKI.out.1.trans q2)⟩
          | true =>
            go_wp2_with (go_at_call 67; refine hO.mono ?_; rintro e w2 ⟨q0, q1, q2⟩; obtain rfl : e = .returned (.bool true) := q0)
            go_roundw
            case rel =>
              refine ⟨_, _, _, _, _, _, _, _, _, _, _, _, _, _, _, _, _, _, _, ?_, rfl⟩
              exact ⟨i + 1, r2, by go_num, by omega, q1, HKI.out.1.trans q2, by rw [E2.out, if_pos trivial], Nat.le_trans HM.out.cf HKI.out.2⟩
            case measure => simp [intOf]; omega
    · obtain rfl : i = l.length := by omega
      have E3 : Hid (wAll (wOne V nx f) l st = (some true, s1)) := by
        show _ = _
        rw [← HI.out.2.2.1, List.drop_of_length_le (Nat.le_refl _), wAll]
      go_wp2
      go_ret
      rw [E3.out]
      exact ⟨rfl, HI.out.1, HK0.out.trans HI.out.2.1⟩
end
end Go.Proofs.YtikhpbidbcfedaaGreat

