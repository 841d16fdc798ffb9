/- graph.Walk: walks of the program's, whatever was handed in. -/
import Derived.Test.YtghfikeakfiopaaK14
import Derived.Test.YtghfikeakfiopaaK31
import Derived.Test.YtghfikeakfiopaaK33
import Derived.Test.YtghfikeakfiopaaK24
import Derived.Test.YtghfikeakfiopaaK20
import Derived.Test.YtghfikeakfiopaaK29
import Derived.Test.YtghfikeakfiopaaK32
namespace Go.Proofs.Ytghfikeakfiopaa
open Go.RowKit Go.ChangeMaps

def WalkE (σ : Type) (V : Vr σ) (N : List Int) (nx : Nat → List Nat) (M : Nat → Prop) (I : σ → World → Prop) (l : List Int) (s : σ) (w : World) (e : Ending) (w' : World) : Prop :=
  match Sp.pls N l with
  | none => e = .returned (.int .i64 140) ∧ I s w' ∧ Kw M w w'
  | some ps => e = .returned (.int .i64 (if (wAll (wOne V nx N.length) ps (List.replicate N.length false, s)).1 = none then 9 else 0)) ∧ I (wAll (wOne V nx N.length) ps (List.replicate N.length false, s)).2.2 w' ∧ Kw M w w'

def WalkH {σ : Type} (w w2 : World) (V : Vr σ) (N : List Int) (nx : Nat → List Nat) (M : Nat → Prop) (I : σ → World → Prop) (ps : List Nat) (s : σ) (xb eb : Nat) (gs2 : Option Nat) (c3 : Nat) : Prop :=
  Calls Try.prog 26 #[.agg (wsC xb eb N.length 23 24 #[.pointer (some ⟨w.heap.size + 1, 0, none⟩), .pointer (some ⟨w.heap.size, 0, none⟩)] #[.pointer (some ⟨w.heap.size + 1 + 1, 0, none⟩), .pointer (some ⟨w.heap.size, 0, none⟩)]), .slice (adr gs2) ps.length c3] w2 fun e w' =>
    BEnd (wAll (wOne V nx N.length) ps (List.replicate N.length false, s)).1 e ∧ I (wAll (wOne V nx N.length) ps (List.replicate N.length false, s)).2.2 w' ∧ Kw M w w'
theorem pls_lt {N : List Int} {l : List Int} {ps : List Nat} (h : Sp.pls N l = some ps) : ps.length = l.length ∧ ∀ j ∈ ps, j < N.length := by
  by_cases hx : ∃ x ∈ l, x ∉ N
  · rw [pls_none hx] at h; cases h
  · have hy : ∀ x ∈ l, x ∈ N := fun x h1 => Classical.byContradiction fun h2 => hx ⟨x, h1, h2⟩
    rw [pls_all hy] at h
    cases h
    refine ⟨by simp, fun j hj => ?_⟩
    obtain ⟨x, h1, rfl⟩ := List.mem_map.1 hj
    exact List.idxOf_lt_length_of_mem (hy x h1)

set_option maxRecDepth 100000 in
set_option maxHeartbeats 4000000 in
theorem Walk_any {σ : Type} {V : Vr σ} {M : Nat → Prop} {I : σ → World → Prop} {F1 F2 : Nat} {c1 c2 : Array Value} (D : Nat → Prop) (gb : Nat) (N : List Int) (nx : Nat → List Nat) (gs : Option Nat) (c mb xb : Nat) (G : List (Int × Int)) (es : Array MapEntry) (ck : Nat) (bl : Nat → Option Nat) (cp : Nat → Nat) (lo : Nat) (a : Option Addr) (cap : Nat) (l : List Int) (s : σ) (w : World)
    (h : GrP w D gb N nx gs c mb xb G es ck bl cp lo) (hD : ∀ k, D k → k < w.heap.size ∧ ¬ M k) (hV : VisB σ V N w.heap.size M I F1 F2 c1 c2) (hI : I s w) (hr : RefsAt w w.heap.size a l) (hl : l.length * 8 ≤ 140737488355328) (hn : N.length ≤ 4096) (hnl : ∀ t, t < N.length → (nx t).length ≤ 4096) (hnb : ∀ t, t < N.length → ∀ j ∈ nx t, j < N.length) :
    Calls Try.prog 9 #[.pointer (some ⟨gb, 0, none⟩), .slice a l.length cap, .func (.func F1) #[] c1, .func (.func F2) #[] c2] w (WalkE σ V N nx M I l s w) := by
  have hmf : ∀ (fn : Fn) (first cap : Array Value) (w : World), (Instr.makeFunc fn first cap).run Try.prog w = .ok (.func fn first cap) w := fun _ _ _ _ => rfl
  have HG : Hid (GrP w D gb N nx gs c mb xb G es ck bl cp lo) := h
  have HV : Hid (VisB σ V N w.heap.size M I F1 F2 c1 c2) := hV
  have HI : Hid (I s w) := hI
  have HR : Hid (RefsAt w w.heap.size a l) := hr
  have HD : Hid (∀ k, D k → k < w.heap.size ∧ ¬ M k) := hD
  clear h hV hI hr hD
  have hq : ∀ (F : Nat) (cs : Array Value) (W : World), Sem.run Try.prog (binOp .eql 43 (.func (.func F) #[] cs) .nilFunc) W = .ok (.bool false) W := fun F cs W => by kernel_rfl
  go_enter_defers Try.func9, Try.ntmps9
  go_wp2_with fail
  obtain ⟨W3, hW3⟩ : ∃ W3, ((w.alloc (.cells #[.pointer (some ⟨gb, 0, none⟩)] 25)).alloc (.cells #[.func (.func F1) #[] c1] 43)).alloc (.cells #[.func (.func F2) #[] c2] 43) = W3 := ⟨_, rfl⟩
  have HB3 : Hid (Below w.heap.size w W3 ∧ W3.heap.size = w.heap.size + 3 ∧ W3.heap[w.heap.size]? = some (.cells #[.pointer (some ⟨gb, 0, none⟩)] 25 (0, 0)) ∧ W3.heap[w.heap.size + 1]? = some (.cells #[.func (.func F1) #[] c1] 43 (0, 0)) ∧ W3.heap[w.heap.size + 2]? = some (.cells #[.func (.func F2) #[] c2] 43 (0, 0))) := by
    rw [← hW3]
    refine ⟨(((Below.refl _ _).alloc (Nat.le_refl _) _).alloc (by rw [al_size]; omega) _).alloc (by rw [al_size, al_size]; omega) _, by rw [al_size, al_size, al_size], ?_, ?_, ?_⟩
    · rw [Below.heap_alloc _ _ _ (by rw [al_size, al_size]; omega), Below.heap_alloc _ _ _ (by rw [al_size]; omega)]; exact heap_alloc_new _ _
    · rw [Below.heap_alloc _ _ _ (by rw [al_size, al_size]; omega)]; have := heap_alloc_new (w.alloc (.cells #[.pointer (some ⟨gb, 0, none⟩)] 25)) (.cells #[.func (.func F1) #[] c1] 43); rw [al_size] at this; exact this
    · have := heap_alloc_new ((w.alloc (.cells #[.pointer (some ⟨gb, 0, none⟩)] 25)).alloc (.cells #[.func (.func F1) #[] c1] 43)) (.cells #[.func (.func F2) #[] c2] 43); rw [al_size, al_size] at this; exact this
  rw [hW3]
  clear hW3
  have HG3 : Hid (GrP W3 D gb N nx gs c mb xb G es ck bl cp lo) := HG.out.keep fun k hk => HB3.out.1.block k (HD.out k hk).1
  refine (placesOf_any gb mb xb N.length _ G es ck N a cap l w.heap.size W3 HG3.out.cn (HR.out.keep HB3.out.1) HB3.out.1.size hl).mono ?_
  rintro e w1 ⟨hb1, ho⟩
  have HB1 : Hid (Below W3.heap.size W3 w1) := hb1
  have H0 : Hid (Below w.heap.size w w1) := HB3.out.1.trans (hb1.mono HB3.out.1.size)
  have HX1 : Hid (w1.heap[w.heap.size]? = W3.heap[w.heap.size]? ∧ w1.heap[w.heap.size + 1]? = W3.heap[w.heap.size + 1]? ∧ w1.heap[w.heap.size + 2]? = W3.heap[w.heap.size + 2]?) := by
    have := HB3.out.2.1
    exact ⟨hb1.block _ (by omega), hb1.block _ (by omega), hb1.block _ (by omega)⟩
  clear hb1
  have HK : Hid (∀ X, Below w.heap.size w X → I s X ∧ Kw M w X) := fun X hX => ⟨HV.out.keep s w X HI.out hX.size (fun k h1 _ => hX.block k h1) hX.os hX.tape hX.output, ⟨hX.os, hX.tape, hX.output, hX.size, fun j h1 _ => hX.block j h1⟩⟩
  rcases ho with ⟨hp, rfl⟩ | ⟨ps, gs2, c3, hp, rfl, hnd, hgs⟩
  · have HP : Hid (Sp.pls N l = none) := hp
    clear hp
    go_wp2_with fail
    simp [bodyPostD, Leaves, results, Try.results9, go_sem]
    unfold WalkE
    rw [HP.out]
    exact ⟨rfl, HK.out _ H0.out⟩
  · have HP : Hid (Sp.pls N l = some ps) := hp
    have HN : Hid (NdI w1 gs2 c3 (ps.map fun j : Nat => (j : Int))) := hnd
    have HS : Hid (∀ g, gs2 = some g → W3.heap.size ≤ g) := hgs
    have b0 : w1.cell? ⟨w.heap.size, 0, none⟩ = some (.pointer (some ⟨gb, 0, none⟩)) := by simp [World.cell?, HX1.out.1, HB3.out.2.2.1]
    clear hp hnd hgs
    go_wp2_with fail
    have HG1 : Hid (GrP w1 D gb N nx gs c mb xb G es ck bl cp lo) := HG.out.keep fun k hk => H0.out.block k (HD.out k hk).1
    refine (walk_new gb mb xb N.length gs c G es ck N _ _ _ _ w1 HG1.out.cn hn).mono ?_
    rintro e w2 ⟨eb, rfl, heb, hent, hb2⟩
    have HE : Hid (OwnR w2 4 eb N.length N.length (bv (List.replicate N.length false))) := hent
    have HB2 : Hid (Below w1.heap.size w1 w2) := hb2
    have HEB : Hid (w1.heap.size ≤ eb) := heb
    clear heb hent hb2
    have HW : Hid (∀ X, Below w2.heap.size w2 X → WalkH w X V N nx M I ps s xb eb gs2 c3) := by
      intro X hX
      have HE' := HE.out.keep (hX.block eb HE.out.lt)
      have HB2' := HB2.out.trans (hX.mono HB2.out.size)
      have hs3 := HB3.out.2.1
      have hs1 := HB1.out.size
      have heb := HEB.out
      have h02 : Below w.heap.size w X := H0.out.trans (HB2'.mono H0.out.size)
      have hk2 : ∀ k, k < w1.heap.size → X.heap[k]? = w1.heap[k]? := fun k hk => HB2'.block k hk
      have hel := HE'.lt
      have hst : ∀ k, k < w1.heap.size → ¬ M k → Stb0 M eb X k := fun k h1 h2 => ⟨by omega, by rintro (h | h); exact h2 h; omega⟩
      have hMo : ∀ k, w.heap.size ≤ k → ¬ M k := fun k h1 h2 => by have := HV.out.old k h2; omega
      have hG2 : GrP X D gb N nx gs c mb xb G es ck bl cp lo := HG.out.keep fun k hk => h02.block k (HD.out k hk).1
      have hDs : ∀ k, D k → Stb0 M eb X k := fun k hk => hst k (by have := (HD.out k hk).1; omega) (HD.out k hk).2
      have hVH := HV.out.to X.heap.size eb (by omega) hel (w.heap.size + 1) (w.heap.size + 1 + 1) w.heap.size gb c X (hst _ (by omega) (hMo _ (by omega))) (hst _ (by omega) (hMo _ (by omega))) (hst _ (by omega) (hMo _ (by omega))) (hDs _ hG2.ins.1)
        (by simp [World.cell?, hk2 (w.heap.size + 1) (by omega), HX1.out.2.1, HB3.out.2.2.2.1]) (by simp [World.cell?, hk2 (w.heap.size + 2) (by omega), HX1.out.2.2, HB3.out.2.2.2.2]) (by simp [World.cell?, hk2 w.heap.size (by omega), HX1.out.1, HB3.out.2.2.1])
        (fun j x hx => by
          cases gs with
          | none => rw [hG2.nds.1 rfl] at hx; cases hx
          | some g => exact ⟨g, hDs g (hG2.ins.2.2.2.1 g rfl), by simp [World.cell?, hG2.cn.cells, adr], (hG2.nds.2 g rfl).cell (by simp [rv, hx])⟩)
      have hWI : WkI σ N.length X.heap.size eb M (fun s W => I s W ∧ Kw (fun k => M k ∨ k = eb) X W) nx lo xb bl cp (List.replicate N.length false, s) X := by
        refine ⟨⟨(HK.out X h02).1, Kw.refl _ _⟩, HE', hG2.nxt, Nat.le_refl _, ?_, ?_, hnb⟩
        · have := (hDs xb hG2.ins.2.2.1).2
          exact ⟨fun h => this (Or.inl h), fun h => this (Or.inr h)⟩
        · intro t ht g hg
          have := (hDs g (hG2.ins.2.2.2.2 t g ht hg)).2
          exact ⟨fun h => this (Or.inl h), fun h => this (Or.inr h)⟩
      have hpl := pls_lt HP.out
      have hA := walk_all (nx := nx) (lo := lo) (xb := xb) (bl := bl) (cp := cp) hVH hnl N.length ps (List.replicate N.length false, s) X gs2 c3 hWI (by simp [Sp.cf]) hpl.2
        (HN.out.keep fun g hg => hk2 g (HN.out.2 g hg).lt)
        (fun g hg => by
          have h1 := HS.out g hg
          have h2 := (HN.out.2 g hg).lt
          exact ⟨hMo g (by omega), by omega⟩)
        (by rw [hpl.1]; exact hl)
      refine hA.mono ?_
      rintro e w3 ⟨k1, k2, k3⟩
      exact ⟨k1, k2.inv.1, ⟨k3.os.trans h02.os, k3.tape.trans h02.tape, k3.output.trans h02.output, Nat.le_trans h02.size k3.size, fun j h1 h2 => (k3.block j (Nat.lt_of_lt_of_le h1 h02.size) (by rintro (h | h); exact h2 h; omega)).trans (h02.block j h1)⟩⟩
    simp only [wsC]
    go_wp2_with fail
    have hC := HW.out _ ((Below.refl w2.heap.size w2).alloc (Nat.le_refl _) (.cells (wsC xb eb N.length 23 24 #[.pointer (some ⟨w.heap.size + 1, 0, none⟩), .pointer (some ⟨w.heap.size, 0, none⟩)] #[.pointer (some ⟨w.heap.size + 1 + 1, 0, none⟩), .pointer (some ⟨w.heap.size, 0, none⟩)]) 64))
    unfold WalkH wsC at hC
    refine hC.mono ?_
    rintro e w3 ⟨k1, k2, k3⟩
    clear hC
    have HF : Hid (∀ v : Int, v = (if (wAll (wOne V nx N.length) ps (List.replicate N.length false, s)).1 = none then 9 else 0) → WalkE σ V N nx M I l s w (.returned (.int .i64 v)) w3) := by
      intro v hv
      unfold WalkE
      rw [HP.out, hv]
      exact ⟨rfl, k2, k3⟩
    clear k2 k3
    cases hr : (wAll (wOne V nx N.length) ps (List.replicate N.length false, s)).1 with
    | none =>
      rw [hr] at k1
      obtain ⟨v, rfl⟩ := k1
      have HZ := HF.out 9 (by rw [hr]; rfl)
      refine leaves_cons (f := 25) (args := #[]) (by simp) (by simp [go_sem]) ?_
      refine (wrec_caught v [] w3).mono ?_
      rintro e u' w4 ⟨rfl, rfl, rfl⟩
      simp [Leaves, settle, results, Try.results9, go_sem]
      exact HZ
    | some b =>
      rw [hr] at k1
      obtain rfl : e = .returned (.bool b) := k1
      have HZ : Hid (WalkE σ V N nx M I l s w (.returned (.int .i64 0)) w3) := HF.out 0 (by rw [hr]; rfl)
      go_wp2_with fail
      refine leaves_cons (f := 25) (args := #[]) (by simp) (by simp [go_sem]) ?_
      refine (wrec_idle w3).mono ?_
      rintro e u' w4 ⟨rfl, rfl, rfl⟩
      simp [Leaves, settle, results, Try.results9, go_sem]
      exact HZ.out
end Go.Proofs.Ytghfikeakfiopaa

/- graph.Walk with a function that is nil. -/
namespace Go.Proofs.Ytghfikeakfiopaa
open Go.RowKit Go.ChangeMaps

set_option maxRecDepth 100000 in
set_option maxHeartbeats 4000000 in
theorem Walk_nil1 (gb : Nat) (a : Option Addr) (n cap : Nat) (F2 : Nat) (c2 : Array Value) (w : World) :
    Calls Try.prog 9 #[.pointer (some ⟨gb, 0, none⟩), .slice a n cap, .nilFunc, .func (.func F2) #[] c2] w fun e w' => e = .returned (.int .i64 1) ∧ Below w.heap.size w w' := by
  have hq : ∀ (W : World), Sem.run Try.prog (binOp .eql 43 .nilFunc .nilFunc) W = .ok (.bool true) W := fun W => by kernel_rfl
  go_enter_defers Try.func9, Try.ntmps9
  go_wp2_with fail
  simp [bodyPostD, Leaves, results, Try.results9, go_sem]
  exact (((Below.refl _ _).alloc (Nat.le_refl _) _).alloc (by rw [al_size]; omega) _).alloc (by rw [al_size, al_size]; omega) _
set_option maxRecDepth 100000 in
set_option maxHeartbeats 4000000 in
theorem Walk_nil2 (gb : Nat) (a : Option Addr) (n cap : Nat) (F1 : Nat) (c1 : Array Value) (w : World) :
    Calls Try.prog 9 #[.pointer (some ⟨gb, 0, none⟩), .slice a n cap, .func (.func F1) #[] c1, .nilFunc] w fun e w' => e = .returned (.int .i64 1) ∧ Below w.heap.size w w' := by
  have hq : ∀ (W : World), Sem.run Try.prog (binOp .eql 43 .nilFunc .nilFunc) W = .ok (.bool true) W := fun W => by kernel_rfl
  have hq1 : ∀ (F : Nat) (cs : Array Value) (W : World), Sem.run Try.prog (binOp .eql 43 (.func (.func F) #[] cs) .nilFunc) W = .ok (.bool false) W := fun F cs W => by kernel_rfl
  go_enter_defers Try.func9, Try.ntmps9
  go_wp2_with fail
  simp [bodyPostD, Leaves, results, Try.results9, go_sem]
  exact (((Below.refl _ _).alloc (Nat.le_refl _) _).alloc (by rw [al_size]; omega) _).alloc (by rw [al_size, al_size]; omega) _
end Go.Proofs.Ytghfikeakfiopaa

/- tenonlaw14.GraphWalks: the walk of the law. -/
namespace Go.Proofs.Ytghfikeakfiopaa
open Go.RowKit Go.ChangeMaps

def BlsIn (w : World) (a : Option Addr) (l : List Bool) : Prop := ∀ t b, l[t]? = some b → ∃ g o, a = some ⟨g, o, none⟩ ∧ g < w.heap.size ∧ w.cell? ⟨g, o + t, none⟩ = some (.bool b)
theorem BlsIn.at' {w w' : World} {vb : Nat} {a : Option Addr} {l : List Bool} (h : BlsIn w a l) (hb : Below w.heap.size w w') (hv : w.heap.size ≤ vb) : BlsAt w' vb a l := fun t b ht => by
  obtain ⟨g, o, e, h1, h2⟩ := h t b ht
  exact ⟨g, o, e, Nat.lt_of_lt_of_le h1 hb.size, by omega, by rw [hb.cell (p := ⟨g, o + t, none⟩) h1]; exact h2⟩
theorem BlsIn.st {w w' : World} {M : Nat → Prop} {a : Option Addr} {l : List Bool} (h : BlsIn w a l) (hb : Below w.heap.size w w') (hM : ∀ k, M k → w.heap.size ≤ k) : BlS w' M a l := fun t b ht => by
  obtain ⟨g, o, e, h1, h2⟩ := h t b ht
  exact ⟨g, o, e, Nat.lt_of_lt_of_le h1 hb.size, fun hm => by have := hM g hm; omega, by rw [hb.cell (p := ⟨g, o + t, none⟩) h1]; exact h2⟩
theorem vis_lw {w0 : World} {ob nb eb lb vp vb pb cb xe xl : Nat} {P : Int} {gs : Option Nat} {c : Nat} {D : List (Int × Bool)} {aE aL : Option Addr} {En Le : List Bool} {cE cL : Nat} {N : List Int} (hS : LwS w0 ob nb eb lb vp vb pb P gs c D) (hc : w0.cell? ⟨cb, 0, none⟩ = some (.func (.func 6) #[] #[.pointer (some ⟨ob, 0, none⟩), .pointer (some ⟨nb, 0, none⟩), .pointer (some ⟨vp, 0, none⟩), .pointer (some ⟨pb, 0, none⟩)]) ∧ cb < w0.heap.size ∧ ¬ LM ob nb eb lb cb)
    (hxe : w0.cell? ⟨xe, 0, none⟩ = some (.slice aE En.length cE) ∧ xe < w0.heap.size ∧ ¬ LM ob nb eb lb xe) (hxl : w0.cell? ⟨xl, 0, none⟩ = some (.slice aL Le.length cL) ∧ xl < w0.heap.size ∧ ¬ LM ob nb eb lb xl) (hbe : BlS w0 (LM ob nb eb lb) aE En) (hbl : BlS w0 (LM ob nb eb lb) aL Le) (he : En.length < 9223372036854775808) (hl : Le.length < 9223372036854775808) :
    VisB VS (Sp.vis N En Le P) N w0.heap.size (LM ob nb eb lb) (LwI w0 ob nb eb lb D) 10 11 #[.pointer (some ⟨cb, 0, none⟩), .pointer (some ⟨eb, 0, none⟩), .pointer (some ⟨xe, 0, none⟩)] #[.pointer (some ⟨cb, 0, none⟩), .pointer (some ⟨lb, 0, none⟩), .pointer (some ⟨xl, 0, none⟩)] := by
  refine ⟨fun s W W' hI hs hb ho ht hp => hI.keep hS hs hb ho ht hp, fun s j x W hj hI => ?_, fun s j x W hj hI => ?_, fun x W => rfl, fun x W => rfl, fun k hk => ?_⟩
  · have hx : N.getD j 0 = x := by rw [List.getD_eq_getElem?_getD, hj]; rfl
    refine (lent_any hS hI cb xe aE En cE hc hxe hbe he x).mono ?_
    rintro e W' ⟨h1, h2, h3⟩
    simp only [List.length_append, List.length_cons, List.length_nil] at h1 h2
    simp only [Sp.vis, hx, IntWalk.i64_left]
    by_cases hP : wrap64 ((s.calls.length + 1 : Nat) : Int) = P
    · rw [if_pos (by simpa using hP)] at h1 h2
      rw [if_pos hP]
      exact ⟨h1, h2, h3⟩
    · rw [if_neg (by simpa using hP)] at h1 h2
      rw [if_neg hP]
      exact ⟨h1, h2, h3⟩
  · have hx : N.getD j 0 = x := by rw [List.getD_eq_getElem?_getD, hj]; rfl
    refine (llev_any hS hI cb xl aL Le cL hc hxl hbl hl x).mono ?_
    rintro e W' ⟨h1, h2, h3⟩
    simp only [List.length_append, List.length_cons, List.length_nil] at h1 h2
    simp only [Sp.vis, hx, IntWalk.i64_left]
    by_cases hP : wrap64 ((s.calls.length + 1 : Nat) : Int) = P
    · rw [if_pos (by simpa using hP)] at h1 h2
      rw [if_pos hP]
      exact ⟨h1, h2, h3⟩
    · rw [if_neg (by simpa using hP)] at h1 h2
      rw [if_neg hP]
      exact ⟨h1, h2, h3⟩
  · have := hS.lt
    rcases hk with h | h | h | h <;> omega
theorem al_at (w : World) (v : Value) (t : TypeId) : (w.alloc (.cells #[v] t)).heap[w.heap.size]? = some (.cells #[v] t (0, 0)) := heap_alloc_new w _
end Go.Proofs.Ytghfikeakfiopaa

