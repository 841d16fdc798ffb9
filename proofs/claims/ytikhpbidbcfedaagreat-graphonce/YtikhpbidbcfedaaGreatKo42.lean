/- graph.Walk: what was handed in makes a visitor by Walk's two function literals; visitors that put nodes into rows of their own too. -/
import Derived.Test.YtikhpbidbcfedaaGreatKo41
import Derived.Test.YtikhpbidbcfedaaGreatKo26
import Derived.Defers
import Derived.Recover
import Derived.Test.YtikhpbidbcfedaaGreatKo27
import Derived.Test.YtikhpbidbcfedaaGreatKo13
import Derived.Test.YtikhpbidbcfedaaGreatKo11
import Derived.Test.YtikhpbidbcfedaaGreatKo17
import Derived.Test.YtikhpbidbcfedaaGreatKo23
import Derived.Test.YtikhpbidbcfedaaGreatKo37
import Derived.Test.YtikhpbidbcfedaaGreatKo36
import Derived.Test.YtikhpbidbcfedaaGreatKo24
import Derived.Test.YtikhpbidbcfedaaGreatKo35
import Derived.Test.YtikhpbidbcfedaaGreatKo40
namespace Go.Proofs.YtikhpbidbcfedaaGreat
open Go.RowKit Go.ChangeMaps

structure VisP (σ : Type) (V : Vr σ) (zf : σ → Nat) (N : List Int) (B m0 eb : Nat) (M : Nat → Option Obj → Prop) (I : σ → World → Prop) (F1 F2 : Nat) (c1 c2 : Array Value) : Prop where
  keep : ∀ s (W W' : World), I s W → W.heap.size ≤ W'.heap.size → (∀ k, k < W.heap.size → k ≠ eb → W'.heap[k]? = W.heap[k]?) → I s W'
  enter : ∀ s j x (W : World), N[j]? = some x → zf s < 16384 → I s W → Calls Tryz.prog F1 (#[.int .u64 x] ++ c1) W fun e W' => BEnd (V.enter s j).1 e ∧ I (V.enter s j).2 W' ∧ KwO M W W'
  leave : ∀ s j x (W : World), N[j]? = some x → zf s < 16384 → I s W → Calls Tryz.prog F2 (#[.int .u64 x] ++ c2) W fun e W' => BEnd (V.leave s j).1 e ∧ I (V.leave s j).2 W' ∧ KwO M W W'
  ecf : ∀ (x : Int) (W : World), Sem.run Tryz.prog (callFunc F1 (#[.int .u64 x] ++ c1)) W = .ok (.enter F1 (#[.int .u64 x] ++ c1)) W
  lcf : ∀ (x : Int) (W : World), Sem.run Tryz.prog (callFunc F2 (#[.int .u64 x] ++ c2)) W = .ok (.enter F2 (#[.int .u64 x] ++ c2)) W
  sze : ∀ s j, zf (V.enter s j).2 ≤ zf s + 1
  szl : ∀ s j, zf (V.leave s j).2 ≤ zf s + 1
  old : ∀ k o, M k o → k < B ∨ (m0 ≤ k ∧ ∃ c f, o = some (.cells c 25 f))
def StbP (M : Nat → Option Obj → Prop) (eb : Nat) (w : World) (b : Nat) : Prop := b < w.heap.size ∧ b ≠ eb ∧ ∀ o, ¬ M b o
theorem KwO.cell {M : Nat → Option Obj → Prop} {eb b o : Nat} {w w' : World} (h : KwO (fun k o => M k o ∨ k = eb) w w') (hb : StbP M eb w b) : w'.cell? ⟨b, o, none⟩ = w.cell? ⟨b, o, none⟩ := World.cell?_of_block (h.block b hb.1 (by rintro (h | h); exact hb.2.2 _ h; exact hb.2.1 h))

set_option maxRecDepth 100000 in
theorem VisP.to {σ : Type} {V : Vr σ} {zf : σ → Nat} {N : List Int} {B : Nat} {M : Nat → Option Obj → Prop} {I : σ → World → Prop} {F1 F2 : Nat} {c1 c2 : Array Value} {m0 eb : Nat} (h : VisP σ V zf N B m0 eb M I F1 F2 c1 c2) (hBe : B ≤ eb) (hem : eb < m0) (b6 b7 b4 gb c : Nat) (w0 : World)
    (s6 : StbP M eb w0 b6) (s7 : StbP M eb w0 b7) (s4 : StbP M eb w0 b4) (sg : StbP M eb w0 gb)
    (h6 : w0.cell? ⟨b6, 0, none⟩ = some (.func (.func F1) #[] c1)) (h7 : w0.cell? ⟨b7, 0, none⟩ = some (.func (.func F2) #[] c2)) (h4 : w0.cell? ⟨b4, 0, none⟩ = some (.pointer (some ⟨gb, 0, none⟩))) (hx : ∀ j x, N[j]? = some x → ∃ g, StbP M eb w0 g ∧ w0.cell? ⟨gb, 0, none⟩ = some (.slice (some ⟨g, 0, none⟩) N.length c) ∧ w0.cell? ⟨g, j, none⟩ = some (.int .u64 x)) :
    VisO σ V zf N.length m0 eb M (fun s W => I s W ∧ KwO (fun k o => M k o ∨ k = eb) w0 W) 43 44 #[.pointer (some ⟨b6, 0, none⟩), .pointer (some ⟨b4, 0, none⟩)] #[.pointer (some ⟨b7, 0, none⟩), .pointer (some ⟨b4, 0, none⟩)] := by
  refine ⟨?_, ?_, ?_, ?_, ?_, h.sze, h.szl, fun k c hk hM => ?_, hem, fun o hM => ?_⟩
  · rintro s W W' ⟨hI, hK⟩ hs hb ho ht hp
    exact ⟨h.keep s W W' hI hs hb, hK.trans ⟨ho, ht, hp, hs, fun j h1 h2 => hb j h1 fun h3 => h2 (Or.inr h3)⟩⟩
  · rintro s j W hj hz ⟨hI, hK⟩
    have hN : N[j]? = some N[j] := List.getElem?_eq_getElem hj
    obtain ⟨g, sr, hg, hx⟩ := hx j _ hN
    have hE := h.enter s j N[j] W.drew hN hz (h.keep s W _ hI (Nat.le_refl _) (fun _ _ _ => rfl))
    have := cl1_any F1 c1 b6 b4 gb g N.length c j N[j] (V.enter s j).1 (fun W' => (I (V.enter s j).2 W' ∧ KwO (fun k o => M k o ∨ k = eb) w0 W') ∧ KwO M W W') W hj (by rw [hK.cell s6]; exact h6) (by rw [hK.cell s4]; exact h4) (by rw [hK.cell sg]; exact hg) (by rw [hK.cell sr]; exact hx) (h.ecf _)
      (hE.mono fun e W' he => ⟨he.1, ⟨he.2.1, hK.trans ((((KwO.refl M W).drew).trans he.2.2).mono fun _ _ h => Or.inl h)⟩, ((KwO.refl M W).drew).trans he.2.2⟩)
      (fun W' hq => ⟨by rw [hq.1.2.cell s6]; exact h6, by rw [hq.1.2.cell s4]; exact h4, by rw [hq.1.2.cell sg]; exact hg, by rw [hq.1.2.cell sr]; exact hx⟩)
    exact this.mono fun e W' hq => ⟨hq.1, hq.2.1, hq.2.2⟩
  · rintro s j W hj hz ⟨hI, hK⟩
    have hN : N[j]? = some N[j] := List.getElem?_eq_getElem hj
    obtain ⟨g, sr, hg, hx⟩ := hx j _ hN
    have hE := h.leave s j N[j] W.drew hN hz (h.keep s W _ hI (Nat.le_refl _) (fun _ _ _ => rfl))
    have := cl2_any F2 c2 b7 b4 gb g N.length c j N[j] (V.leave s j).1 (fun W' => (I (V.leave s j).2 W' ∧ KwO (fun k o => M k o ∨ k = eb) w0 W') ∧ KwO M W W') W hj (by rw [hK.cell s7]; exact h7) (by rw [hK.cell s4]; exact h4) (by rw [hK.cell sg]; exact hg) (by rw [hK.cell sr]; exact hx) (h.lcf _)
      (hE.mono fun e W' he => ⟨he.1, ⟨he.2.1, hK.trans ((((KwO.refl M W).drew).trans he.2.2).mono fun _ _ h => Or.inl h)⟩, ((KwO.refl M W).drew).trans he.2.2⟩)
      (fun W' hq => ⟨by rw [hq.1.2.cell s7]; exact h7, by rw [hq.1.2.cell s4]; exact h4, by rw [hq.1.2.cell sg]; exact hg, by rw [hq.1.2.cell sr]; exact hx⟩)
    exact this.mono fun e W' hq => ⟨hq.1, hq.2.1, hq.2.2⟩
  · intro j W; rfl
  · intro j W; rfl
  · rcases h.old k _ hM with h1 | ⟨_, c', f, h1⟩
    · omega
    · simp at h1
  · rcases h.old eb o hM with h1 | ⟨h1, _⟩
    · omega
    · omega

set_option maxRecDepth 100000 in
set_option maxHeartbeats 1000000 in
theorem wrec_idle (w : World) : CallsD Tryz.prog 45 #[] .returning w fun e u' w' => e = .returned (.tuple #[]) ∧ u' = .returning ∧ w' = w := by
  refine callsD_of_wpS Tryz.func45 rfl fun c₀ cs hu => ?_
  first | apply wpS_seq | skip
  apply wpS_region
  simp [wpOpsS, go_sem, recoverD, hu, Tryz.ntmps45]
  cases c₀
  simp_all [bodyPostS, results, Tryz.results45]
set_option maxRecDepth 100000 in
set_option maxHeartbeats 1000000 in
theorem wrec_caught (v : Value) (older : List PanicEntry) (w : World) : CallsD Tryz.prog 45 #[] (.panicking ({ v := v, recovered := false } :: older)) w fun e u' w' => e = .returned (.tuple #[]) ∧ u' = .panicking ({ v := v, recovered := true } :: older) ∧ w' = w := by
  refine callsD_of_wpS Tryz.func45 rfl fun c₀ cs hu => ?_
  first | apply wpS_seq | skip
  apply wpS_region
  simp [wpOpsS, go_sem, recoverD, hu, Tryz.ntmps45]
  simp [bodyPostS, results, Tryz.results45]
end Go.Proofs.YtikhpbidbcfedaaGreat

/- graph.Walk: walks of the program's, visitors that put nodes into rows of their own too. -/
namespace Go.Proofs.YtikhpbidbcfedaaGreat
open Go.RowKit Go.ChangeMaps

def WalkF (σ : Type) (V : Vr σ) (N : List Int) (nx : Nat → List Nat) (M : Nat → Nat → Option Obj → Prop) (I : Nat → σ → World → Prop) (l : List Int) (s : σ) (w : World) (e : Ending) (w' : World) : Prop :=
  match Sp.pls N l with
  | none => e = .returned (.int .i64 140) ∧ Below w.heap.size w w'
  | some ps => e = .returned (.int .i64 (if (wAll (wOne V nx N.length) ps (List.replicate N.length false, s)).1 = none then 9 else 0)) ∧ ∃ m0, w.heap.size < m0 ∧ I m0 (wAll (wOne V nx N.length) ps (List.replicate N.length false, s)).2.2 w' ∧ KwO (M m0) w w'

def WalkG {σ : Type} (w w2 : World) (V : Vr σ) (N : List Int) (nx : Nat → List Nat) (M : Nat → Nat → Option Obj → Prop) (I : Nat → σ → World → Prop) (ps : List Nat) (s : σ) (xb eb : Nat) (gs2 : Option Nat) (c3 : Nat) : Prop :=
  Calls Tryz.prog 46 #[.agg (wsC xb eb N.length 43 44 #[.pointer (some ⟨w.heap.size + 1, 0, none⟩), .pointer (some ⟨w.heap.size, 0, none⟩)] #[.pointer (some ⟨w.heap.size + 1 + 1, 0, none⟩), .pointer (some ⟨w.heap.size, 0, none⟩)]), .slice (adr gs2) ps.length c3] w2 fun e w' =>
    BEnd (wAll (wOne V nx N.length) ps (List.replicate N.length false, s)).1 e ∧ ∃ m0, w.heap.size < m0 ∧ I m0 (wAll (wOne V nx N.length) ps (List.replicate N.length false, s)).2.2 w' ∧ KwO (M m0) w w'

set_option maxRecDepth 100000 in
set_option maxHeartbeats 4000000 in
theorem Walk_anyO {σ : Type} {V : Vr σ} {zf : σ → Nat} {M : Nat → Nat → Option Obj → Prop} {I : Nat → σ → World → Prop} {F1 F2 : Nat} {c1 c2 : Array Value} (D : Nat → Prop) (gb : Nat) (N : List Int) (nx : Nat → List Nat) (gs : Option Nat) (c mb xb : Nat) (G : List (Int × Int)) (es : Array MapEntry) (ck : Nat) (bl : Nat → Option Nat) (cp : Nat → Nat) (lo : Nat) (a : Option Addr) (cap : Nat) (l : List Int) (s : σ) (w : World)
    (h : GrP w D gb N nx gs c mb xb G es ck bl cp lo) (hD : ∀ k, D k → k < w.heap.size ∧ ∀ m0 o, w.heap.size < m0 → ¬ M m0 k o) (hV : ∀ m0 eb, w.heap.size ≤ eb → eb < m0 → VisP σ V zf N w.heap.size m0 eb (M m0) (I m0) F1 F2 c1 c2) (hI : ∀ m0 (X : World), Below w.heap.size w X → w.heap.size < m0 → m0 ≤ X.heap.size → I m0 s X) (hz : zf s + 2 * N.length ≤ 16384) (hr : RefsAt w w.heap.size a l) (hl : l.length * 8 ≤ 140737488355328) (hn : N.length ≤ 4096) (hnl : ∀ t, t < N.length → (nx t).length ≤ 4096) (hnb : ∀ t, t < N.length → ∀ j ∈ nx t, j < N.length) :
    Calls Tryz.prog 23 #[.pointer (some ⟨gb, 0, none⟩), .slice a l.length cap, .func (.func F1) #[] c1, .func (.func F2) #[] c2] w (WalkF σ V N nx M I l s w) := by
  have hmf : ∀ (fn : Fn) (first cap : Array Value) (w : World), (Instr.makeFunc fn first cap).run Tryz.prog w = .ok (.func fn first cap) w := fun _ _ _ _ => rfl
  have HG : Hid (GrP w D gb N nx gs c mb xb G es ck bl cp lo) := h
  have HV : Hid (∀ m0 eb, w.heap.size ≤ eb → eb < m0 → VisP σ V zf N w.heap.size m0 eb (M m0) (I m0) F1 F2 c1 c2) := hV
  have HI : Hid ((∀ m0 (X : World), Below w.heap.size w X → w.heap.size < m0 → m0 ≤ X.heap.size → I m0 s X) ∧ zf s + 2 * N.length ≤ 16384) := ⟨hI, hz⟩
  have HR : Hid (RefsAt w w.heap.size a l) := hr
  have HD : Hid (∀ k, D k → k < w.heap.size ∧ ∀ m0 o, w.heap.size < m0 → ¬ M m0 k o) := hD
  clear h hV hI hz hr hD
  have hq : ∀ (F : Nat) (cs : Array Value) (W : World), Sem.run Tryz.prog (binOp .eql 55 (.func (.func F) #[] cs) .nilFunc) W = .ok (.bool false) W := fun F cs W => by kernel_rfl
  go_enter_defers Tryz.func23, Tryz.ntmps23
  go_wp2_with fail
  obtain ⟨W3, hW3⟩ : ∃ W3, ((w.alloc (.cells #[.pointer (some ⟨gb, 0, none⟩)] 27)).alloc (.cells #[.func (.func F1) #[] c1] 55)).alloc (.cells #[.func (.func F2) #[] c2] 55) = W3 := ⟨_, rfl⟩
  have HB3 : Hid (Below w.heap.size w W3 ∧ W3.heap.size = w.heap.size + 3 ∧ W3.heap[w.heap.size]? = some (.cells #[.pointer (some ⟨gb, 0, none⟩)] 27 (0, 0)) ∧ W3.heap[w.heap.size + 1]? = some (.cells #[.func (.func F1) #[] c1] 55 (0, 0)) ∧ W3.heap[w.heap.size + 2]? = some (.cells #[.func (.func F2) #[] c2] 55 (0, 0))) := by
    rw [← hW3]
    refine ⟨(((Below.refl _ _).alloc (Nat.le_refl _) _).alloc (by rw [al_size]; omega) _).alloc (by rw [al_size, al_size]; omega) _, by rw [al_size, al_size, al_size], ?_, ?_, ?_⟩
    · rw [Below.heap_alloc _ _ _ (by rw [al_size, al_size]; omega), Below.heap_alloc _ _ _ (by rw [al_size]; omega)]; exact heap_alloc_new _ _
    · rw [Below.heap_alloc _ _ _ (by rw [al_size, al_size]; omega)]; have := heap_alloc_new (w.alloc (.cells #[.pointer (some ⟨gb, 0, none⟩)] 27)) (.cells #[.func (.func F1) #[] c1] 55); rw [al_size] at this; exact this
    · have := heap_alloc_new ((w.alloc (.cells #[.pointer (some ⟨gb, 0, none⟩)] 27)).alloc (.cells #[.func (.func F1) #[] c1] 55)) (.cells #[.func (.func F2) #[] c2] 55); rw [al_size, al_size] at this; exact this
  rw [hW3]
  clear hW3
  have HG3 : Hid (GrP W3 D gb N nx gs c mb xb G es ck bl cp lo) := HG.out.keep fun k hk => HB3.out.1.block k (HD.out k hk).1
  refine (placesOf_any gb mb xb N.length _ G es ck N a cap l w.heap.size W3 HG3.out.cn (HR.out.keep HB3.out.1) HB3.out.1.size hl).mono ?_
  rintro e w1 ⟨hb1, ho⟩
  have HB1 : Hid (Below W3.heap.size W3 w1) := hb1
  have H0 : Hid (Below w.heap.size w w1) := HB3.out.1.trans (hb1.mono HB3.out.1.size)
  have HX1 : Hid (w1.heap[w.heap.size]? = W3.heap[w.heap.size]? ∧ w1.heap[w.heap.size + 1]? = W3.heap[w.heap.size + 1]? ∧ w1.heap[w.heap.size + 2]? = W3.heap[w.heap.size + 2]?) := by
    have := HB3.out.2.1
    exact ⟨hb1.block _ (by omega), hb1.block _ (by omega), hb1.block _ (by omega)⟩
  clear hb1
  rcases ho with ⟨hp, rfl⟩ | ⟨ps, gs2, c3, hp, rfl, hnd, hgs⟩
  · have HP : Hid (Sp.pls N l = none) := hp
    clear hp
    go_wp2_with fail
    simp [bodyPostD, Leaves, results, Tryz.results23, go_sem]
    unfold WalkF
    rw [HP.out]
    exact ⟨rfl, H0.out⟩
  · have HP : Hid (Sp.pls N l = some ps) := hp
    have HN : Hid (NdI w1 gs2 c3 (ps.map fun j : Nat => (j : Int))) := hnd
    have HS : Hid (∀ g, gs2 = some g → W3.heap.size ≤ g) := hgs
    have b0 : w1.cell? ⟨w.heap.size, 0, none⟩ = some (.pointer (some ⟨gb, 0, none⟩)) := by simp [World.cell?, HX1.out.1, HB3.out.2.2.1]
    clear hp hnd hgs
    go_wp2_with fail
    have HG1 : Hid (GrP w1 D gb N nx gs c mb xb G es ck bl cp lo) := HG.out.keep fun k hk => H0.out.block k (HD.out k hk).1
    refine (walk_new gb mb xb N.length gs c G es ck N _ _ _ _ w1 HG1.out.cn hn).mono ?_
    rintro e w2 ⟨eb, rfl, heb, hent, hb2⟩
    have HE : Hid (OwnR w2 4 eb N.length N.length (bv (List.replicate N.length false))) := hent
    have HB2 : Hid (Below w1.heap.size w1 w2) := hb2
    have HEB : Hid (w1.heap.size ≤ eb) := heb
    clear heb hent hb2
    have HW : Hid (∀ X, Below w2.heap.size w2 X → WalkG w X V N nx M I ps s xb eb gs2 c3) := by
      intro X hX
      have HE' := HE.out.keep (hX.block eb HE.out.lt)
      have HB2' := HB2.out.trans (hX.mono HB2.out.size)
      have hs3 := HB3.out.2.1
      have hs1 := HB1.out.size
      have heb := HEB.out
      have h02 : Below w.heap.size w X := H0.out.trans (HB2'.mono H0.out.size)
      have hk2 : ∀ k, k < w1.heap.size → X.heap[k]? = w1.heap[k]? := fun k hk => HB2'.block k hk
      have hel := HE'.lt
      have hm0 : w.heap.size < X.heap.size := by have := HE'.lt; omega
      have hV := HV.out X.heap.size eb (by omega) hel
      have hst : ∀ k, k < w1.heap.size → (∀ o, ¬ M X.heap.size k o) → StbP (M X.heap.size) eb X k := fun k h1 h2 => ⟨by omega, by omega, h2⟩
      have hMo : ∀ k, w.heap.size ≤ k → k < X.heap.size → ∀ o, ¬ M X.heap.size k o := fun k h1 h3 o h2 => by rcases hV.old k o h2 with h | ⟨h, _⟩ <;> omega
      have hG2 : GrP X D gb N nx gs c mb xb G es ck bl cp lo := HG.out.keep fun k hk => h02.block k (HD.out k hk).1
      have hDs : ∀ k, D k → StbP (M X.heap.size) eb X k := fun k hk => hst k (by have := (HD.out k hk).1; omega) (fun o => (HD.out k hk).2 _ o hm0)
      have hVH := hV.to (by omega) hel (w.heap.size + 1) (w.heap.size + 1 + 1) w.heap.size gb c X (hst _ (by omega) (hMo _ (by omega) (by omega))) (hst _ (by omega) (hMo _ (by omega) (by omega))) (hst _ (by omega) (hMo _ (by omega) (by omega))) (hDs _ hG2.ins.1)
        (by simp [World.cell?, hk2 (w.heap.size + 1) (by omega), HX1.out.2.1, HB3.out.2.2.2.1]) (by simp [World.cell?, hk2 (w.heap.size + 2) (by omega), HX1.out.2.2, HB3.out.2.2.2.2]) (by simp [World.cell?, hk2 w.heap.size (by omega), HX1.out.1, HB3.out.2.2.1])
        (fun j x hx => by
          cases gs with
          | none => rw [hG2.nds.1 rfl] at hx; cases hx
          | some g => exact ⟨g, hDs g (hG2.ins.2.2.2.1 g rfl), by simp [World.cell?, hG2.cn.cells, adr], (hG2.nds.2 g rfl).cell (by simp [rv, hx])⟩)
      have hWI : WkJ σ zf (zf s + 2 * N.length) N.length X.heap.size eb (M X.heap.size) (fun s W => I X.heap.size s W ∧ KwO (fun k o => M X.heap.size k o ∨ k = eb) X W) nx lo xb bl cp (List.replicate N.length false, s) X := by
        refine ⟨⟨HI.out.1 X.heap.size X h02 hm0 (Nat.le_refl _), KwO.refl _ _⟩, HE', hG2.nxt, Nat.le_refl _, ?_, ?_, hnb, ?_⟩
        · have := (hDs xb hG2.ins.2.2.1).2
          exact ⟨this.2, this.1⟩
        · intro t ht g hg
          have := (hDs g (hG2.ins.2.2.2.2 t g ht hg)).2
          exact ⟨this.2, this.1⟩
        · have := HI.out.2
          have hcc : Sp.cf (List.replicate N.length false) = N.length := by simp [Sp.cf]
          dsimp only
          rw [hcc]
          exact ⟨Nat.le_refl _, this⟩
      have hpl := pls_lt HP.out
      have hA := walk_allO (nx := nx) (lo := lo) (xb := xb) (bl := bl) (cp := cp) hVH hnl N.length (zf s + 2 * N.length) ps (List.replicate N.length false, s) X gs2 c3 hWI (by simp [Sp.cf]) hpl.1
        (HN.out.keep fun g hg => hk2 g (HN.out.2 g hg).lt)
        (fun g hg => by
          have h1 := HS.out g hg
          have h2 := (HN.out.2 g hg).lt
          exact ⟨hMo g (by omega) (by omega), by omega⟩)
        (by rw [hpl.2]; exact hl)
      refine hA.mono ?_
      rintro e w3 ⟨k1, k2, k3⟩
      exact ⟨k1, X.heap.size, hm0, k2.inv.1, ⟨k3.os.trans h02.os, k3.tape.trans h02.tape, k3.output.trans h02.output, Nat.le_trans h02.size k3.size, fun j h1 h2 => (k3.block j (Nat.lt_of_lt_of_le h1 h02.size) (by rw [h02.block j h1]; rintro (h | h); exact h2 h; omega)).trans (h02.block j h1)⟩⟩
    simp only [wsC]
    go_wp2_with fail
    have hC := HW.out _ ((Below.refl w2.heap.size w2).alloc (Nat.le_refl _) (.cells (wsC xb eb N.length 43 44 #[.pointer (some ⟨w.heap.size + 1, 0, none⟩), .pointer (some ⟨w.heap.size, 0, none⟩)] #[.pointer (some ⟨w.heap.size + 1 + 1, 0, none⟩), .pointer (some ⟨w.heap.size, 0, none⟩)]) 83))
    unfold WalkG wsC at hC
    refine hC.mono ?_
    rintro e w3 ⟨k1, k2⟩
    clear hC
    have HF : Hid (∀ v : Int, v = (if (wAll (wOne V nx N.length) ps (List.replicate N.length false, s)).1 = none then 9 else 0) → WalkF σ V N nx M I l s w (.returned (.int .i64 v)) w3) := by
      intro v hv
      unfold WalkF
      rw [HP.out, hv]
      exact ⟨rfl, k2⟩
    clear k2
    cases hr : (wAll (wOne V nx N.length) ps (List.replicate N.length false, s)).1 with
    | none =>
      rw [hr] at k1
      obtain ⟨v, rfl⟩ := k1
      have HZ := HF.out 9 (by rw [hr]; rfl)
      refine leaves_cons (f := 45) (args := #[]) (by simp) (by simp [go_sem]) ?_
      refine (wrec_caught v [] w3).mono ?_
      rintro e u' w4 ⟨rfl, rfl, rfl⟩
      simp [Leaves, settle, results, Tryz.results23, go_sem]
      exact HZ
    | some b =>
      rw [hr] at k1
      obtain rfl : e = .returned (.bool b) := k1
      have HZ : Hid (WalkF σ V N nx M I l s w (.returned (.int .i64 0)) w3) := HF.out 0 (by rw [hr]; rfl)
      go_wp2_with fail
      refine leaves_cons (f := 45) (args := #[]) (by simp) (by simp [go_sem]) ?_
      refine (wrec_idle w3).mono ?_
      rintro e u' w4 ⟨rfl, rfl, rfl⟩
      simp [Leaves, settle, results, Tryz.results23, go_sem]
      exact HZ.out
end Go.Proofs.YtikhpbidbcfedaaGreat

/- tenonlaw14.without: nodes and edges but for one node. -/
namespace Go.Proofs.YtikhpbidbcfedaaGreat
open Go.RowKit Go.ChangeMaps

def WtE (w : World) (nodes : List Int) (E : List (Int × Int)) (x : Int) (e : Ending) (w' : World) : Prop := ∃ ga ca ge ce, e = .returned (.tuple #[.slice (adr ga) (Sp.wN nodes x).length ca, .slice (adr ge) (Sp.wE E x).length ce]) ∧ NdR w' ga ca (Sp.wN nodes x) ∧ NdE w' ge ce (Sp.wE E x) ∧ Below w.heap.size w w'
theorem EgI.put {w wr w4 : World} {l : List (Int × Int)} {ge : Option Nat} {ce g' c' : Nat} {x y : Int} (h : EgI w l ge ce wr) (ho : OwnK w4 38 2 g' (l.length + 1) c' (ev (l ++ [(x, y)]))) (hg : (wr.alloc (.cells #[.int .u64 x, .int .u64 y] 38)).grownBy w4 ge) (hor : ge = some g' ∨ wr.heap.size < g') : EgI w (l ++ [(x, y)]) (some g') c' w4 := by
  have hb := h.bel.alloc h.bel.size (.cells #[.int .u64 x, .int .u64 y] 38)
  refine ⟨⟨(fun e => by cases e), fun g hgg => ?_⟩, fun g hgg => ?_, hb.grown hg hb.size (fun k hk => h.nw k hk)⟩
  · injection hgg with hgg; subst hgg
    simpa using ho
  · injection hgg with hgg; subst hgg
    rcases hor with h1 | h1
    · exact h.nw g' h1
    · have := h.bel.size; omega
end Go.Proofs.YtikhpbidbcfedaaGreat

/- Plain mathematics: a shortest way, its ends, and what is reached. -/
namespace Go.Proofs.YtikhpbidbcfedaaGreat
open Go.RowKit Go.ChangeMaps

section
variable {N : List Int} {nx : Nat → List Nat} (hN : N.Pairwise (· < ·)) (hb : ∀ i, ∀ x ∈ nx i, x < N.length) (hlt : ∀ i, (nx i).Pairwise (· < ·))
include hN hb hlt
omit hN hb hlt in
theorem WayF.fn {L a b : Nat} {p : List Nat} (h : WayF nx L [a] b p) : p.getD 0 0 = a ∧ p.getD (p.length - 1) 0 = b ∧ ∀ i, i < p.length - 1 → p.getD (i + 1) 0 ∈ nx (p.getD i 0) := by
  have hp := h.pos
  refine ⟨?_, by rw [List.getD_eq_getElem?_getD, h.la]; rfl, fun i hi => ?_⟩
  · have e : p[0]? = some (p[0]'hp) := List.getElem?_eq_getElem hp
    have := h.hd _ e
    rw [List.getD_eq_getElem?_getD, e]
    simpa using this
  · have e1 : p[i]? = some (p[i]'(by omega)) := List.getElem?_eq_getElem (by omega)
    have e2 : p[i + 1]? = some (p[i + 1]'(by omega)) := List.getElem?_eq_getElem (by omega)
    rw [List.getD_eq_getElem?_getD, List.getD_eq_getElem?_getD, e1, e2]
    exact h.ed i _ _ e1 e2
end
end Go.Proofs.YtikhpbidbcfedaaGreat

/- tenonlaw14.GraphKept returns true. -/
namespace Go.Proofs.YtikhpbidbcfedaaGreat
open Go.RowKit Go.ChangeMaps

theorem RefsAt.mono3 {w : World} {B B' : Nat} {a : Option Addr} {l : List Int} (h : RefsAt w B a l) (hb : B ≤ B') : RefsAt w B' a l := ⟨h.row.same (fun _ _ => rfl) (fun _ hk => Nat.lt_of_lt_of_le hk hb), h.nil, h.bd⟩
theorem NdE.edges {w : World} {gs : Option Nat} {c : Nat} {l : List (Int × Int)} (h : NdE w gs c l) (hb : ∀ x ∈ l, (0 ≤ x.1 ∧ x.1 < 18446744073709551616) ∧ 0 ≤ x.2 ∧ x.2 < 18446744073709551616) : EdgesAt w w.heap.size (adr gs) l := by
  refine ⟨fun t u hu => ?_, fun _ => ?_, hb⟩
  · cases gs with
    | none => have := (h.1 rfl).1; subst this; simp at hu
    | some g =>
      have := ev_get l t u hu
      exact ⟨g, 0, rfl, (h.2 g rfl).lt, by simpa using (h.2 g rfl).cell this.1, by simpa using (h.2 g rfl).cell this.2⟩
  · cases gs with
    | none => exact .inl rfl
    | some g => exact .inr ⟨g, 0, rfl⟩

end Go.Proofs.YtikhpbidbcfedaaGreat

/- tenonlaw14.GraphOnce: what is asked of its walk, and what comes of it. -/
namespace Go.Proofs.YtikhpbidbcfedaaGreat
open Go.RowKit Go.ChangeMaps

theorem once_math {N : List Int} {E : List (Int × Int)} {l : List Int} {ps : List Nat} {R : List Int} (hp : Sp.pls N l = some ps) (hR : Sp.reach N (Sp.nx N E) l = some R) :
    (wAll (wOne (Sp.on (Sp.nx N E)) (Sp.nx N E) N.length) ps (List.replicate N.length false, ⟨[], [], [], true⟩)).1 = some true ∧ ∃ t u, (wAll (wOne (Sp.on (Sp.nx N E)) (Sp.nx N E) N.length) ps (List.replicate N.length false, ⟨[], [], [], true⟩)).2.2 = ⟨t, u, [], true⟩ ∧ t.length = R.length ∧ u.length = R.length ∧ R.length ≤ N.length ∧ ∀ v ∈ R, v ∈ Sp.rfs N t ∧ v ∈ Sp.rfs N u := by
  obtain ⟨h1, t, u, h2, nd, hlen, hm, hb, hr⟩ := on_end (L := N.length) (nx := Sp.nx N E) (nx_bd N E) (pls_lt hp).1
  have hr2 := fun x => all_rch (nx := Sp.nx N E) (wo := -1) (L := N.length) (src := ps) (nx_lt N E) (nx_bd N E) (pls_lt hp).1 (x := x)
  unfold Sp.reach at hR
  rw [hp] at hR
  simp at hR
  have hmem : ∀ x, x ∈ t ↔ x ∈ Sp.upn N.length (Bf.all (Sp.nx N E) (-1) N.length ps).ord := fun x => by
    rw [upn_mem, hr2, hr]
    exact ⟨fun h => ⟨hb x ((hr x).2 h), h⟩, fun h => h.2⟩
  have hnd2 : (Sp.upn N.length (Bf.all (Sp.nx N E) (-1) N.length ps).ord).Nodup := (upn_pw _ _).imp (by intro a b h; omega)
  have hl : t.length = R.length := by
    rw [← hR]
    have := ((List.perm_ext_iff_of_nodup nd hnd2).2 hmem).length_eq
    simpa [Sp.rfs] using this
  refine ⟨h1, t, u, h2, hl, by omega, by rw [← hl]; exact nd_len nd hb, fun v hv => ?_⟩
  rw [← hR, rfs_mem (fun x hx => (upn_mem.1 hx).1)] at hv
  obtain ⟨i, hi, hiv⟩ := hv
  have hit := (hmem i).2 hi
  exact ⟨(rfs_mem hb).2 ⟨i, hit, hiv⟩, (rfs_mem (fun x hx => hb x ((hm x).2 hx))).2 ⟨i, (hm i).1 hit, hiv⟩⟩
set_option maxRecDepth 100000 in
theorem on_visP {N : List Int} {E : List (Int × Int)} {nx : Nat → List Nat} {a2 : Option Addr} {cap2 be bi bo bp bk B m0 eb : Nat} (hN : N.Pairwise (· < ·)) (hE : ∀ i j x y, N[i]? = some x → N[j]? = some y → ((x, y) ∈ E ↔ j ∈ nx i)) (hl2 : E.length * 16 ≤ 140737488355328) (hB : OnB E a2 be bi bo bp bk m0) (hk : bk < B) (h1 : B ≤ eb) (h2 : eb < m0) :
    VisP On (Sp.on nx) (fun s => s.i.length + s.o.length) N B m0 eb (Sp.onM bi bo bp bk m0) (fun s W => OnI N E a2 cap2 be bi bo bp bk m0 s W) 24 25 #[.pointer (some ⟨bk, 0, none⟩), .pointer (some ⟨bi, 0, none⟩), .pointer (some ⟨bp, 0, none⟩), .pointer (some ⟨be, 0, none⟩)] #[.pointer (some ⟨bk, 0, none⟩), .pointer (some ⟨bp, 0, none⟩), .pointer (some ⟨bo, 0, none⟩)] where
  keep s W W' h hs hh := h.keep hB hs (fun j h3 h4 => hh j h3 (by rcases h4 with h4 | h4 <;> omega))
  enter s j x W hx hz h := (on1_any N nx E a2 cap2 be bi bo bp bk m0 hN hE hl2 hB s j x W hx h hz).mono fun _ _ he => he
  leave s j x W hx hz h := (on2_any N nx E a2 cap2 be bi bo bp bk m0 hN hB s j x W hx h hz).mono fun _ _ he => he
  ecf x W := rfl
  lcf x W := rfl
  sze s j := by simp [Sp.on]; omega
  szl s j := by simp [Sp.on]; omega
  old k o h := by
    have := hB.ord
    rcases h with h | h | h | h | h
    · left; omega
    · left; omega
    · left; omega
    · left; omega
    · exact .inr h
end Go.Proofs.YtikhpbidbcfedaaGreat

