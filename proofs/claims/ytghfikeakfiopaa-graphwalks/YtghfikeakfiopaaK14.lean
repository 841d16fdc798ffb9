/- graph.Walk: what was handed in makes a visitor by Walk's two function literals. -/
import Derived.Test.YtghfikeakfiopaaK13
import Derived.Defers
import Derived.Recover
import Derived.WalkKit
import Derived.WalkSpells
import Derived.WalkLawsBesides
import Derived.Test.YtghfikeakfiopaaK1
import Derived.Test.YtghfikeakfiopaaK11
namespace Go.Proofs.Ytghfikeakfiopaa
open Go.RowKit Go.ChangeMaps

structure VisB (σ : Type) (V : Vr σ) (N : List Int) (B : Nat) (M : Nat → Prop) (I : σ → World → Prop) (F1 F2 : Nat) (c1 c2 : Array Value) : Prop where
  keep : ∀ s (W W' : World), I s W → W.heap.size ≤ W'.heap.size → (∀ k, k < W.heap.size → k < B → W'.heap[k]? = W.heap[k]?) → W'.os = W.os → W'.tape = W.tape → W'.output = W.output → I s W'
  enter : ∀ s j x (W : World), N[j]? = some x → I s W → Calls Try.prog F1 (#[.int .u64 x] ++ c1) W fun e W' => BEnd (V.enter s j).1 e ∧ I (V.enter s j).2 W' ∧ Kw M W W'
  leave : ∀ s j x (W : World), N[j]? = some x → I s W → Calls Try.prog F2 (#[.int .u64 x] ++ c2) W fun e W' => BEnd (V.leave s j).1 e ∧ I (V.leave s j).2 W' ∧ Kw M W W'
  ecf : ∀ (x : Int) (W : World), Sem.run Try.prog (callFunc F1 (#[.int .u64 x] ++ c1)) W = .ok (.enter F1 (#[.int .u64 x] ++ c1)) W
  lcf : ∀ (x : Int) (W : World), Sem.run Try.prog (callFunc F2 (#[.int .u64 x] ++ c2)) W = .ok (.enter F2 (#[.int .u64 x] ++ c2)) W
  old : ∀ k, M k → k < B

def Stb0 (M : Nat → Prop) (eb : Nat) (w : World) (b : Nat) : Prop := b < w.heap.size ∧ ¬ (M b ∨ b = eb)
theorem Kw.cell {M : Nat → Prop} {eb b o : Nat} {w w' : World} (h : Kw (fun k => M k ∨ k = eb) w w') (hb : Stb0 M eb w b) : w'.cell? ⟨b, o, none⟩ = w.cell? ⟨b, o, none⟩ := World.cell?_of_block (h.block b hb.1 hb.2)

theorem VisB.to {σ : Type} {V : Vr σ} {N : List Int} {B : Nat} {M : Nat → Prop} {I : σ → World → Prop} {F1 F2 : Nat} {c1 c2 : Array Value} (h : VisB σ V N B M I F1 F2 c1 c2) (m0 eb : Nat) (hBe : B ≤ eb) (hem : eb < m0) (b6 b7 b4 gb c : Nat) (w0 : World)
    (s6 : Stb0 M eb w0 b6) (s7 : Stb0 M eb w0 b7) (s4 : Stb0 M eb w0 b4) (sg : Stb0 M eb w0 gb)
    (h6 : w0.cell? ⟨b6, 0, none⟩ = some (.func (.func F1) #[] c1)) (h7 : w0.cell? ⟨b7, 0, none⟩ = some (.func (.func F2) #[] c2)) (h4 : w0.cell? ⟨b4, 0, none⟩ = some (.pointer (some ⟨gb, 0, none⟩))) (hx : ∀ j x, N[j]? = some x → ∃ g, Stb0 M eb w0 g ∧ w0.cell? ⟨gb, 0, none⟩ = some (.slice (some ⟨g, 0, none⟩) N.length c) ∧ w0.cell? ⟨g, j, none⟩ = some (.int .u64 x)) :
    VisH σ V N.length m0 eb M (fun s W => I s W ∧ Kw (fun k => M k ∨ k = eb) w0 W) 23 24 #[.pointer (some ⟨b6, 0, none⟩), .pointer (some ⟨b4, 0, none⟩)] #[.pointer (some ⟨b7, 0, none⟩), .pointer (some ⟨b4, 0, none⟩)] := by
  refine ⟨?_, ?_, ?_, ?_, ?_, fun k hk => Nat.lt_of_lt_of_le (h.old k hk) (by omega), hem, fun hk => absurd (h.old eb hk) (by omega)⟩
  · rintro s W W' ⟨hI, hK⟩ hs hb ho ht hp
    exact ⟨h.keep s W W' hI hs (fun k h1 h2 => hb k h1 (by omega)) ho ht hp, hK.trans ⟨ho, ht, hp, hs, fun j h1 h2 => hb j h1 fun h3 => h2 (Or.inr h3)⟩⟩
  · rintro s j W hj ⟨hI, hK⟩
    have hN : N[j]? = some N[j] := List.getElem?_eq_getElem hj
    obtain ⟨g, sr, hg, hx⟩ := hx j _ hN
    have hE := h.enter s j N[j] W.drew hN (h.keep s W _ hI (Nat.le_refl _) (fun _ _ _ => rfl) rfl rfl rfl)
    have := cl1_any F1 c1 b6 b4 gb g N.length c j N[j] (V.enter s j).1 (fun W' => (I (V.enter s j).2 W' ∧ Kw (fun k => M k ∨ k = eb) w0 W') ∧ Kw M W W') W hj (by rw [hK.cell s6]; exact h6) (by rw [hK.cell s4]; exact h4) (by rw [hK.cell sg]; exact hg) (by rw [hK.cell sr]; exact hx) (h.ecf _)
      (hE.mono fun e W' he => ⟨he.1, ⟨he.2.1, hK.trans ((((Kw.refl M W).drew).trans he.2.2).mono fun _ h => Or.inl h)⟩, ((Kw.refl M W).drew).trans he.2.2⟩)
      (fun W' hq => ⟨by rw [hq.1.2.cell s6]; exact h6, by rw [hq.1.2.cell s4]; exact h4, by rw [hq.1.2.cell sg]; exact hg, by rw [hq.1.2.cell sr]; exact hx⟩)
    exact this
  · rintro s j W hj ⟨hI, hK⟩
    have hN : N[j]? = some N[j] := List.getElem?_eq_getElem hj
    obtain ⟨g, sr, hg, hx⟩ := hx j _ hN
    have hE := h.leave s j N[j] W.drew hN (h.keep s W _ hI (Nat.le_refl _) (fun _ _ _ => rfl) rfl rfl rfl)
    have := cl2_any F2 c2 b7 b4 gb g N.length c j N[j] (V.leave s j).1 (fun W' => (I (V.leave s j).2 W' ∧ Kw (fun k => M k ∨ k = eb) w0 W') ∧ Kw M W W') W hj (by rw [hK.cell s7]; exact h7) (by rw [hK.cell s4]; exact h4) (by rw [hK.cell sg]; exact hg) (by rw [hK.cell sr]; exact hx) (h.lcf _)
      (hE.mono fun e W' he => ⟨he.1, ⟨he.2.1, hK.trans ((((Kw.refl M W).drew).trans he.2.2).mono fun _ h => Or.inl h)⟩, ((Kw.refl M W).drew).trans he.2.2⟩)
      (fun W' hq => ⟨by rw [hq.1.2.cell s7]; exact h7, by rw [hq.1.2.cell s4]; exact h4, by rw [hq.1.2.cell sg]; exact hg, by rw [hq.1.2.cell sr]; exact hx⟩)
    exact this
  · intro j W; rfl
  · intro j W; rfl

set_option maxRecDepth 100000 in
set_option maxHeartbeats 1000000 in
theorem wrec_idle (w : World) : CallsD Try.prog 25 #[] .returning w fun e u' w' => e = .returned (.tuple #[]) ∧ u' = .returning ∧ w' = w := by
  refine callsD_of_wpS Try.func25 rfl fun c₀ cs hu => ?_
  first | apply wpS_seq | skip
  apply wpS_region
  simp [wpOpsS, go_sem, recoverD, hu, Try.ntmps25]
  cases c₀
  simp_all [bodyPostS, results, Try.results25]
set_option maxRecDepth 100000 in
set_option maxHeartbeats 1000000 in
theorem wrec_caught (v : Value) (older : List PanicEntry) (w : World) : CallsD Try.prog 25 #[] (.panicking ({ v := v, recovered := false } :: older)) w fun e u' w' => e = .returned (.tuple #[]) ∧ u' = .panicking ({ v := v, recovered := true } :: older) ∧ w' = w := by
  refine callsD_of_wpS Try.func25 rfl fun c₀ cs hu => ?_
  first | apply wpS_seq | skip
  apply wpS_region
  simp [wpOpsS, go_sem, recoverD, hu, Try.ntmps25]
  simp [bodyPostS, results, Try.results25]
end Go.Proofs.Ytghfikeakfiopaa

/- tenonmake.Panics panics, whatever it is called with; an index out of a row of bools. -/
namespace Go.Proofs.Ytghfikeakfiopaa
open Go.RowKit Go.ChangeMaps

theorem bounds_pn {α : Type} (y m : Int) (w : World) : ∃ v w', (boundsPanic (α := α) .i64 y m .index).run Try.prog w = .halt (.panic v) w' ∧ Below w.heap.size w w' := by
  unfold boundsPanic
  simp [runtimePanic, goPanic, go_sem]
  split
  · exact ⟨_, _, rfl, (Below.refl _ _).drew⟩
  · exact ⟨_, _, rfl, Below.refl _ _⟩
theorem idx_oi (w : World) : ∃ v w', Sem.run Try.prog (Instr.indexAt 52 (.slice none 0 0) (.int .i64 3)) w = .halt (.panic v) w' ∧ Below w.heap.size w w' := by
  have e : (Instr.indexAt 52 (.slice none 0 0) (.int .i64 3)).run Try.prog w = (boundsPanic .i64 3 0 .index).run Try.prog w := by
    simp [Instr.indexAt, run_underlying Try.underlying52, asIntOf]
  rw [e]
  exact bounds_pn 3 0 w
theorem idx_ob (a : Option Addr) (n c : Nat) (y : Int) (hy : ¬ (0 ≤ y ∧ y < (n : Int))) (w : World) : ∃ v w', Sem.run Try.prog (Instr.indexAt 24 (.slice a n c) (.int .i64 y)) w = .halt (.panic v) w' ∧ Below w.heap.size w w' := by
  cases a with
  | none =>
    have e : (Instr.indexAt 24 (.slice none n c) (.int .i64 y)).run Try.prog w = (boundsPanic .i64 y 0 .index).run Try.prog w := by
      simp [Instr.indexAt, run_underlying Try.underlying24, asIntOf]
    rw [e]
    exact bounds_pn y 0 w
  | some a =>
    have e : (Instr.indexAt 24 (.slice (some a) n c) (.int .i64 y)).run Try.prog w = (boundsPanic .i64 y n .index).run Try.prog w := by
      simp [Instr.indexAt, run_underlying Try.underlying24, asIntOf, hy]
    rw [e]
    exact bounds_pn y n w
def PanE (e : Ending) : Prop := ∃ v, e = .panicked [{ v := v, recovered := false }]
set_option maxRecDepth 100000 in
set_option maxHeartbeats 1000000 in
theorem New_pn (x : ByteArray) (w : World) : Calls Try.prog 20 #[.string x] w fun e w' => (∃ v, e = .returned (.iface 77 (.pointer (some v)))) ∧ Below w.heap.size w w' := by
  go_enter Try.func20, Try.ntmps20
  go_wp2_with fail
  go_ret
  exact ⟨⟨_, rfl⟩, (Below.refl _ _).alloc (Nat.le_refl _) _⟩
set_option maxRecDepth 100000 in
set_option maxHeartbeats 2000000 in
theorem Pan_1 (b : Nat) (n : Int) (w : World) (hc : w.cell? ⟨b, 0, none⟩ = some (.int .i64 n)) : Calls Try.prog 19 #[.pointer (some ⟨b, 0, none⟩)] w fun e w' => PanE e ∧ Below w.heap.size w w' := by
  obtain ⟨s, w1, hix, hb⟩ := idx_oi w
  have HN := New_pn
  by_cases h0 : n = 0
  · subst h0
    go_enter Try.func19, Try.ntmps19
    go_wp2_with fail
    exact ⟨rfl, ⟨_, rfl⟩, hb⟩
  have e0 : (n == 0) = false := by simpa using h0
  by_cases h1 : n = 1
  · subst h1
    go_enter Try.func19, Try.ntmps19
    go_wp2_with fail
    exact ⟨rfl, ⟨_, rfl⟩, hb⟩
  have e1 : (n == 1) = false := by simpa using h1
  clear hix hb
  by_cases h2 : n = 2
  · subst h2
    go_enter Try.func19, Try.ntmps19
    go_wp2_with fail
    exact ⟨rfl, ⟨_, rfl⟩, Below.refl _ _⟩
  have e2 : (n == 2) = false := by simpa using h2
  by_cases h3 : n = 3
  · subst h3
    go_enter Try.func19, Try.ntmps19
    go_wp2_with (go_at_call 20; refine (HN _ _).mono ?_; rintro e w2 ⟨⟨v, rfl⟩, hb⟩)
    exact ⟨rfl, ⟨_, rfl⟩, hb⟩
  have e3 : (n == 3) = false := by simpa using h3
  by_cases h4 : n = 4
  · subst h4
    go_enter Try.func19, Try.ntmps19
    go_wp2_with fail
    exact ⟨rfl, ⟨_, rfl⟩, Below.refl _ _⟩
  have e4 : (n == 4) = false := by simpa using h4
  go_enter Try.func19, Try.ntmps19
  go_wp2_with fail
  exact ⟨rfl, ⟨_, rfl⟩, Below.refl _ _⟩
set_option maxRecDepth 100000 in
set_option maxHeartbeats 2000000 in
theorem Pan_any (n : Int) (w : World) : Calls Try.prog 7 #[.int .i64 n] w fun e w' => PanE e ∧ Below w.heap.size w w' := by
  have hmf : ∀ (fn : Fn) (first cap : Array Value) (w : World), (Instr.makeFunc fn first cap).run Try.prog w = .ok (.func fn first cap) w := fun _ _ _ _ => rfl
  have HB : Hid (Below w.heap.size w (w.alloc (.cells #[.int .i64 n] 3))) := (Below.refl _ _).alloc (Nat.le_refl _) _
  have HC := Pan_1 w.heap.size n (w.alloc (.cells #[.int .i64 n] 3)) (by simp)
  go_enter Try.func7, Try.ntmps7
  go_wp2_with fail
  refine HC.mono ?_
  rintro e w1 ⟨⟨v, rfl⟩, hb⟩
  exact ⟨rfl, ⟨v, rfl⟩, HB.out.trans (hb.mono (by simp))⟩
end Go.Proofs.Ytghfikeakfiopaa

/- Rows of one's own whose elements have k cells each: append of any source. -/
namespace Go.Proofs.Ytghfikeakfiopaa
open Go.RowKit

structure OwnK (w : World) (e : TypeId) (k g n cap : Nat) (xs : List Value) : Prop where
  len : xs.length = n * k
  blk : ∃ cur : Array Value, w.heap[g]? = some (.cells cur e (0, 0)) ∧ n ≤ cap ∧ cap ≤ maxLen ∧ cur.size = cap * k ∧ xs = cur.toList.take (n * k)
theorem OwnK.lt {w : World} {e : TypeId} {k g n cap : Nat} {xs : List Value} (h : OwnK w e k g n cap xs) : g < w.heap.size := by
  obtain ⟨cur, h1, _⟩ := h.blk
  exact (Array.getElem?_eq_some_iff.1 h1).1
theorem OwnK.cell {w : World} {e : TypeId} {k g n cap : Nat} {xs : List Value} (h : OwnK w e k g n cap xs) {t : Nat} {x : Value} (ht : xs[t]? = some x) : w.cell? ⟨g, t, none⟩ = some x := by
  obtain ⟨cur, h1, h2, h3, h4, h5⟩ := h.blk
  rw [h5, List.getElem?_take] at ht
  split at ht
  · simpa [World.cell?, h1] using ht
  · cases ht
theorem OwnK.free {w : World} {e : TypeId} {k g n cap : Nat} {xs : List Value} (h : OwnK w e k g n cap xs) (t : Nat) : w.frozen? ⟨g, t, none⟩ = false := by
  obtain ⟨cur, h1, _⟩ := h.blk
  simp [World.frozen?, h1]
theorem OwnK.keep {w w' : World} {e : TypeId} {k g n cap : Nat} {xs : List Value} (h : OwnK w e k g n cap xs) (hb : w'.heap[g]? = w.heap[g]?) : OwnK w' e k g n cap xs := by
  obtain ⟨cur, h1, h2⟩ := h.blk
  exact ⟨h.len, cur, hb.trans h1, h2⟩
theorem run_appK {P : Program} (w : World) (t tx ty e : TypeId) (i : TypeInfo) (z : Value) (k bytes : Nat) (ht : P.underlying t = some (.slice e)) (hi : P.info? e = some i) (hz : i.zero = some z)
    (hsize : i.size = k) (hby : i.bytes = bytes) (hzs : z.cells.size = k) (g n cap : Nat) (xs : List Value) (hown : OwnK w e k g n cap xs)
    (x : Value) (m : Nat) (news : List Value) (hs : Src P k tx x m news w) (hbytes : ((n + m) + (n + m) / 4 + 192) * bytes ≤ 281474976710656) (hb1 : 1 ≤ bytes) :
    ∃ g' cap' w', (Builtin.append_ #[t, tx] ty #[.slice (some ⟨g, 0, none⟩) n cap, x]).run P w = .ok (.slice (some ⟨g', 0, none⟩) (n + m) cap') w' ∧ OwnK w' e k g' (n + m) cap' (xs ++ news) ∧ w.grownBy w' (some g) ∧ (g' = g ∨ g' = w.heap.size) := by
  have hnm : n + m ≤ 281474976710656 := by
    have : (n + m) * 1 ≤ ((n + m) + (n + m) / 4 + 192) * bytes := Nat.mul_le_mul (by omega) hb1
    omega
  have h63 : n + m ≤ maxLen := by simp only [maxLen]; omega
  subst hby
  have hnl : news.length = m * k := hs.newsLen
  have hl : (xs ++ news).length = (n + m) * k := by rw [List.length_append, hown.len, hnl, Nat.add_mul]
  have hmul : (n + m) * k = n * k + m * k := Nat.add_mul _ _ _
  obtain ⟨cur, hg, hnc, hcm, hcs, htake⟩ := hown.blk
  by_cases hroom : n + m ≤ cap
  · have hck : (n + m) * k ≤ cap * k := Nat.mul_le_mul_right k hroom
    have hst := run_storeCells_at P g (n * k) e news 0 cur w hg (by omega) hs.one
    simp only [Nat.add_zero] at hst
    have hr : (Builtin.append_ #[t, tx] ty #[.slice (some ⟨g, 0, none⟩) n cap, x]).run P w = .ok (.slice (some ⟨g, 0, none⟩) (n + m) cap) (w.setRow g (cur.toList.take (n * k) ++ news ++ cur.toList.drop (n * k + news.length)).toArray) := by
      rcases hs.kind with ⟨e', hk⟩ | hk <;> simp [Builtin.append_, run_underlying ht, run_underlying hk, sizeOf, typeInfo, hi, hsize, hs.len, hroom, hs.cells, addN, hst]
    refine ⟨g, cap, _, hr, ⟨hl, _, setRow_heap w g cur _ e _ hg, hroom, hcm, ?_, ?_⟩, ⟨rfl, rfl, rfl, by simp, fun j _ hj => setRow_other w g j _ (fun e => hj (by rw [e]))⟩, .inl rfl⟩
    · simp only [List.size_toArray, List.length_append, List.length_take, List.length_drop, Array.length_toList]
      omega
    · have e : cur.toList.take (n * k) ++ news ++ cur.toList.drop (n * k + news.length) = (xs ++ news) ++ cur.toList.drop (n * k + news.length) := by rw [htake]
      rw [e, ← hl]; exact List.take_left.symm
  · have holds : ∀ j u, xs[j]? = some u → w.cell? ((⟨g, 0, none⟩ : Addr).add j) = some u := fun j u hj => by rw [addN, Nat.zero_add]; exact hown.cell hj
    have hold : (Builtin.firstCells i.size n (.slice (some ⟨g, 0, none⟩) n cap)).run P w.drew = .ok xs.toArray w.drew := run_firstCells_some w.drew i.size n ⟨g, 0, none⟩ n cap xs (by rw [hsize]; exact hown.len) (by simpa using holds)
    have hr := run_append_grow_src (P := P) w t tx ty e i z ht hi hz (some ⟨g, 0, none⟩) n cap xs hold x m news (by rw [hsize]; exact hs) (by omega) (by simp only [maxLen] at h63; omega) (growslice_fits_wide (by omega) hbytes)
    have hge := grownCap_ge w (n + m) cap e
    have hcm' : grownCap w (n + m) cap e ≤ maxLen := grownCap_le_maxLen w (n + m) cap e h63
    refine ⟨w.heap.size, _, _, hr, ⟨hl, _, heap_alloc_new w.drew _, hge, hcm', ?_, ?_⟩, ⟨rfl, rfl, rfl, by simp, fun j hj _ => heap_alloc_old w.drew _ hj⟩, .inr rfl⟩
    · have hgk := Nat.mul_le_mul_right k hge
      simp only [Array.size_append, List.size_toArray, size_zeroCells, hzs, hl, Nat.sub_mul]
      omega
    · simp only [Array.toList_append]
      rw [← hl]
      exact List.take_left.symm
end Go.Proofs.Ytghfikeakfiopaa

/- tenonref14: the row of calls grows by one. -/
namespace Go.Proofs.Ytghfikeakfiopaa
open Go.RowKit

theorem Try.infoCa : (Try.prog.info? 38).map (fun i => (i.zero, i.size, i.bytes)) = some (some (.agg #[.int .u64 0, .bool false]), 2, 16) := by kernel_rfl
theorem Try.undCa : Try.prog.underlying 30 = some (.slice 38) := by kernel_rfl
def cv : List (Int × Bool) → List Value
  | [] => []
  | p :: l => .int .u64 p.1 :: .bool p.2 :: cv l
theorem cv_app : ∀ (l : List (Int × Bool)) (p : Int × Bool), cv (l ++ [p]) = cv l ++ [.int .u64 p.1, .bool p.2]
  | [], _ => rfl
  | q :: l, p => by simp [cv, cv_app l p]
def NdC (w : World) (gs : Option Nat) (c : Nat) (l : List (Int × Bool)) : Prop := (gs = none → l = [] ∧ c = 0) ∧ ∀ g, gs = some g → OwnK w 38 2 g l.length c (cv l)
theorem NdC.keep {w w' : World} {gs : Option Nat} {c : Nat} {l : List (Int × Bool)} (h : NdC w gs c l) (hb : ∀ g, gs = some g → w'.heap[g]? = w.heap[g]?) : NdC w' gs c l := ⟨h.1, fun g hg => (h.2 g hg).keep (hb g hg)⟩
theorem cell_two_new (w : World) (e : TypeId) (a b : Value) : ∀ j u, [a, b][j]? = some u → (w.alloc (.cells #[a, b] e)).cell? ((⟨w.heap.size, 0, none⟩ : Addr).add j) = some u := by
  intro j u h
  rw [addN, Nat.zero_add]
  have := heap_alloc_new w (.cells #[a, b] e)
  simp only [World.cell?, this]
  simpa using h
theorem appC (gs : Option Nat) (c : Nat) (l : List (Int × Bool)) (w : World) (h : NdC w gs c l) (x : Int) (b : Bool) (hl : l.length * 8 ≤ 140737488355328 / 4) (ty : TypeId) :
    ∃ g' c' w', (Builtin.append_ #[30, 30] ty #[.slice (adr gs) l.length c, .slice (some ⟨w.heap.size, 0, none⟩) 1 1]).run Try.prog (w.alloc (.cells #[.int .u64 x, .bool b] 38)) = .ok (.slice (some ⟨g', 0, none⟩) (l.length + 1) c') w' ∧
      OwnK w' 38 2 g' (l.length + 1) c' (cv (l ++ [(x, b)])) ∧ (w.alloc (.cells #[.int .u64 x, .bool b] 38)).grownBy w' gs ∧ (gs = some g' ∨ w.heap.size < g') := by
  obtain ⟨i0, hi, hz0, hz1, hz2⟩ := info_parts Try.infoCa
  have hlx := cell_two_new w 38 (.int .u64 x) (.bool b)
  rw [cv_app]
  cases gs with
  | some g =>
    have ho := (h.2 g rfl).keep (Below.heap_alloc w (.cells #[.int .u64 x, .bool b] 38) g (h.2 g rfl).lt)
    obtain ⟨g', c', w', h1, h2, h3, h4⟩ := run_appK (P := Try.prog) (w.alloc (.cells #[.int .u64 x, .bool b] 38)) 30 30 ty 38 i0 (.agg #[.int .u64 0, .bool false]) 2 16 Try.undCa hi hz0 hz1 hz2 rfl g l.length c (cv l) ho _ 1 [.int .u64 x, .bool b] (Src.ofSlice _ Try.undCa ⟨w.heap.size, 0, none⟩ 1 1 [.int .u64 x, .bool b] rfl hlx (fun u hu => by simp at hu; rcases hu with rfl | rfl <;> rfl)) (by omega) (by decide)
    exact ⟨g', c', w', h1, h2, h3, h4.imp (fun e => by rw [e]) (fun e => by rw [e, al_size]; omega)⟩
  | none =>
    obtain ⟨rfl, rfl⟩ := h.1 rfl
    have hr := run_append_nil (P := Try.prog) (w.alloc (.cells #[.int .u64 x, .bool b] 38)) 30 ty 38 i0 (.agg #[.int .u64 0, .bool false]) Try.undCa hi hz0 ⟨w.heap.size, 0, none⟩ 1 1 [.int .u64 x, .bool b] (by rw [hz1]; rfl) hlx (by decide) (by decide) (by rw [hz2]; decide)
    have hge := grownCap_ge (w.alloc (.cells #[.int .u64 x, .bool b] 38)) 1 0 38
    have hcm := grownCap_le_maxLen (w.alloc (.cells #[.int .u64 x, .bool b] 38)) 1 0 38 (by simp [maxLen])
    refine ⟨_, _, _, hr, ⟨by simp [cv], _, heap_alloc_new _ _, by simpa using hge, hcm, ?_, ?_⟩, ⟨rfl, rfl, rfl, by simp, fun k hk _ => heap_alloc_old (w.alloc (.cells #[.int .u64 x, .bool b] 38)).drew _ hk⟩, .inr (by rw [al_size]; omega)⟩
    · simp only [Array.size_append, List.size_toArray, size_zeroCells, List.length_cons, List.length_nil]
      have : (Value.agg #[.int .u64 0, .bool false]).cells.size = 2 := rfl
      rw [this]; omega
    · simp [cv]
end Go.Proofs.Ytghfikeakfiopaa

