/- tenonlaw01.spoil: whatever a term's lists hold is written over, and nothing else. -/
import Derived.Test.YtdklpdclbedceaaBackV
import Derived.Test.YtdklpdclbedceaaSpG
namespace Go.Proofs.Ytdklpdclbedceaa
open Go.RowKit

/-- what may stand in a cell in the place of x: the same, or something plain of its kind -/
def Dv (x y : Value) : Prop := y = x ∨ (∃ k a b, x = .int k a ∧ y = .int k b ∧ (k = .u8 → 0 ≤ b ∧ b ≤ 255)) ∨ (∃ a b, x = .bool a ∧ y = .bool b) ∨ (∃ k a b, x = .float k a ∧ y = .float k b) ∨ (∃ a b, x = .string a ∧ y = .string b) ∨ (∃ a n c, x = .slice a n c ∧ y = .slice none 0 0)
/-- w' is w, but that cells in the blocks of B may have been written over, cell by cell -/
structure Dc (B : Nat → Prop) (w w' : World) : Prop where
  os : w'.os = w.os
  tape : w'.tape = w.tape
  output : w'.output = w.output
  size : w.heap.size ≤ w'.heap.size
  far : ∀ k, k < w.heap.size → ¬ B k → w'.heap[k]? = w.heap[k]?
  cell : ∀ k, B k → ∀ j x, w.cell? ⟨k, j, none⟩ = some x → ∃ y, w'.cell? ⟨k, j, none⟩ = some y ∧ Dv x y
  soft : ∀ k, B k → Soft w k → Soft w' k
theorem Dv.trans {x y z : Value} (h : Dv x y) (k : Dv y z) : Dv x z := by
  rcases h with rfl | ⟨K, a, b, rfl, rfl, h⟩ | ⟨a, b, rfl, rfl⟩ | ⟨K, a, b, rfl, rfl⟩ | ⟨a, b, rfl, rfl⟩ | ⟨a, n, c, rfl, rfl⟩
  · exact k
  · rcases k with rfl | ⟨K', a', b', e, rfl, h'⟩ | ⟨a', b', e, rfl⟩ | ⟨K', a', b', e, rfl⟩ | ⟨a', b', e, rfl⟩ | ⟨a', n', c', e, rfl⟩
    · exact .inr (.inl ⟨K, a, b, rfl, rfl, h⟩)
    · injection e with e1 e2; subst e1; exact .inr (.inl ⟨_, a, b', rfl, rfl, h'⟩)
    all_goals exact absurd e (by simp)
  · rcases k with rfl | ⟨K', a', b', e, rfl, h'⟩ | ⟨a', b', e, rfl⟩ | ⟨K', a', b', e, rfl⟩ | ⟨a', b', e, rfl⟩ | ⟨a', n', c', e, rfl⟩
    · exact .inr (.inr (.inl ⟨a, b, rfl, rfl⟩))
    · exact absurd e (by simp)
    · exact .inr (.inr (.inl ⟨a, b', rfl, rfl⟩))
    all_goals exact absurd e (by simp)
  · rcases k with rfl | ⟨K', a', b', e, rfl, h'⟩ | ⟨a', b', e, rfl⟩ | ⟨K', a', b', e, rfl⟩ | ⟨a', b', e, rfl⟩ | ⟨a', n', c', e, rfl⟩
    · exact .inr (.inr (.inr (.inl ⟨K, a, b, rfl, rfl⟩)))
    · exact absurd e (by simp)
    · exact absurd e (by simp)
    · injection e with e1 e2; subst e1; exact .inr (.inr (.inr (.inl ⟨_, a, b', rfl, rfl⟩)))
    all_goals exact absurd e (by simp)
  · rcases k with rfl | ⟨K', a', b', e, rfl, h'⟩ | ⟨a', b', e, rfl⟩ | ⟨K', a', b', e, rfl⟩ | ⟨a', b', e, rfl⟩ | ⟨a', n', c', e, rfl⟩
    · exact .inr (.inr (.inr (.inr (.inl ⟨a, b, rfl, rfl⟩))))
    · exact absurd e (by simp)
    · exact absurd e (by simp)
    · exact absurd e (by simp)
    · exact .inr (.inr (.inr (.inr (.inl ⟨a, b', rfl, rfl⟩))))
    · exact absurd e (by simp)
  · rcases k with rfl | ⟨K', a', b', e, rfl, h'⟩ | ⟨a', b', e, rfl⟩ | ⟨K', a', b', e, rfl⟩ | ⟨a', b', e, rfl⟩ | ⟨a', n', c', e, rfl⟩
    · exact .inr (.inr (.inr (.inr (.inr ⟨a, n, c, rfl, rfl⟩))))
    · exact absurd e (by simp)
    · exact absurd e (by simp)
    · exact absurd e (by simp)
    · exact absurd e (by simp)
    · exact .inr (.inr (.inr (.inr (.inr ⟨a, n, c, rfl, rfl⟩))))
theorem Dc.refl (B : Nat → Prop) (w : World) : Dc B w w := ⟨rfl, rfl, rfl, Nat.le_refl _, fun _ _ _ => rfl, fun _ _ _ x h => ⟨x, h, .inl rfl⟩, fun _ _ h => h⟩
theorem Dc.trans {B : Nat → Prop} {a b c : World} (h : Dc B a b) (k : Dc B b c) : Dc B a c :=
  ⟨k.os.trans h.os, k.tape.trans h.tape, k.output.trans h.output, Nat.le_trans h.size k.size, fun i hi hn => (k.far i (Nat.lt_of_lt_of_le hi h.size) hn).trans (h.far i hi hn),
    fun i hi j x hx => by
      obtain ⟨y, hy, d1⟩ := h.cell i hi j x hx
      obtain ⟨z, hz, d2⟩ := k.cell i hi j y hy
      exact ⟨z, hz, d1.trans d2⟩,
    fun i hi hs => k.soft i hi (h.soft i hi hs)⟩
theorem Dc.of_below {B : Nat → Prop} {w w' : World} (h : Below w.heap.size w w') (hB : Sub B w) : Dc B w w' :=
  ⟨h.os, h.tape, h.output, h.size, fun k hk _ => h.block k hk, fun k hk j x hx => ⟨x, by rw [h.cell (p := ⟨k, j, none⟩) (hB k hk)]; exact hx, .inl rfl⟩, fun k hk hs => hs.same (h.block k (hB k hk))⟩
theorem Dc.sub {B : Nat → Prop} {w w' : World} (h : Dc B w w') (hB : Sub B w) : Sub B w' := fun k hk => Nat.lt_of_lt_of_le (hB k hk) h.size
theorem Dc.set {B : Nat → Prop} {w : World} {g j : Nat} {x v : Value} (hg : B g) (h : w.cell? ⟨g, j, none⟩ = some x) (hd : Dv x v) : Dc B w (w.setCell ⟨g, j, none⟩ v) := by
  refine ⟨rfl, rfl, rfl, by simp, fun k hk hn => Below.heap_setCell w ⟨g, j, none⟩ v k (fun e => hn (by rw [e]; exact hg)), fun k hk i y hy => ?_, fun k hk hs i => by simpa using hs i⟩
  by_cases e : (⟨g, j, none⟩ : Addr) = ⟨k, i, none⟩
  · simp only [Addr.mk.injEq, and_true] at e
    obtain ⟨rfl, rfl⟩ := e
    rw [h] at hy; injection hy with hy; subst hy
    exact ⟨v, sc_eq h, hd⟩
  · exact ⟨y, by rw [sc_ne e]; exact hy, .inl rfl⟩
/-- many cells side by side written over -/
theorem Dc.setN {B : Nat → Prop} {g : Nat} (hg : B g) : ∀ (vs : List Value) (w : World) (o : Nat), (∀ i v, vs[i]? = some v → ∃ x, w.cell? ⟨g, o + i, none⟩ = some x ∧ Dv x v) → Dc B w (Go.Proofs.Ytdklpdclbedceaa.setN w g o vs)
  | [], w, o, _ => Dc.refl B w
  | v :: vs, w, o, h => by
    obtain ⟨x, hx, hd⟩ := h 0 v rfl
    refine (Dc.set hg hx hd).trans (Dc.setN hg vs _ (o + 1) fun i u hu => ?_)
    obtain ⟨y, hy, hd'⟩ := h (i + 1) u hu
    refine ⟨y, ?_, hd'⟩
    rw [sc_ne (by simp <;> omega), show o + 1 + i = o + (i + 1) by omega]; exact hy

/-- eleven cells, each the same or something plain of its kind -/
def Dcs (es es' : Array Value) : Prop := ∀ x, x < 11 → ∃ a b, es[x]? = some a ∧ es'[x]? = some b ∧ Dv a b
/-- a term whose lists can be written over; P is what is asked of the terms within -/
def WtS (w : World) (B : Nat → Prop) (P : Array Value → Prop) (cs : Array Value) : Prop := ∃ k b i f tx ab nb cb rf al nl cl af nf cf c vr, cs = tcells k b i f tx (.slice ab nb cb) rf (.slice al nl cl) (.slice af nf cf) c vr ∧ nb ≤ 140737488355328 ∧ nl ≤ 140737488355328 ∧ nf ≤ 140737488355328 ∧
  (∀ j, j < nb → ∃ g o x, ab = some ⟨g, o, none⟩ ∧ B g ∧ w.cell? ⟨g, o + j, none⟩ = some (.int .u8 x) ∧ 0 ≤ x ∧ x ≤ 255) ∧
  (∀ j, j < nl → ∃ g o es, al = some ⟨g, o, none⟩ ∧ B g ∧ (∀ x, x < 11 → w.cell? ⟨g, o + j * 11 + x, none⟩ = es[x]?) ∧ P es) ∧
  (∀ j, j < nf → ∃ g o s es, af = some ⟨g, o, none⟩ ∧ B g ∧ w.cell? ⟨g, o + j * 12, none⟩ = some (.string s) ∧ (∀ x, x < 11 → w.cell? ⟨g, o + j * 12 + 1 + x, none⟩ = es[x]?) ∧ P es)
def Wt (w : World) (B : Nat → Prop) : Nat → Array Value → Prop
  | 0, cs => WtS w B (fun _ => False) cs
  | n + 1, cs => WtS w B (Wt w B n) cs
theorem dv_int {k : IntKind} {a : Int} {y : Value} (h : Dv (.int k a) y) : ∃ b, y = .int k b ∧ (k = .u8 → b = a ∨ (0 ≤ b ∧ b ≤ 255)) := by
  rcases h with rfl | ⟨K, a', b, e, rfl, h⟩ | ⟨a', b, e, rfl⟩ | ⟨K, a', b, e, rfl⟩ | ⟨a', b, e, rfl⟩ | ⟨a', n, c, e, rfl⟩
  · exact ⟨a, rfl, fun _ => .inl rfl⟩
  · injection e with e1 e2; subst e1; exact ⟨b, rfl, fun hk => .inr (h hk)⟩
  all_goals exact absurd e (by simp)
theorem dv_bool {a : Bool} {y : Value} (h : Dv (.bool a) y) : ∃ b, y = .bool b := by
  rcases h with rfl | ⟨K, a', b, e, rfl, h⟩ | ⟨a', b, e, rfl⟩ | ⟨K, a', b, e, rfl⟩ | ⟨a', b, e, rfl⟩ | ⟨a', n, c, e, rfl⟩
  · exact ⟨a, rfl⟩
  · exact absurd e (by simp)
  · exact ⟨b, rfl⟩
  all_goals exact absurd e (by simp)
theorem dv_float {k : FloatKind} {a : Nat} {y : Value} (h : Dv (.float k a) y) : ∃ b, y = .float k b := by
  rcases h with rfl | ⟨K, a', b, e, rfl, h⟩ | ⟨a', b, e, rfl⟩ | ⟨K, a', b, e, rfl⟩ | ⟨a', b, e, rfl⟩ | ⟨a', n, c, e, rfl⟩
  · exact ⟨a, rfl⟩
  · exact absurd e (by simp)
  · exact absurd e (by simp)
  · injection e with e1 e2; subst e1; exact ⟨b, rfl⟩
  all_goals exact absurd e (by simp)
theorem dv_string {a : ByteArray} {y : Value} (h : Dv (.string a) y) : ∃ b, y = .string b := by
  rcases h with rfl | ⟨K, a', b, e, rfl, h⟩ | ⟨a', b, e, rfl⟩ | ⟨K, a', b, e, rfl⟩ | ⟨a', b, e, rfl⟩ | ⟨a', n, c, e, rfl⟩
  · exact ⟨a, rfl⟩
  · exact absurd e (by simp)
  · exact absurd e (by simp)
  · exact absurd e (by simp)
  · exact ⟨b, rfl⟩
  · exact absurd e (by simp)
theorem dv_slice {a : Option Addr} {n c : Nat} {y : Value} (h : Dv (.slice a n c) y) : y = .slice a n c ∨ y = .slice none 0 0 := by
  rcases h with rfl | ⟨K, a', b, e, rfl, h⟩ | ⟨a', b, e, rfl⟩ | ⟨K, a', b, e, rfl⟩ | ⟨a', b, e, rfl⟩ | ⟨a', n, c, e, rfl⟩
  · exact .inl rfl
  · exact absurd e (by simp)
  · exact absurd e (by simp)
  · exact absurd e (by simp)
  · exact absurd e (by simp)
  · exact .inr rfl
theorem cells11 {w : World} {g o : Nat} (h : ∀ x, x < 11 → ∃ b, w.cell? ⟨g, o + x, none⟩ = some b) : ∃ es : Array Value, es.size = 11 ∧ ∀ x, x < 11 → w.cell? ⟨g, o + x, none⟩ = es[x]? :=
  ⟨Array.ofFn (n := 11) (fun x => (w.cell? ⟨g, o + x.1, none⟩).getD .nilIface), by simp, fun x hx => by obtain ⟨b, hb⟩ := h x hx; simp [hb, hx]⟩
theorem cells_dc {w w' : World} {B : Nat → Prop} (hd : Dc B w w') {g o : Nat} (hg : B g) {es : Array Value} (hs : es.size = 11) (h : ∀ x, x < 11 → w.cell? ⟨g, o + x, none⟩ = es[x]?) : ∃ es' : Array Value, es'.size = 11 ∧ (∀ x, x < 11 → w'.cell? ⟨g, o + x, none⟩ = es'[x]?) ∧ Dcs es es' := by
  have key : ∀ x, x < 11 → ∃ a b, es[x]? = some a ∧ w'.cell? ⟨g, o + x, none⟩ = some b ∧ Dv a b := fun x hx => by
    have e : es[x]? = some (es[x]'(by omega)) := by simp [hs, hx]
    obtain ⟨y, hy, hv⟩ := hd.cell g hg (o + x) _ ((h x hx).trans e)
    exact ⟨_, y, e, hy, hv⟩
  obtain ⟨es', h1, h2⟩ := cells11 (w := w') (g := g) (o := o) (fun x hx => by obtain ⟨_, b, _, hb, _⟩ := key x hx; exact ⟨b, hb⟩)
  refine ⟨es', h1, h2, fun x hx => ?_⟩
  obtain ⟨a, b, e1, e2, e3⟩ := key x hx
  exact ⟨a, b, e1, by rw [← h2 x hx]; exact e2, e3⟩
theorem WtS.dc {w w' : World} {B : Nat → Prop} {P P' : Array Value → Prop} (hd : Dc B w w') (hS : ∀ es, P es → es.size = 11) (hP : ∀ es es', es'.size = 11 → P es → Dcs es es' → P' es') (cs cs' : Array Value) (hz : cs'.size = 11) (h : WtS w B P cs) (hc : Dcs cs cs') : WtS w' B P' cs' := by
  obtain ⟨k, b, i, f, tx, ab, nb, cb, rf, al, nl, cl, af, nf, cf, c, vr, rfl, h1, h2, h3, h4, h5, h6⟩ := h
  have hx : ∀ x (hx : x < 11) a, (tcells k b i f tx (.slice ab nb cb) rf (.slice al nl cl) (.slice af nf cf) c vr)[x]? = some a → Dv a (cs'[x]'(by omega)) := fun x hx a ha => by
    obtain ⟨a', b', e1, e2, e3⟩ := hc x hx
    rw [e1] at ha; injection ha with ha; subst ha
    have : cs'[x]? = some (cs'[x]'(by omega)) := by simp [hz, hx]
    rw [this] at e2; injection e2 with e2; rw [e2]; exact e3
  obtain ⟨k', e0, _⟩ := dv_int (hx 0 (by decide) _ rfl)
  obtain ⟨b', e1⟩ := dv_bool (hx 1 (by decide) _ rfl)
  obtain ⟨i', e2, _⟩ := dv_int (hx 2 (by decide) _ rfl)
  obtain ⟨f', e3⟩ := dv_float (hx 3 (by decide) _ rfl)
  obtain ⟨t', e4⟩ := dv_string (hx 4 (by decide) _ rfl)
  have e5 := dv_slice (hx 5 (by decide) _ rfl)
  obtain ⟨r', e6, _⟩ := dv_int (hx 6 (by decide) _ rfl)
  have e7 := dv_slice (hx 7 (by decide) _ rfl)
  have e8 := dv_slice (hx 8 (by decide) _ rfl)
  obtain ⟨c', e9⟩ := dv_string (hx 9 (by decide) _ rfl)
  obtain ⟨v', e10, _⟩ := dv_int (hx 10 (by decide) _ rfl)
  have hq5 : ∃ ab' nb' cb', cs'[5]'(by omega) = .slice ab' nb' cb' ∧ ((ab' = ab ∧ nb' = nb) ∨ nb' = 0) := by
    rcases e5 with e | e
    · exact ⟨_, _, _, e, .inl ⟨rfl, rfl⟩⟩
    · exact ⟨_, _, _, e, .inr rfl⟩
  have hq7 : ∃ ab' nb' cb', cs'[7]'(by omega) = .slice ab' nb' cb' ∧ ((ab' = al ∧ nb' = nl) ∨ nb' = 0) := by
    rcases e7 with e | e
    · exact ⟨_, _, _, e, .inl ⟨rfl, rfl⟩⟩
    · exact ⟨_, _, _, e, .inr rfl⟩
  have hq8 : ∃ ab' nb' cb', cs'[8]'(by omega) = .slice ab' nb' cb' ∧ ((ab' = af ∧ nb' = nf) ∨ nb' = 0) := by
    rcases e8 with e | e
    · exact ⟨_, _, _, e, .inl ⟨rfl, rfl⟩⟩
    · exact ⟨_, _, _, e, .inr rfl⟩
  obtain ⟨ab', nb', cb', q5, r5⟩ := hq5
  obtain ⟨al', nl', cl', q7, r7⟩ := hq7
  obtain ⟨af', nf', cf', q8, r8⟩ := hq8
  refine ⟨k', b', i', f', t', ab', nb', cb', r', al', nl', cl', af', nf', cf', c', v', ?_, by omega, by omega, by omega, fun j hj => ?_, fun j hj => ?_, fun j hj => ?_⟩
  · apply Array.ext
    · rw [hz]; rfl
    · intro x h1 h2
      have : x = 0 ∨ x = 1 ∨ x = 2 ∨ x = 3 ∨ x = 4 ∨ x = 5 ∨ x = 6 ∨ x = 7 ∨ x = 8 ∨ x = 9 ∨ x = 10 := by omega
      rcases this with rfl | rfl | rfl | rfl | rfl | rfl | rfl | rfl | rfl | rfl | rfl
      · exact e0
      · exact e1
      · exact e2
      · exact e3
      · exact e4
      · exact q5
      · exact e6
      · exact q7
      · exact q8
      · exact e9
      · exact e10
  · rcases r5 with ⟨rfl, rfl⟩ | r5
    · obtain ⟨g, o, x, p1, p2, p3, p4⟩ := h4 j hj
      obtain ⟨y, hy, hd'⟩ := hd.cell g p2 _ _ p3
      obtain ⟨b', rfl, hb⟩ := dv_int hd'
      exact ⟨g, o, b', p1, p2, hy, by rcases hb rfl with hb | hb <;> omega, by rcases hb rfl with hb | hb <;> omega⟩
    · omega
  · rcases r7 with ⟨rfl, rfl⟩ | r7
    · obtain ⟨g, o, es, p1, p2, p3, p4⟩ := h5 j hj
      obtain ⟨es', s1, s2, s3⟩ := cells_dc hd p2 (hS _ p4) p3
      exact ⟨g, o, es', p1, p2, s2, hP _ _ s1 p4 s3⟩
    · omega
  · rcases r8 with ⟨rfl, rfl⟩ | r8
    · obtain ⟨g, o, s, es, p1, p2, p3, p4, p5⟩ := h6 j hj
      obtain ⟨es', s1, s2, s3⟩ := cells_dc hd p2 (hS _ p5) p4
      obtain ⟨y, hy, hv⟩ := hd.cell g p2 _ _ p3
      obtain ⟨s', rfl⟩ := dv_string hv
      exact ⟨g, o, s', es', p1, p2, hy, s2, hP _ _ s1 p5 s3⟩
    · omega
theorem WtS.size {w : World} {B : Nat → Prop} {P : Array Value → Prop} {cs : Array Value} (h : WtS w B P cs) : cs.size = 11 := by
  obtain ⟨k, b, i, f, tx, ab, nb, cb, rf, al, nl, cl, af, nf, cf, c, vr, rfl, _⟩ := h; rfl
theorem Wt.size {w : World} {B : Nat → Prop} : ∀ {n : Nat} {cs : Array Value}, Wt w B n cs → cs.size = 11
  | 0, _, h => WtS.size h
  | _ + 1, _, h => WtS.size h
theorem Wt.dc {w w' : World} {B : Nat → Prop} (hd : Dc B w w') : ∀ n cs cs', cs'.size = 11 → Wt w B n cs → Dcs cs cs' → Wt w' B n cs'
  | 0, cs, cs', hz, h, hc => WtS.dc hd (fun _ h => h.elim) (fun _ _ _ h _ => h.elim) cs cs' hz h hc
  | n + 1, cs, cs', hz, h, hc => WtS.dc hd (fun _ h => h.size) (fun es es' hz' h' hc' => Wt.dc hd n es es' hz' h' hc') cs cs' hz h hc
theorem Dcs.refl {cs : Array Value} (h : cs.size = 11) : Dcs cs cs := fun x hx => ⟨cs[x]'(by omega), cs[x]'(by omega), by simp [h, hx], by simp [h, hx], .inl rfl⟩
theorem Wt.up {w : World} {B : Nat → Prop} : ∀ n m cs, n ≤ m → Wt w B n cs → Wt w B m cs
  | 0, 0, _, _, h => h
  | 0, m + 1, cs, _, h => WtS.dc (Dc.refl B w) (fun _ h => h.elim) (fun _ _ _ h _ => h.elim) cs cs h.size h (Dcs.refl h.size)
  | n + 1, 0, _, h, _ => by omega
  | n + 1, m + 1, cs, hm, h => by
    obtain ⟨k, b, i, f, tx, ab, nb, cb, rf, al, nl, cl, af, nf, cf, c, vr, rfl, h1, h2, h3, h4, h5, h6⟩ := h
    refine ⟨k, b, i, f, tx, ab, nb, cb, rf, al, nl, cl, af, nf, cf, c, vr, rfl, h1, h2, h3, h4, fun j hj => ?_, fun j hj => ?_⟩
    · obtain ⟨g, o, es, p1, p2, p3, p4⟩ := h5 j hj
      exact ⟨g, o, es, p1, p2, p3, Wt.up n m es (by omega) p4⟩
    · obtain ⟨g, o, s, es, p1, p2, p3, p4, p5⟩ := h6 j hj
      exact ⟨g, o, s, es, p1, p2, p3, p4, Wt.up n m es (by omega) p5⟩
mutual
theorem Tm.wt {w : World} {B : Nat → Prop} : (t : Tm) → ∀ cs, t.In w B cs → Wt w B t.sz cs
  | .mk k b i f tx by' rf l fs c vr, cs, h => by
    simp only [Tm.In] at h
    obtain ⟨ab, cb, al, cl, af, cf, rfl, hbd, hby, hl, hf⟩ := h
    simp only [Tm.sz]
    refine ⟨k, b, i, f, tx, ab, _, cb, rf, al, _, cl, af, _, cf, c, vr, rfl, hbd.nb, by have := hbd.nl; omega, by have := hbd.nf; omega, fun j hj => ?_, fun j hj => ?_, fun j hj => ?_⟩
    · obtain ⟨g, o, e, hg, hc⟩ := hby j hj
      exact ⟨g, o, _, e, hg, hc, (byte_bd _ _).1, (byte_bd _ _).2⟩
    · obtain ⟨g, o, es, e, hg, hc, hw⟩ := TmL.wt l al 0 hl j hj
      exact ⟨g, o, es, e, hg, by rw [Nat.zero_add] at hc; exact hc, Wt.up _ _ _ (by omega) hw⟩
    · obtain ⟨g, o, s, es, e, hg, hn, hc, hw⟩ := TmF.wt fs af 0 hf j hj
      exact ⟨g, o, s, es, e, hg, by rw [Nat.zero_add] at hn; exact hn, by rw [Nat.zero_add] at hc; exact hc, Wt.up _ _ _ (by omega) hw⟩
theorem TmL.wt {w : World} {B : Nat → Prop} : (l : TmL) → ∀ a k, l.In w B a k → ∀ j, j < l.len → ∃ g o es, a = some ⟨g, o, none⟩ ∧ B g ∧ (∀ x, x < 11 → w.cell? ⟨g, o + (k + j) * 11 + x, none⟩ = es[x]?) ∧ Wt w B l.sz es
  | .nil, _, _, _, j, hj => by simp [TmL.len] at hj
  | .cons t l, a, k, h, j, hj => by
    simp only [TmL.In] at h
    obtain ⟨g, o, cs, e, hg, hc, ht, hl⟩ := h
    simp only [TmL.sz]
    cases j with
    | zero => exact ⟨g, o, cs, e, hg, hc, Wt.up _ _ _ (by omega) (Tm.wt t cs ht)⟩
    | succ j =>
      obtain ⟨g', o', es, e', hg', hc', hw⟩ := TmL.wt l a (k + 1) hl j (by simp [TmL.len] at hj; omega)
      exact ⟨g', o', es, e', hg', by rw [show k + (j + 1) = k + 1 + j by omega]; exact hc', Wt.up _ _ _ (by omega) hw⟩
theorem TmF.wt {w : World} {B : Nat → Prop} : (l : TmF) → ∀ a k, l.In w B a k → ∀ j, j < l.len → ∃ g o s es, a = some ⟨g, o, none⟩ ∧ B g ∧ w.cell? ⟨g, o + (k + j) * 12, none⟩ = some (.string s) ∧ (∀ x, x < 11 → w.cell? ⟨g, o + (k + j) * 12 + 1 + x, none⟩ = es[x]?) ∧ Wt w B l.sz es
  | .nil, _, _, _, j, hj => by simp [TmF.len] at hj
  | .cons n t l, a, k, h, j, hj => by
    simp only [TmF.In] at h
    obtain ⟨g, o, cs, e, hg, hn, _, hc, ht, hl⟩ := h
    simp only [TmF.sz]
    cases j with
    | zero => exact ⟨g, o, n, cs, e, hg, hn, hc, Wt.up _ _ _ (by omega) (Tm.wt t cs ht)⟩
    | succ j =>
      obtain ⟨g', o', s, es, e', hg', hn', hc', hw⟩ := TmF.wt l a (k + 1) hl j (by simp [TmF.len] at hj; omega)
      exact ⟨g', o', s, es, e', hg', by rw [show k + (j + 1) = k + 1 + j by omega]; exact hn', by rw [show k + (j + 1) = k + 1 + j by omega]; exact hc', Wt.up _ _ _ (by omega) hw⟩
end
end Go.Proofs.Ytdklpdclbedceaa
