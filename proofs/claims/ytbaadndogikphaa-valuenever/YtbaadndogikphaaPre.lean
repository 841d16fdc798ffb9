/- A list of values that is being built: its first ones are those of a list of terms, what is left stands behind. -/
import Derived.Test.YtbaadndogikphaaApp
namespace Go.Proofs.Ytbaadndogikphaa
open Go.RowKit

/-- the blocks that are new in w' -/
def Fr (w w' : World) : Nat → Prop := fun k => w.heap.size ≤ k ∧ k < w'.heap.size
/-- the blocks from b on of w', but for g -/
def Own (b : Nat) (w' : World) (g : Nat) : Nat → Prop := fun k => b ≤ k ∧ k < w'.heap.size ∧ k ≠ g

def VPre (w : World) (S : Nat → Prop) : TmL → List Value → TmL → Prop
  | L, [], l => L = l
  | .cons t L, x :: xs, l => t.V w S x ∧ VPre w S L xs l
  | .nil, _ :: _, _ => False
def FPre (w : World) (S : Nat → Prop) : TmF → List Value → TmF → Prop
  | L, [], l => L = l
  | .cons n t L, y :: x :: xs, l => y = .string n ∧ n.size ≤ maxLen ∧ t.V w S x ∧ FPre w S L xs l
  | _, _, _ => False

theorem VPre_nil {w : World} {S : Nat → Prop} (L l : TmL) : VPre w S L [] l ↔ L = l := by cases L <;> rfl
theorem FPre_nil {w : World} {S : Nat → Prop} (L l : TmF) : FPre w S L [] l ↔ L = l := by cases L <;> rfl
theorem VPre.same {w w' : World} {S S' : Nat → Prop} (hs : Same S w w') (hS : ∀ k, S k → S' k) : (L : TmL) → ∀ xs l, VPre w S L xs l → VPre w' S' L xs l
  | L, [], l, h => (VPre_nil L l).2 ((VPre_nil L l).1 h)
  | .nil, x :: xs, l, h => by simp [VPre] at h
  | .cons t L, x :: xs, l, h => by
    simp only [VPre] at h ⊢
    exact ⟨t.V_same hs hS x h.1, VPre.same hs hS L xs l h.2⟩
theorem VPre.snoc {w : World} {S : Nat → Prop} : (L : TmL) → ∀ xs t l x, VPre w S L xs (.cons t l) → t.V w S x → VPre w S L (xs ++ [x]) l
  | L, [], t, l, x, h, hx => by
    obtain rfl := (VPre_nil _ _).1 h
    simp only [List.nil_append, VPre]
    exact ⟨hx, trivial⟩
  | .nil, y :: ys, t, l, x, h, hx => by simp [VPre] at h
  | .cons u L, y :: ys, t, l, x, h, hx => by
    simp only [List.cons_append, VPre] at h ⊢
    exact ⟨h.1, VPre.snoc L ys t l x h.2 hx⟩
theorem VPre.done {w : World} {S S' : Nat → Prop} (hS : ∀ k, S k → S' k) (g : Nat) (hg : S' g) : (L : TmL) → ∀ (xs : List Value) (j : Nat), VPre w S L xs .nil → (∀ i x, xs[i]? = some x → w.cell? ⟨g, j + i, none⟩ = some x) → L.V w S' (some ⟨g, 0, none⟩) j
  | .nil, _, _, _, _ => by simp [TmL.V]
  | .cons t L, [], j, h, _ => by simp [VPre] at h
  | .cons t L, x :: xs, j, h, hc => by
    simp only [VPre, TmL.V] at h ⊢
    refine ⟨g, 0, x, rfl, hg, by simpa using hc 0 x rfl, t.V_same (Same.refl _ _) hS x h.1, VPre.done hS g hg L xs (j + 1) h.2 ?_⟩
    intro i y hi
    have := hc (i + 1) y (by simpa using hi)
    rw [show j + 1 + i = j + (i + 1) by omega]; exact this
theorem VPre.len {w : World} {S : Nat → Prop} : (L : TmL) → ∀ xs l, VPre w S L xs l → L.len = xs.length + l.len
  | L, [], l, h => by
    obtain rfl := (VPre_nil _ _).1 h; simp
  | .nil, x :: xs, l, h => by simp [VPre] at h
  | .cons t L, x :: xs, l, h => by
    simp only [VPre] at h
    have := VPre.len L xs l h.2
    simp [TmL.len]; omega

theorem FPre.same {w w' : World} {S S' : Nat → Prop} (hs : Same S w w') (hS : ∀ k, S k → S' k) : (L : TmF) → ∀ xs l, FPre w S L xs l → FPre w' S' L xs l
  | L, [], l, h => (FPre_nil L l).2 ((FPre_nil L l).1 h)
  | .nil, x :: xs, l, h => by cases xs <;> simp [FPre] at h
  | .cons n t L, [x], l, h => by simp [FPre] at h
  | .cons n t L, y :: x :: xs, l, h => by
    simp only [FPre] at h ⊢
    exact ⟨h.1, h.2.1, t.V_same hs hS x h.2.2.1, FPre.same hs hS L xs l h.2.2.2⟩
theorem FPre.snoc {w : World} {S : Nat → Prop} : (L : TmF) → ∀ xs n t l x, FPre w S L xs (.cons n t l) → n.size ≤ maxLen → t.V w S x → FPre w S L (xs ++ [.string n, x]) l
  | L, [], n, t, l, x, h, hn, hx => by
    obtain rfl := (FPre_nil _ _).1 h
    simp only [List.nil_append, FPre]
    exact ⟨trivial, hn, hx, trivial⟩
  | .nil, y :: ys, n, t, l, x, h, hn, hx => by cases ys <;> simp [FPre] at h
  | .cons m u L, [y], n, t, l, x, h, hn, hx => by simp [FPre] at h
  | .cons m u L, y :: z :: ys, n, t, l, x, h, hn, hx => by
    simp only [List.cons_append, FPre] at h ⊢
    exact ⟨h.1, h.2.1, h.2.2.1, FPre.snoc L ys n t l x h.2.2.2 hn hx⟩
theorem FPre.done {w : World} {S S' : Nat → Prop} (hS : ∀ k, S k → S' k) (g : Nat) (hg : S' g) : (L : TmF) → ∀ (xs : List Value) (j : Nat), FPre w S L xs .nil → (∀ i x, xs[i]? = some x → w.cell? ⟨g, j * 2 + i, none⟩ = some x) → L.V w S' (some ⟨g, 0, none⟩) j
  | .nil, _, _, _, _ => by simp [TmF.V]
  | .cons n t L, [], j, h, _ => by simp [FPre] at h
  | .cons n t L, [x], j, h, _ => by simp [FPre] at h
  | .cons n t L, y :: x :: xs, j, h, hc => by
    simp only [FPre, TmF.V] at h ⊢
    obtain ⟨rfl, hn, hx, h⟩ := h
    refine ⟨g, 0, x, rfl, hg, by simpa using hc 0 _ rfl, by simpa using hc 1 x rfl, hn, t.V_same (Same.refl _ _) hS x hx, FPre.done hS g hg L xs (j + 1) h ?_⟩
    intro i y hi
    have := hc (i + 2) y (by simpa using hi)
    rw [show (j + 1) * 2 + i = j * 2 + (i + 2) by omega]; exact this

/-- the eleven cells of a term, one by one -/
theorem eleven {w : World} {g o : Nat} {k : Int} {b : Bool} {i : Int} {f : Nat} {tx : ByteArray} {vb : Value} {rf : Int} {vl vf : Value} {c : ByteArray} {vr : Int}
    (h : ∀ x, x < 11 → w.cell? ⟨g, o + x, none⟩ = (tcells k b i f tx vb rf vl vf c vr)[x]?) :
    w.cell? ⟨g, o, none⟩ = some (.int .i64 k) ∧ w.cell? ⟨g, o + 1, none⟩ = some (.bool b) ∧ w.cell? ⟨g, o + 2, none⟩ = some (.int .i64 i) ∧ w.cell? ⟨g, o + 3, none⟩ = some (.float .f64 f) ∧ w.cell? ⟨g, o + 4, none⟩ = some (.string tx) ∧ w.cell? ⟨g, o + 5, none⟩ = some vb ∧ w.cell? ⟨g, o + 6, none⟩ = some (.int .u64 rf) ∧ w.cell? ⟨g, o + 7, none⟩ = some vl ∧ w.cell? ⟨g, o + 8, none⟩ = some vf ∧ w.cell? ⟨g, o + 9, none⟩ = some (.string c) ∧ w.cell? ⟨g, o + 10, none⟩ = some (.int .i64 vr) :=
  ⟨h 0 (by decide), h 1 (by decide), h 2 (by decide), h 3 (by decide), h 4 (by decide), h 5 (by decide), h 6 (by decide), h 7 (by decide), h 8 (by decide), h 9 (by decide), h 10 (by decide)⟩
end Go.Proofs.Ytbaadndogikphaa
