/- How a term that came in lies in memory: its eleven cells, and the terms and entries behind its slices. -/
import Derived.Test.YtbaadndogikphaaMem
namespace Go.Proofs.Ytbaadndogikphaa
open Go.RowKit

/-- the blocks of B are there in w -/
def Sub (B : Nat → Prop) (w : World) : Prop := ∀ k, B k → k < w.heap.size
theorem Sub.same {B : Nat → Prop} {w W : World} (h : Sub B w) (hW : Below w.heap.size w W) : Same B w W := fun k hk => hW.block k (h k hk)
theorem Sub.later {B : Nat → Prop} {w W : World} (h : Sub B w) (hW : Below w.heap.size w W) : Sub B W := fun k hk => Nat.lt_of_lt_of_le (h k hk) hW.size
theorem Sub.lo {b : Nat} {w : World} (h : b ≤ w.heap.size) : Sub (Lo b) w := fun _ hk => Nat.lt_of_lt_of_le hk h

/-- a term's eleven cells: those of its own, and where its three slices lie -/
def tcells (k : Int) (b : Bool) (i : Int) (f : Nat) (tx : ByteArray) (vb : Value) (rf : Int) (vl vf : Value) (c : ByteArray) (vr : Int) : Array Value :=
  #[.int .i64 k, .bool b, .int .i64 i, .float .f64 f, .string tx, vb, .int .u64 rf, vl, vf, .string c, .int .i64 vr]
/-- the bounds of what a term holds -/
structure Bd (k i : Int) (f : Nat) (tx : ByteArray) (nb : Nat) (rf : Int) (nl nf : Nat) (c : ByteArray) (vr : Int) : Prop where
  k0 : -9223372036854775808 ≤ k
  k1 : k ≤ 9223372036854775807
  i0 : -9223372036854775808 ≤ i
  i1 : i ≤ 9223372036854775807
  f1 : f < 18446744073709551616
  r0 : 0 ≤ rf
  r1 : rf ≤ 18446744073709551615
  v0 : -9223372036854775808 ≤ vr
  v1 : vr ≤ 9223372036854775807
  tx : tx.size ≤ 140737488355328
  c : c.size ≤ 140737488355328
  nb : nb ≤ 140737488355328
  nl : nl * 152 ≤ 140737488355328
  nf : nf * 168 ≤ 140737488355328

mutual
def Tm.In (w : World) (B : Nat → Prop) : Tm → Array Value → Prop
  | .mk k b i f tx by' rf l fs c vr, cs => ∃ ab cb al cl af cf, cs = tcells k b i f tx (.slice ab by'.size cb) rf (.slice al l.len cl) (.slice af fs.len cf) c vr ∧ Bd k i f tx by'.size rf l.len fs.len c vr ∧ BytesAt w B ab by' ∧ l.In w B al 0 ∧ fs.In w B af 0
def TmL.In (w : World) (B : Nat → Prop) : TmL → Option Addr → Nat → Prop
  | .nil, _, _ => True
  | .cons t l, a, j => ∃ g o cs, a = some ⟨g, o, none⟩ ∧ B g ∧ (∀ x, x < 11 → w.cell? ⟨g, o + j * 11 + x, none⟩ = cs[x]?) ∧ t.In w B cs ∧ l.In w B a (j + 1)
def TmF.In (w : World) (B : Nat → Prop) : TmF → Option Addr → Nat → Prop
  | .nil, _, _ => True
  | .cons n t l, a, j => ∃ g o cs, a = some ⟨g, o, none⟩ ∧ B g ∧ w.cell? ⟨g, o + j * 12, none⟩ = some (.string n) ∧ n.size ≤ 140737488355328 ∧ (∀ x, x < 11 → w.cell? ⟨g, o + j * 12 + 1 + x, none⟩ = cs[x]?) ∧ t.In w B cs ∧ l.In w B a (j + 1)
end

mutual
theorem Tm.In_same {w w' : World} {B B' : Nat → Prop} (hs : Same B w w') (hB : ∀ k, B k → B' k) : (t : Tm) → ∀ cs, t.In w B cs → t.In w' B' cs
  | .mk k b i f tx by' rf l fs c vr, cs, h => by
    simp only [Tm.In] at h ⊢
    obtain ⟨ab, cb, al, cl, af, cf, e, hb, h1, h2, h3⟩ := h
    exact ⟨ab, cb, al, cl, af, cf, e, hb, h1.same hs hB, TmL.In_same hs hB l _ _ h2, TmF.In_same hs hB fs _ _ h3⟩
theorem TmL.In_same {w w' : World} {B B' : Nat → Prop} (hs : Same B w w') (hB : ∀ k, B k → B' k) : (l : TmL) → ∀ a j, l.In w B a j → l.In w' B' a j
  | .nil, _, _, _ => by simp [TmL.In]
  | .cons t l, a, j, h => by
    simp only [TmL.In] at h ⊢
    obtain ⟨g, o, cs, e, hg, hc, ht, hl⟩ := h
    exact ⟨g, o, cs, e, hB _ hg, fun x hx => by rw [hs.cell (p := ⟨g, o + j * 11 + x, none⟩) hg]; exact hc x hx, Tm.In_same hs hB t _ ht, TmL.In_same hs hB l _ _ hl⟩
theorem TmF.In_same {w w' : World} {B B' : Nat → Prop} (hs : Same B w w') (hB : ∀ k, B k → B' k) : (l : TmF) → ∀ a j, l.In w B a j → l.In w' B' a j
  | .nil, _, _, _ => by simp [TmF.In]
  | .cons n t l, a, j, h => by
    simp only [TmF.In] at h ⊢
    obtain ⟨g, o, cs, e, hg, hn, hz, hc, ht, hl⟩ := h
    exact ⟨g, o, cs, e, hB _ hg, by rw [hs.cell (p := ⟨g, o + j * 12, none⟩) hg]; exact hn, hz, fun x hx => by rw [hs.cell (p := ⟨g, o + j * 12 + 1 + x, none⟩) hg]; exact hc x hx, Tm.In_same hs hB t _ ht, TmF.In_same hs hB l _ _ hl⟩
end
end Go.Proofs.Ytbaadndogikphaa
