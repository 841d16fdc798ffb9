/- How terms (arguments) and values (what an interface holds) lie in memory: predicates over a world, kept by whatever leaves the blocks below a number as they were. -/
import Derived.Test.YtnndlffidifddaaGreatDoorK1
namespace Go.Proofs.YtnndlffidifddaaGreatDoor
open Go.RowKit

/-- bytes behind a slice's address -/
def BytesAt (w : World) (B : Nat → Prop) (a : Option Addr) (l : ByteArray) : Prop := ∀ j, j < l.size → ∃ g o, a = some ⟨g, o, none⟩ ∧ B g ∧ w.cell? ⟨g, o + j, none⟩ = some (.int .u8 (Sp.byte l j))

/-- a slice that is a whole row of a block of B, or none: all its room is there and can be written -/
def Ln (w : World) (B : Nat → Prop) (e : TypeId) (size : Nat) (a : Option Addr) (n cap : Nat) : Prop := n ≤ maxLen ∧ (∃ xs, w.ownsRow 0 e size (.slice a n cap) n xs) ∧ ∀ g o p, a = some ⟨g, o, p⟩ → B g

mutual
/-- v is the value of the term, in memory in the blocks of B -/
def Tm.V (w : World) (B : Nat → Prop) : Tm → Value → Prop
  | .mk k b i f tx by' rf l fs c vr, v =>
    (k = 1 → v = .nilIface) ∧ (k = 2 → v = .iface 4 (.bool b)) ∧ (k = 3 → v = .iface 2 (.int .i64 i)) ∧ (k = 4 → v = .iface 22 (.float .f64 f) ∧ f < 18446744073709551616) ∧
    (k = 5 → v = .iface 9 (.string tx) ∧ tx.size ≤ maxLen) ∧
    (k = 6 → ∃ a cap, v = .iface 23 (.slice a by'.size cap) ∧ Ln w B 5 1 a by'.size cap ∧ BytesAt w B a by') ∧
    (k = 7 → v = .iface 25 (.int .u64 rf)) ∧
    (k = 8 → ∃ a cap, v = .iface 41 (.slice a l.len cap) ∧ Ln w B 20 1 a l.len cap ∧ l.V w B a 0) ∧
    (k = 9 → ∃ a cap, v = .iface 43 (.slice a fs.len cap) ∧ Ln w B 67 2 a fs.len cap ∧ fs.V w B a 0) ∧
    (k = 10 → ∃ g a cap, v = .iface 45 (.pointer (some ⟨g, 0, none⟩)) ∧ B g ∧ w.cell? ⟨g, 0, none⟩ = some (.string c) ∧ w.cell? ⟨g, 1, none⟩ = some (.int .i64 vr) ∧ w.cell? ⟨g, 2, none⟩ = some (.slice a fs.len cap) ∧ (c.size ≤ maxLen ∧ ∃ cur, w.heap[g]? = some (.cells cur 47 (0, 0))) ∧ Ln w B 67 2 a fs.len cap ∧ fs.V w B a 0) ∧
    (k = 11 → v = .iface 45 (.pointer none)) ∧
    (k < 1 ∨ 11 < k → ∃ T x, v = .iface T x ∧ Alien T)
def TmL.V (w : World) (B : Nat → Prop) : TmL → Option Addr → Nat → Prop
  | .nil, _, _ => True
  | .cons t l, a, j => ∃ g o v, a = some ⟨g, o, none⟩ ∧ B g ∧ w.cell? ⟨g, o + j, none⟩ = some v ∧ t.V w B v ∧ l.V w B a (j + 1)
def TmF.V (w : World) (B : Nat → Prop) : TmF → Option Addr → Nat → Prop
  | .nil, _, _ => True
  | .cons n t l, a, j => ∃ g o v, a = some ⟨g, o, none⟩ ∧ B g ∧ w.cell? ⟨g, o + j * 2, none⟩ = some (.string n) ∧ w.cell? ⟨g, o + j * 2 + 1, none⟩ = some v ∧ n.size ≤ maxLen ∧ t.V w B v ∧ l.V w B a (j + 1)
end

/-- two worlds that hold the same in the blocks of B -/
def Same (B : Nat → Prop) (w w' : World) : Prop := ∀ k, B k → w'.heap[k]? = w.heap[k]?
/-- the blocks below b -/
def Lo (b : Nat) : Nat → Prop := fun k => k < b
theorem Lo.le {a b : Nat} (h : a ≤ b) : ∀ k, Lo a k → Lo b k := fun _ hk => Nat.lt_of_lt_of_le hk h
theorem Same.cell {B : Nat → Prop} {w w' : World} (h : Same B w w') {p : Addr} (hp : B p.block) : w'.cell? p = w.cell? p := World.cell?_of_block (w := w) (h p.block hp)
theorem Same.of_below {B B' : Nat} {w w' : World} (h : Below B' w w') (hB : B ≤ B') : Same (Lo B) w w' := fun k hk => h.block k (Nat.lt_of_lt_of_le hk hB)
theorem Same.refl (B : Nat → Prop) (w : World) : Same B w w := fun _ _ => rfl
theorem Same.mono {B B' : Nat → Prop} {w w' : World} (h : Same B w w') (hB : ∀ k, B' k → B k) : Same B' w w' := fun k hk => h k (hB k hk)
theorem Same.trans {B : Nat → Prop} {a b c : World} (h : Same B a b) (k : Same B b c) : Same B a c := fun i hi => (k i hi).trans (h i hi)

theorem BytesAt.same {w w' : World} {B B' : Nat → Prop} {a : Option Addr} {l : ByteArray} (h : BytesAt w B a l) (hs : Same B w w') (hB : ∀ k, B k → B' k) : BytesAt w' B' a l := by
  intro j hj
  obtain ⟨g, o, e, hg, hc⟩ := h j hj
  exact ⟨g, o, e, hB _ hg, by rw [hs.cell (p := ⟨g, o + j, none⟩) hg]; exact hc⟩

theorem Ln.same {w w' : World} {B B' : Nat → Prop} {e : TypeId} {size : Nat} {a : Option Addr} {n cap : Nat} (h : Ln w B e size a n cap) (hs : Same B w w') (hB : ∀ k, B k → B' k) : Ln w' B' e size a n cap := by
  obtain ⟨h1, ⟨xs, h2, h3⟩, h4⟩ := h
  refine ⟨h1, ⟨xs, h2, ?_⟩, fun g o p e => hB _ (h4 g o p e)⟩
  rcases h3 with h3 | ⟨g, cap', cur, e1, e2, e3, r⟩
  · exact .inl h3
  · refine .inr ⟨g, cap', cur, e1, e2, ?_, r⟩
    injection e1 with e1
    rw [hs g (h4 g 0 none e1)]; exact e3
theorem Ln.of {w : World} {B : Nat → Prop} {base : Nat} {e : TypeId} {size : Nat} {a : Option Addr} {n cap : Nat} {xs : List Value} (h : w.ownsRow base e size (.slice a n cap) n xs) (hB : ∀ g o p, a = some ⟨g, o, p⟩ → B g) : Ln w B e size a n cap := by
  obtain ⟨h2, h3⟩ := h
  refine ⟨?_, ⟨xs, h2, h3.imp id fun ⟨g, c, cur, e1, _, r⟩ => ⟨g, c, cur, e1, Nat.zero_le _, r⟩⟩, hB⟩
  rcases h3 with h3 | ⟨g, c, cur, e1, _, _, h5, h6, _⟩
  · rw [h3.2]; exact Nat.zero_le _
  · exact Nat.le_trans h5 h6
theorem Ln.row {w : World} {B : Nat → Prop} {e : TypeId} {size g n : Nat} (h : ∃ cur, w.heap[g]? = some (.cells cur e (0, 0)) ∧ cur.size = n * size) (hm : n ≤ maxLen) (hB : B g) : Ln w B e size (some ⟨g, 0, none⟩) n n := by
  obtain ⟨cur, h1, h2⟩ := h
  refine ⟨hm, ⟨cur.toList, by simpa using h2, .inr ⟨g, n, cur, rfl, Nat.zero_le _, h1, Nat.le_refl _, hm, h2, ?_⟩⟩, fun g' o p e => by injection e with e; injection e with e; subst e; exact hB⟩
  exact List.take_of_length_le (by rw [Array.length_toList, h2]; exact Nat.le_refl _)

mutual
theorem Tm.V_same {w w' : World} {B B' : Nat → Prop} (hs : Same B w w') (hB : ∀ k, B k → B' k) : (t : Tm) → ∀ v, t.V w B v → t.V w' B' v
  | .mk k b i f tx by' rf l fs c vr, v, h => by
    simp only [Tm.V] at h ⊢
    obtain ⟨h1, h2, h3, h4, h5, h6, h7, h8, h9, h10, h11, h12⟩ := h
    refine ⟨h1, h2, h3, h4, h5, ?_, h7, ?_, ?_, ?_, h11, h12⟩
    · intro hk; obtain ⟨a, cap, e, hm, hb⟩ := h6 hk; exact ⟨a, cap, e, hm.same hs hB, hb.same hs hB⟩
    · intro hk; obtain ⟨a, cap, e, hm, hb⟩ := h8 hk; exact ⟨a, cap, e, hm.same hs hB, TmL.V_same hs hB l _ _ hb⟩
    · intro hk; obtain ⟨a, cap, e, hm, hb⟩ := h9 hk; exact ⟨a, cap, e, hm.same hs hB, TmF.V_same hs hB fs _ _ hb⟩
    · intro hk
      obtain ⟨g, a, cap, e, hg, c0, c1, c2, hc, hm, hb⟩ := h10 hk
      refine ⟨g, a, cap, e, hB _ hg, ?_, ?_, ?_, ⟨hc.1, by rw [hs g hg]; exact hc.2⟩, hm.same hs hB, TmF.V_same hs hB fs _ _ hb⟩
      · rw [hs.cell (p := ⟨g, 0, none⟩) hg]; exact c0
      · rw [hs.cell (p := ⟨g, 1, none⟩) hg]; exact c1
      · rw [hs.cell (p := ⟨g, 2, none⟩) hg]; exact c2
theorem TmL.V_same {w w' : World} {B B' : Nat → Prop} (hs : Same B w w') (hB : ∀ k, B k → B' k) : (l : TmL) → ∀ a j, l.V w B a j → l.V w' B' a j
  | .nil, _, _, _ => by simp [TmL.V]
  | .cons t l, a, j, h => by
    simp only [TmL.V] at h ⊢
    obtain ⟨g, o, v, e, hg, hc, ht, hl⟩ := h
    exact ⟨g, o, v, e, hB _ hg, by rw [hs.cell (p := ⟨g, o + j, none⟩) hg]; exact hc, Tm.V_same hs hB t _ ht, TmL.V_same hs hB l _ _ hl⟩
theorem TmF.V_same {w w' : World} {B B' : Nat → Prop} (hs : Same B w w') (hB : ∀ k, B k → B' k) : (l : TmF) → ∀ a j, l.V w B a j → l.V w' B' a j
  | .nil, _, _, _ => by simp [TmF.V]
  | .cons n t l, a, j, h => by
    simp only [TmF.V] at h ⊢
    obtain ⟨g, o, v, e, hg, hc, hd, hn, ht, hl⟩ := h
    exact ⟨g, o, v, e, hB _ hg, by rw [hs.cell (p := ⟨g, o + j * 2, none⟩) hg]; exact hc, by rw [hs.cell (p := ⟨g, o + j * 2 + 1, none⟩) hg]; exact hd, hn, Tm.V_same hs hB t _ ht, TmF.V_same hs hB l _ _ hl⟩
end

/-- a list, or fields, in a row of their own -/
def TmL.LV (w : World) (B : Nat → Prop) (l : TmL) (a : Option Addr) (cap : Nat) : Prop := Ln w B 20 1 a l.len cap ∧ l.V w B a 0
def TmF.LV (w : World) (B : Nat → Prop) (l : TmF) (a : Option Addr) (cap : Nat) : Prop := Ln w B 67 2 a l.len cap ∧ l.V w B a 0
def BytesLV (w : World) (B : Nat → Prop) (a : Option Addr) (l : ByteArray) (cap : Nat) : Prop := Ln w B 5 1 a l.size cap ∧ BytesAt w B a l
theorem TmL.LV_same {w w' : World} {B B' : Nat → Prop} (hs : Same B w w') (hB : ∀ k, B k → B' k) (l : TmL) (a : Option Addr) (cap : Nat) (h : l.LV w B a cap) : l.LV w' B' a cap := ⟨h.1.same hs hB, l.V_same hs hB a 0 h.2⟩
theorem TmF.LV_same {w w' : World} {B B' : Nat → Prop} (hs : Same B w w') (hB : ∀ k, B k → B' k) (l : TmF) (a : Option Addr) (cap : Nat) (h : l.LV w B a cap) : l.LV w' B' a cap := ⟨h.1.same hs hB, l.V_same hs hB a 0 h.2⟩
theorem BytesLV.same {w w' : World} {B B' : Nat → Prop} {a : Option Addr} {l : ByteArray} {cap : Nat} (h : BytesLV w B a l cap) (hs : Same B w w') (hB : ∀ k, B k → B' k) : BytesLV w' B' a l cap := ⟨h.1.same hs hB, h.2.same hs hB⟩

def TmF.RV (w : World) (B : Nat → Prop) (l : TmF) (g : Nat) (a : Option Addr) (cap : Nat) : Prop := (∃ cur, w.heap[g]? = some (.cells cur 47 (0, 0))) ∧ l.LV w B a cap
section
variable {w : World} {B : Nat → Prop} {b : Bool} {i : Int} {f : Nat} {tx by' : ByteArray} {rf : Int} {l : TmL} {fs : TmF} {c : ByteArray} {vr : Int} {a : Option Addr} {cap : Nat}
theorem Tm.V_of6 (h : BytesLV w B a by' cap) : (Tm.mk 6 b i f tx by' rf l fs c vr).V w B (.iface 23 (.slice a by'.size cap)) := by
  simp only [Tm.V]
  exact ⟨fun h => absurd h (by decide), fun h => absurd h (by decide), fun h => absurd h (by decide), fun h => absurd h (by decide), fun h => absurd h (by decide), fun _ => ⟨_, _, rfl, h.1, h.2⟩, fun h => absurd h (by decide), fun h => absurd h (by decide), fun h => absurd h (by decide), fun h => absurd h (by decide), fun h => absurd h (by decide), fun h => absurd h (by decide)⟩
theorem Tm.V_of8 (h : l.LV w B a cap) : (Tm.mk 8 b i f tx by' rf l fs c vr).V w B (.iface 41 (.slice a l.len cap)) := by
  simp only [Tm.V]
  exact ⟨fun h => absurd h (by decide), fun h => absurd h (by decide), fun h => absurd h (by decide), fun h => absurd h (by decide), fun h => absurd h (by decide), fun h => absurd h (by decide), fun h => absurd h (by decide), fun _ => ⟨_, _, rfl, h.1, h.2⟩, fun h => absurd h (by decide), fun h => absurd h (by decide), fun h => absurd h (by decide), fun h => absurd h (by decide)⟩
theorem Tm.V_of9 (h : fs.LV w B a cap) : (Tm.mk 9 b i f tx by' rf l fs c vr).V w B (.iface 43 (.slice a fs.len cap)) := by
  simp only [Tm.V]
  exact ⟨fun h => absurd h (by decide), fun h => absurd h (by decide), fun h => absurd h (by decide), fun h => absurd h (by decide), fun h => absurd h (by decide), fun h => absurd h (by decide), fun h => absurd h (by decide), fun h => absurd h (by decide), fun _ => ⟨_, _, rfl, h.1, h.2⟩, fun h => absurd h (by decide), fun h => absurd h (by decide), fun h => absurd h (by decide)⟩
theorem Tm.V_of10 {g : Nat} (hg : B g) (c0 : w.cell? ⟨g, 0, none⟩ = some (.string c)) (c1 : w.cell? ⟨g, 1, none⟩ = some (.int .i64 vr)) (c2 : w.cell? ⟨g, 2, none⟩ = some (.slice a fs.len cap)) (hc : c.size ≤ maxLen) (h : fs.RV w B g a cap) :
    (Tm.mk 10 b i f tx by' rf l fs c vr).V w B (.iface 45 (.pointer (some ⟨g, 0, none⟩))) := by
  simp only [Tm.V]
  exact ⟨fun h => absurd h (by decide), fun h => absurd h (by decide), fun h => absurd h (by decide), fun h => absurd h (by decide), fun h => absurd h (by decide), fun h => absurd h (by decide), fun h => absurd h (by decide), fun h => absurd h (by decide), fun h => absurd h (by decide), fun _ => ⟨g, a, cap, rfl, hg, c0, c1, c2, ⟨hc, h.1⟩, h.2.1, h.2.2⟩, fun h => absurd h (by decide), fun h => absurd h (by decide)⟩
end

/-- a value is nil or a type with what it holds -/
theorem Tm.V_shape {w : World} {B : Nat → Prop} (t : Tm) (v : Value) (h : t.V w B v) : v = .nilIface ∨ ∃ T x, v = .iface T x := by
  cases t with
  | mk k b i f tx by' rf l fs c vr =>
    simp only [Tm.V] at h
    obtain ⟨h1, h2, h3, h4, h5, h6, h7, h8, h9, h10, h11, h12⟩ := h
    by_cases k1 : k = 1
    · exact .inl (h1 k1)
    right
    by_cases k2 : k = 2
    · exact ⟨_, _, h2 k2⟩
    by_cases k3 : k = 3
    · exact ⟨_, _, h3 k3⟩
    by_cases k4 : k = 4
    · exact ⟨_, _, (h4 k4).1⟩
    by_cases k5 : k = 5
    · exact ⟨_, _, (h5 k5).1⟩
    by_cases k6 : k = 6
    · obtain ⟨_, _, e, _⟩ := h6 k6; exact ⟨_, _, e⟩
    by_cases k7 : k = 7
    · exact ⟨_, _, h7 k7⟩
    by_cases k8 : k = 8
    · obtain ⟨_, _, e, _⟩ := h8 k8; exact ⟨_, _, e⟩
    by_cases k9 : k = 9
    · obtain ⟨_, _, e, _⟩ := h9 k9; exact ⟨_, _, e⟩
    by_cases k10 : k = 10
    · obtain ⟨_, _, _, e, _⟩ := h10 k10; exact ⟨_, _, e⟩
    by_cases k11 : k = 11
    · exact ⟨_, _, h11 k11⟩
    obtain ⟨T, x, e, _⟩ := h12 (by omega); exact ⟨T, x, e⟩

theorem sc_ne {w : World} {a b : Addr} {v : Value} (h : a ≠ b) : (w.setCell a v).cell? b = w.cell? b := World.cell?_setCell_other w a b v h
theorem sc_eq {w : World} {a : Addr} {u v : Value} (h : w.cell? a = some u) : (w.setCell a v).cell? a = some v := World.cell?_setCell_same w a v h

/-- the walk's two numbers lie in block b -/
def Wk (w : World) (b : Nat) (p d : Int) : Prop := w.cell? ⟨b, 0, none⟩ = some (.int .i64 p) ∧ w.cell? ⟨b, 1, none⟩ = some (.int .i64 d) ∧ w.frozen? ⟨b, 0, none⟩ = false ∧ w.frozen? ⟨b, 1, none⟩ = false
theorem Wk.lt {w : World} {b : Nat} {p d : Int} (h : Wk w b p d) : b < w.heap.size := World.block_lt_of_cell? _ _ h.1
theorem Wk.same {w w' : World} {B b : Nat} {p d : Int} (h : Wk w b p d) (hs : Same (Lo B) w w') (hb : b < B) : Wk w' b p d := by
  have hf : ∀ i, w'.frozen? ⟨b, i, none⟩ = w.frozen? ⟨b, i, none⟩ := fun i => World.frozen?_of_block (w := w) (hs b hb)
  obtain ⟨h0, h1, f0, f1⟩ := h
  exact ⟨by rw [hs.cell (p := ⟨b, 0, none⟩) hb]; exact h0, by rw [hs.cell (p := ⟨b, 1, none⟩) hb]; exact h1, by rw [hf]; exact f0, by rw [hf]; exact f1⟩
theorem Wk.set {w : World} {b : Nat} {p d : Int} (h : Wk w b p d) (p' d' : Int) : Wk ((w.setCell ⟨b, 0, none⟩ (.int .i64 p')).setCell ⟨b, 1, none⟩ (.int .i64 d')) b p' d' := by
  obtain ⟨h0, h1, f0, f1⟩ := h
  refine ⟨?_, ?_, by simpa using f0, by simpa using f1⟩
  · rw [sc_ne (by simp), sc_eq h0]
  · rw [sc_eq (u := .int .i64 d) (by rw [sc_ne (by simp)]; exact h1)]
end Go.Proofs.YtnndlffidifddaaGreatDoor

/- How a term that came in lies in memory: its eleven cells, and the terms and entries behind its slices. -/
namespace Go.Proofs.YtnndlffidifddaaGreatDoor
open Go.RowKit

/-- the blocks of B are there in w -/
def Sub (B : Nat → Prop) (w : World) : Prop := ∀ k, B k → k < w.heap.size
theorem Sub.same {B : Nat → Prop} {w W : World} (h : Sub B w) (hW : Below w.heap.size w W) : Same B w W := fun k hk => hW.block k (h k hk)
theorem Sub.later {B : Nat → Prop} {w W : World} (h : Sub B w) (hW : Below w.heap.size w W) : Sub B W := fun k hk => Nat.lt_of_lt_of_le (h k hk) hW.size
theorem Sub.lo {b : Nat} {w : World} (h : b ≤ w.heap.size) : Sub (Lo b) w := fun _ hk => Nat.lt_of_lt_of_le hk h

/-- a term's eleven cells: those of its own, and where its three slices lie -/
def tcells (k : Int) (b : Bool) (i : Int) (f : Nat) (tx : ByteArray) (vb : Value) (rf : Int) (vl vf : Value) (c : ByteArray) (vr : Int) : Array Value :=
  #[.int .i64 k, .bool b, .int .i64 i, .float .f64 f, .string tx, vb, .int .u64 rf, vl, vf, .string c, .int .i64 vr]
/-- the bounds of what a term holds -/
structure Bd (k i : Int) (f : Nat) (tx : ByteArray) (nb : Nat) (rf : Int) (nl nf : Nat) (c : ByteArray) (vr : Int) : Prop where
  k0 : -9223372036854775808 ≤ k
  k1 : k ≤ 9223372036854775807
  i0 : -9223372036854775808 ≤ i
  i1 : i ≤ 9223372036854775807
  f1 : f < 18446744073709551616
  r0 : 0 ≤ rf
  r1 : rf ≤ 18446744073709551615
  v0 : -9223372036854775808 ≤ vr
  v1 : vr ≤ 9223372036854775807
  tx : tx.size ≤ 140737488355328
  c : c.size ≤ 140737488355328
  nb : nb ≤ 140737488355328
  nl : nl * 152 ≤ 140737488355328
  nf : nf * 168 ≤ 140737488355328

mutual
def Tm.In (w : World) (B : Nat → Prop) : Tm → Array Value → Prop
  | .mk k b i f tx by' rf l fs c vr, cs => ∃ ab cb al cl af cf, cs = tcells k b i f tx (.slice ab by'.size cb) rf (.slice al l.len cl) (.slice af fs.len cf) c vr ∧ Bd k i f tx by'.size rf l.len fs.len c vr ∧ BytesAt w B ab by' ∧ l.In w B al 0 ∧ fs.In w B af 0
def TmL.In (w : World) (B : Nat → Prop) : TmL → Option Addr → Nat → Prop
  | .nil, _, _ => True
  | .cons t l, a, j => ∃ g o cs, a = some ⟨g, o, none⟩ ∧ B g ∧ (∀ x, x < 11 → w.cell? ⟨g, o + j * 11 + x, none⟩ = cs[x]?) ∧ t.In w B cs ∧ l.In w B a (j + 1)
def TmF.In (w : World) (B : Nat → Prop) : TmF → Option Addr → Nat → Prop
  | .nil, _, _ => True
  | .cons n t l, a, j => ∃ g o cs, a = some ⟨g, o, none⟩ ∧ B g ∧ w.cell? ⟨g, o + j * 12, none⟩ = some (.string n) ∧ n.size ≤ 140737488355328 ∧ (∀ x, x < 11 → w.cell? ⟨g, o + j * 12 + 1 + x, none⟩ = cs[x]?) ∧ t.In w B cs ∧ l.In w B a (j + 1)
end

mutual
theorem Tm.In_same {w w' : World} {B B' : Nat → Prop} (hs : Same B w w') (hB : ∀ k, B k → B' k) : (t : Tm) → ∀ cs, t.In w B cs → t.In w' B' cs
  | .mk k b i f tx by' rf l fs c vr, cs, h => by
    simp only [Tm.In] at h ⊢
    obtain ⟨ab, cb, al, cl, af, cf, e, hb, h1, h2, h3⟩ := h
    exact ⟨ab, cb, al, cl, af, cf, e, hb, h1.same hs hB, TmL.In_same hs hB l _ _ h2, TmF.In_same hs hB fs _ _ h3⟩
theorem TmL.In_same {w w' : World} {B B' : Nat → Prop} (hs : Same B w w') (hB : ∀ k, B k → B' k) : (l : TmL) → ∀ a j, l.In w B a j → l.In w' B' a j
  | .nil, _, _, _ => by simp [TmL.In]
  | .cons t l, a, j, h => by
    simp only [TmL.In] at h ⊢
    obtain ⟨g, o, cs, e, hg, hc, ht, hl⟩ := h
    exact ⟨g, o, cs, e, hB _ hg, fun x hx => by rw [hs.cell (p := ⟨g, o + j * 11 + x, none⟩) hg]; exact hc x hx, Tm.In_same hs hB t _ ht, TmL.In_same hs hB l _ _ hl⟩
theorem TmF.In_same {w w' : World} {B B' : Nat → Prop} (hs : Same B w w') (hB : ∀ k, B k → B' k) : (l : TmF) → ∀ a j, l.In w B a j → l.In w' B' a j
  | .nil, _, _, _ => by simp [TmF.In]
  | .cons n t l, a, j, h => by
    simp only [TmF.In] at h ⊢
    obtain ⟨g, o, cs, e, hg, hn, hz, hc, ht, hl⟩ := h
    exact ⟨g, o, cs, e, hB _ hg, by rw [hs.cell (p := ⟨g, o + j * 12, none⟩) hg]; exact hn, hz, fun x hx => by rw [hs.cell (p := ⟨g, o + j * 12 + 1 + x, none⟩) hg]; exact hc x hx, Tm.In_same hs hB t _ ht, TmF.In_same hs hB l _ _ hl⟩
end
end Go.Proofs.YtnndlffidifddaaGreatDoor

/- 'append' onto a slice that the call itself made: what it owns grows, nothing else turns, and the row is the old one or the newest block. -/
namespace Go.Proofs.YtnndlffidifddaaGreatDoor
open Go.RowKit

theorem run_app {P : Program} (w : World) (base : Nat) (t ty e : TypeId) (i : TypeInfo) (z : Value) (size bytes : Nat) (ht : P.underlying t = some (.slice e)) (hi : P.info? e = some i) (hz : i.zero = some z)
    (hsize : i.size = size) (hby : i.bytes = bytes) (hzs : z.cells.size = size) (hsz : 0 < size)
    (v : Value) (n : Nat) (xs : List Value) (hown : w.ownsRow base e size v n xs)
    (a : Addr) (m c : Nat) (news : List Value) (hl : news.length = m * size) (hnews : ∀ j u, news[j]? = some u → w.cell? (a.add j) = some u) (h1 : ∀ u ∈ news, u.oneCell' = true) (hm : 0 < m)
    (h63 : n + m ≤ maxLen) (hbytes : (n + m) * bytes ≤ 140737488355328) (hbase : base ≤ w.heap.size) :
    ∃ g cap w', (Builtin.append_ #[t, t] ty #[v, .slice (some a) m c]).run P w = .ok (.slice (some ⟨g, 0, none⟩) (n + m) cap) w' ∧ w'.ownsRow base e size (.slice (some ⟨g, 0, none⟩) (n + m) cap) (n + m) (xs ++ news) ∧ w.grownBy w' v.ownBlock ∧
      (v.ownBlock = some g ∨ g = w.heap.size) := by
  obtain ⟨v', w', hr, h2, h3, h4⟩ := run_append_own (P := P) w base t ty e i z size bytes ht hi hz hsize hby hzs hsz v n xs hown a m c news hl hnews h1 h63 hbytes hbase
  have hsmall : n + m ≤ 9223372036854775807 := by simp only [maxLen] at h63; omega
  have key : ∃ g cap, v' = .slice (some ⟨g, 0, none⟩) (n + m) cap ∧ (v.ownBlock = some g ∨ g = w.heap.size) := by
    subst hsize
    subst hby
    rcases hown.2 with ⟨rfl, rfl⟩ | ⟨g, cap, cur, rfl, hbg, hg, hnc, hcm, hcs, htake⟩
    · have hr' := run_append_nil (P := P) w t ty e i z ht hi hz a m c news hl hnews hm (by omega) (by have hb := hbytes; simp only [Nat.zero_add] at hb; omega)
      rw [hr] at hr'
      injection hr' with hv _
      exact ⟨w.heap.size, _, by rw [hv, Nat.zero_add], .inr rfl⟩
    · by_cases hroom : n + m ≤ cap
      · have hfit : n * i.size + news.length ≤ cur.size := by rw [hl, hcs, ← Nat.add_mul]; exact Nat.mul_le_mul_right _ hroom
        have hr' := run_append_room (P := P) w t ty e i ht hi g n cap cur hg a m c news hl hnews h1 hroom hfit
        rw [hr] at hr'
        injection hr' with hv _
        exact ⟨g, cap, hv, .inl rfl⟩
      · have holds : ∀ j u, xs[j]? = some u → w.cell? ((⟨g, 0, none⟩ : Addr).add j) = some u := hown.cells (g := g) rfl
        have hr' := run_append_grow (P := P) w t ty e i z ht hi hz ⟨g, 0, none⟩ n cap xs hown.1 holds a m c news hl hnews (by omega) (by omega) (growslice_fits (by omega) hbytes)
        rw [hr] at hr'
        injection hr' with hv _
        exact ⟨w.heap.size, _, hv, .inr rfl⟩
  obtain ⟨g, cap, rfl, ho⟩ := key
  exact ⟨g, cap, w', hr, h2, h3, ho⟩

theorem wpList_app {P : Program} (w : World) {ops : Array Oper} {rest : List Oper} {o : Oper} {a : Act} {Q : Exit → Act → World → Prop} (hgd : o.guard = none) (s x : Operand) (t : TypeId)
    (ho : o.op = .call { callee := .builtin .append, args := #[s, x], argTypes := #[t, t] })
    (base : Nat) (e : TypeId) (i : TypeInfo) (z : Value) (size bytes : Nat) (ht : P.underlying t = some (.slice e)) (hi : P.info? e = some i) (hz : i.zero = some z)
    (hsize : i.size = size) (hby : i.bytes = bytes) (hzs : z.cells.size = size) (hsz : 0 < size)
    (v : Value) (n : Nat) (xs : List Value) (hs : a.eval s = v) (hown : w.ownsRow base e size v n xs)
    (ad : Addr) (m c : Nat) (news : List Value) (hx : a.eval x = .slice (some ad) m c) (hl : news.length = m * size) (hnews : ∀ j u, news[j]? = some u → w.cell? (ad.add j) = some u) (h1 : ∀ u ∈ news, u.oneCell' = true) (hm : 0 < m)
    (h63 : n + m ≤ maxLen) (hbytes : (n + m) * bytes ≤ 140737488355328) (hbase : base ≤ w.heap.size)
    (h : ∀ g cap w', w'.ownsRow base e size (.slice (some ⟨g, 0, none⟩) (n + m) cap) (n + m) (xs ++ news) → w.grownBy w' v.ownBlock → (v.ownBlock = some g ∨ g = w.heap.size) → wpList P ops Q rest (a.put o.dst (.slice (some ⟨g, 0, none⟩) (n + m) cap)) w') : wpList P ops Q (o :: rest) a w := by
  refine wpList_plain hgd fun K hK => ?_
  obtain ⟨g, cap, w', hr, h2, h3, h4⟩ := run_app (P := P) w base t o.type e i z size bytes ht hi hz hsize hby hzs hsz v n xs hown ad m c news hl hnews h1 hm h63 hbytes hbase
  unfold Oper.wp execOp
  simp only [ho, resolve, invoke, builtin, Sem.run_bind, Sem.run_pure, Result.andThen_ok, List.map_toArray, List.map_cons, List.map_nil, hs, hx, hr]
  exact hK _ _ (h g cap w' h2 h3 h4)

/-- an append whose run is known -/
theorem wpList_ran {P : Program} (w : World) {ops : Array Oper} {rest : List Oper} {o : Oper} {a : Act} {Q : Exit → Act → World → Prop} (hgd : o.guard = none) (s x : Operand) (t : TypeId)
    (ho : o.op = .call { callee := .builtin .append, args := #[s, x], argTypes := #[t, t] }) (v y v' : Value) (w' : World) (hs : a.eval s = v) (hx : a.eval x = y)
    (hr : (Builtin.append_ #[t, t] o.type #[v, y]).run P w = .ok v' w') (h : wpList P ops Q rest (a.put o.dst v') w') : wpList P ops Q (o :: rest) a w := by
  refine wpList_plain hgd fun K hK => ?_
  unfold Oper.wp execOp
  simp only [ho, resolve, invoke, builtin, Sem.run_bind, Sem.run_pure, Result.andThen_ok, List.map_toArray, List.map_cons, List.map_nil, hs, hx, hr]
  exact hK _ _ h
theorem app_zero (ty : TypeId) (g : Nat) (ab : Option Addr) (cb : Nat) (w : World) : (Builtin.append_ #[23, 23] ty #[.slice (some ⟨g, 0, none⟩) 0 0, .slice ab 0 cb]).run Tryz.prog w = .ok (.slice (some ⟨g, 0, none⟩) 0 0) w := by
  cases ab <;> kernel_rfl

theorem Tryz.infoI : (Tryz.prog.info? 20).map (fun i => (i.zero, i.size, i.bytes)) = some (some .nilIface, 1, 16) := by kernel_rfl
theorem Tryz.infoF : (Tryz.prog.info? 67).map (fun i => (i.zero, i.size, i.bytes)) = some (some (.agg #[.string ByteArray.empty, .nilIface]), 2, 32) := by kernel_rfl
theorem Tryz.infoT : (Tryz.prog.info? 29).map (fun i => (i.zero, i.size, i.bytes)) = some (some (.agg (tcells 0 false 0 0 ByteArray.empty (.slice none 0 0) 0 (.slice none 0 0) (.slice none 0 0) ByteArray.empty 0)), 11, 152) := by kernel_rfl
theorem Tryz.infoB : (Tryz.prog.info? 5).map (fun i => (i.zero, i.size, i.bytes)) = some (some (.int .u8 0), 1, 1) := by kernel_rfl
theorem Tryz.undL : Tryz.prog.underlying 41 = some (.slice 20) := by kernel_rfl
theorem Tryz.undD : Tryz.prog.underlying 43 = some (.slice 67) := by kernel_rfl
theorem Tryz.undT : Tryz.prog.underlying 26 = some (.slice 29) := by kernel_rfl
theorem Tryz.undB : Tryz.prog.underlying 23 = some (.slice 5) := by kernel_rfl
end Go.Proofs.YtnndlffidifddaaGreatDoor

