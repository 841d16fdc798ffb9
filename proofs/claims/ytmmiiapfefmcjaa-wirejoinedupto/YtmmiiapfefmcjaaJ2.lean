/- How terms (arguments) and values (what an interface holds) lie in memory: predicates over a world, kept by whatever leaves the blocks below a number as they were. -/
import Derived.Test.YtmmiiapfefmcjaaJ1
import Derived.Test.YtmmiiapfefmcjaaProg
import Derived.WalkKit
import Derived.WalkSpells
import Derived.WalkLawsBesides
namespace Go.Proofs.Ytmmiiapfefmcjaa
open Go.RowKit

/-- bytes behind a slice's address -/
def BytesAt (w : World) (B : Nat → Prop) (a : Option Addr) (l : ByteArray) : Prop := ∀ j, j < l.size → ∃ g o, a = some ⟨g, o, none⟩ ∧ B g ∧ w.cell? ⟨g, o + j, none⟩ = some (.int .u8 (Sp.byte l j))

/-- a slice that is a whole row of a block of B, or none: all its room is there and can be written -/
def Ln (w : World) (B : Nat → Prop) (e : TypeId) (size : Nat) (a : Option Addr) (n cap : Nat) : Prop := n ≤ maxLen ∧ (∃ xs, w.ownsRow 0 e size (.slice a n cap) n xs) ∧ ∀ g o p, a = some ⟨g, o, p⟩ → B g

mutual
/-- v is the value of the term, in memory in the blocks of B -/
def Tm.V (w : World) (B : Nat → Prop) : Tm → Value → Prop
  | .mk k b i f tx by' rf l fs c vr, v =>
    (k = 1 → v = .nilIface) ∧ (k = 2 → v = .iface 4 (.bool b)) ∧ (k = 3 → v = .iface 2 (.int .i64 i)) ∧ (k = 4 → v = .iface 22 (.float .f64 f) ∧ f < 18446744073709551616) ∧
    (k = 5 → v = .iface 9 (.string tx) ∧ tx.size ≤ maxLen) ∧
    (k = 6 → ∃ a cap, v = .iface 23 (.slice a by'.size cap) ∧ Ln w B 5 1 a by'.size cap ∧ BytesAt w B a by') ∧
    (k = 7 → v = .iface 25 (.int .u64 rf)) ∧
    (k = 8 → ∃ a cap, v = .iface 70 (.slice a l.len cap) ∧ Ln w B 20 1 a l.len cap ∧ l.V w B a 0) ∧
    (k = 9 → ∃ a cap, v = .iface 72 (.slice a fs.len cap) ∧ Ln w B 109 2 a fs.len cap ∧ fs.V w B a 0) ∧
    (k = 10 → ∃ g a cap, v = .iface 74 (.pointer (some ⟨g, 0, none⟩)) ∧ B g ∧ w.cell? ⟨g, 0, none⟩ = some (.string c) ∧ w.cell? ⟨g, 1, none⟩ = some (.int .i64 vr) ∧ w.cell? ⟨g, 2, none⟩ = some (.slice a fs.len cap) ∧ (c.size ≤ maxLen ∧ ∃ cur, w.heap[g]? = some (.cells cur 76 (0, 0))) ∧ Ln w B 109 2 a fs.len cap ∧ fs.V w B a 0) ∧
    (k = 11 → v = .iface 74 (.pointer none)) ∧
    (k < 1 ∨ 11 < k → ∃ T x, v = .iface T x ∧ Alien T)
def TmL.V (w : World) (B : Nat → Prop) : TmL → Option Addr → Nat → Prop
  | .nil, _, _ => True
  | .cons t l, a, j => ∃ g o v, a = some ⟨g, o, none⟩ ∧ B g ∧ w.cell? ⟨g, o + j, none⟩ = some v ∧ t.V w B v ∧ l.V w B a (j + 1)
def TmF.V (w : World) (B : Nat → Prop) : TmF → Option Addr → Nat → Prop
  | .nil, _, _ => True
  | .cons n t l, a, j => ∃ g o v, a = some ⟨g, o, none⟩ ∧ B g ∧ w.cell? ⟨g, o + j * 2, none⟩ = some (.string n) ∧ w.cell? ⟨g, o + j * 2 + 1, none⟩ = some v ∧ n.size ≤ maxLen ∧ t.V w B v ∧ l.V w B a (j + 1)
end

/-- two worlds that hold the same in the blocks of B -/
def Same (B : Nat → Prop) (w w' : World) : Prop := ∀ k, B k → w'.heap[k]? = w.heap[k]?
/-- the blocks below b -/
def Lo (b : Nat) : Nat → Prop := fun k => k < b
theorem Lo.le {a b : Nat} (h : a ≤ b) : ∀ k, Lo a k → Lo b k := fun _ hk => Nat.lt_of_lt_of_le hk h
theorem Same.cell {B : Nat → Prop} {w w' : World} (h : Same B w w') {p : Addr} (hp : B p.block) : w'.cell? p = w.cell? p := World.cell?_of_block (w := w) (h p.block hp)
theorem Same.of_below {B B' : Nat} {w w' : World} (h : Below B' w w') (hB : B ≤ B') : Same (Lo B) w w' := fun k hk => h.block k (Nat.lt_of_lt_of_le hk hB)
theorem Same.refl (B : Nat → Prop) (w : World) : Same B w w := fun _ _ => rfl
theorem Same.mono {B B' : Nat → Prop} {w w' : World} (h : Same B w w') (hB : ∀ k, B' k → B k) : Same B' w w' := fun k hk => h k (hB k hk)
theorem Same.trans {B : Nat → Prop} {a b c : World} (h : Same B a b) (k : Same B b c) : Same B a c := fun i hi => (k i hi).trans (h i hi)

theorem BytesAt.same {w w' : World} {B B' : Nat → Prop} {a : Option Addr} {l : ByteArray} (h : BytesAt w B a l) (hs : Same B w w') (hB : ∀ k, B k → B' k) : BytesAt w' B' a l := by
  intro j hj
  obtain ⟨g, o, e, hg, hc⟩ := h j hj
  exact ⟨g, o, e, hB _ hg, by rw [hs.cell (p := ⟨g, o + j, none⟩) hg]; exact hc⟩

theorem Ln.same {w w' : World} {B B' : Nat → Prop} {e : TypeId} {size : Nat} {a : Option Addr} {n cap : Nat} (h : Ln w B e size a n cap) (hs : Same B w w') (hB : ∀ k, B k → B' k) : Ln w' B' e size a n cap := by
  obtain ⟨h1, ⟨xs, h2, h3⟩, h4⟩ := h
  refine ⟨h1, ⟨xs, h2, ?_⟩, fun g o p e => hB _ (h4 g o p e)⟩
  rcases h3 with h3 | ⟨g, cap', cur, e1, e2, e3, r⟩
  · exact .inl h3
  · refine .inr ⟨g, cap', cur, e1, e2, ?_, r⟩
    injection e1 with e1
    rw [hs g (h4 g 0 none e1)]; exact e3
theorem Ln.of {w : World} {B : Nat → Prop} {base : Nat} {e : TypeId} {size : Nat} {a : Option Addr} {n cap : Nat} {xs : List Value} (h : w.ownsRow base e size (.slice a n cap) n xs) (hB : ∀ g o p, a = some ⟨g, o, p⟩ → B g) : Ln w B e size a n cap := by
  obtain ⟨h2, h3⟩ := h
  refine ⟨?_, ⟨xs, h2, h3.imp id fun ⟨g, c, cur, e1, _, r⟩ => ⟨g, c, cur, e1, Nat.zero_le _, r⟩⟩, hB⟩
  rcases h3 with h3 | ⟨g, c, cur, e1, _, _, h5, h6, _⟩
  · rw [h3.2]; exact Nat.zero_le _
  · exact Nat.le_trans h5 h6
theorem Ln.row {w : World} {B : Nat → Prop} {e : TypeId} {size g n : Nat} (h : ∃ cur, w.heap[g]? = some (.cells cur e (0, 0)) ∧ cur.size = n * size) (hm : n ≤ maxLen) (hB : B g) : Ln w B e size (some ⟨g, 0, none⟩) n n := by
  obtain ⟨cur, h1, h2⟩ := h
  refine ⟨hm, ⟨cur.toList, by simpa using h2, .inr ⟨g, n, cur, rfl, Nat.zero_le _, h1, Nat.le_refl _, hm, h2, ?_⟩⟩, fun g' o p e => by injection e with e; injection e with e; subst e; exact hB⟩
  exact List.take_of_length_le (by rw [Array.length_toList, h2]; exact Nat.le_refl _)

mutual
theorem Tm.V_same {w w' : World} {B B' : Nat → Prop} (hs : Same B w w') (hB : ∀ k, B k → B' k) : (t : Tm) → ∀ v, t.V w B v → t.V w' B' v
  | .mk k b i f tx by' rf l fs c vr, v, h => by
    simp only [Tm.V] at h ⊢
    obtain ⟨h1, h2, h3, h4, h5, h6, h7, h8, h9, h10, h11, h12⟩ := h
    refine ⟨h1, h2, h3, h4, h5, ?_, h7, ?_, ?_, ?_, h11, h12⟩
    · intro hk; obtain ⟨a, cap, e, hm, hb⟩ := h6 hk; exact ⟨a, cap, e, hm.same hs hB, hb.same hs hB⟩
    · intro hk; obtain ⟨a, cap, e, hm, hb⟩ := h8 hk; exact ⟨a, cap, e, hm.same hs hB, TmL.V_same hs hB l _ _ hb⟩
    · intro hk; obtain ⟨a, cap, e, hm, hb⟩ := h9 hk; exact ⟨a, cap, e, hm.same hs hB, TmF.V_same hs hB fs _ _ hb⟩
    · intro hk
      obtain ⟨g, a, cap, e, hg, c0, c1, c2, hc, hm, hb⟩ := h10 hk
      refine ⟨g, a, cap, e, hB _ hg, ?_, ?_, ?_, ⟨hc.1, by rw [hs g hg]; exact hc.2⟩, hm.same hs hB, TmF.V_same hs hB fs _ _ hb⟩
      · rw [hs.cell (p := ⟨g, 0, none⟩) hg]; exact c0
      · rw [hs.cell (p := ⟨g, 1, none⟩) hg]; exact c1
      · rw [hs.cell (p := ⟨g, 2, none⟩) hg]; exact c2
theorem TmL.V_same {w w' : World} {B B' : Nat → Prop} (hs : Same B w w') (hB : ∀ k, B k → B' k) : (l : TmL) → ∀ a j, l.V w B a j → l.V w' B' a j
  | .nil, _, _, _ => by simp [TmL.V]
  | .cons t l, a, j, h => by
    simp only [TmL.V] at h ⊢
    obtain ⟨g, o, v, e, hg, hc, ht, hl⟩ := h
    exact ⟨g, o, v, e, hB _ hg, by rw [hs.cell (p := ⟨g, o + j, none⟩) hg]; exact hc, Tm.V_same hs hB t _ ht, TmL.V_same hs hB l _ _ hl⟩
theorem TmF.V_same {w w' : World} {B B' : Nat → Prop} (hs : Same B w w') (hB : ∀ k, B k → B' k) : (l : TmF) → ∀ a j, l.V w B a j → l.V w' B' a j
  | .nil, _, _, _ => by simp [TmF.V]
  | .cons n t l, a, j, h => by
    simp only [TmF.V] at h ⊢
    obtain ⟨g, o, v, e, hg, hc, hd, hn, ht, hl⟩ := h
    exact ⟨g, o, v, e, hB _ hg, by rw [hs.cell (p := ⟨g, o + j * 2, none⟩) hg]; exact hc, by rw [hs.cell (p := ⟨g, o + j * 2 + 1, none⟩) hg]; exact hd, hn, Tm.V_same hs hB t _ ht, TmF.V_same hs hB l _ _ hl⟩
end

/-- a list, or fields, in a row of their own -/
def TmL.LV (w : World) (B : Nat → Prop) (l : TmL) (a : Option Addr) (cap : Nat) : Prop := Ln w B 20 1 a l.len cap ∧ l.V w B a 0
def TmF.LV (w : World) (B : Nat → Prop) (l : TmF) (a : Option Addr) (cap : Nat) : Prop := Ln w B 109 2 a l.len cap ∧ l.V w B a 0
def BytesLV (w : World) (B : Nat → Prop) (a : Option Addr) (l : ByteArray) (cap : Nat) : Prop := Ln w B 5 1 a l.size cap ∧ BytesAt w B a l
theorem TmL.LV_same {w w' : World} {B B' : Nat → Prop} (hs : Same B w w') (hB : ∀ k, B k → B' k) (l : TmL) (a : Option Addr) (cap : Nat) (h : l.LV w B a cap) : l.LV w' B' a cap := ⟨h.1.same hs hB, l.V_same hs hB a 0 h.2⟩
theorem TmF.LV_same {w w' : World} {B B' : Nat → Prop} (hs : Same B w w') (hB : ∀ k, B k → B' k) (l : TmF) (a : Option Addr) (cap : Nat) (h : l.LV w B a cap) : l.LV w' B' a cap := ⟨h.1.same hs hB, l.V_same hs hB a 0 h.2⟩
theorem BytesLV.same {w w' : World} {B B' : Nat → Prop} {a : Option Addr} {l : ByteArray} {cap : Nat} (h : BytesLV w B a l cap) (hs : Same B w w') (hB : ∀ k, B k → B' k) : BytesLV w' B' a l cap := ⟨h.1.same hs hB, h.2.same hs hB⟩

def TmF.RV (w : World) (B : Nat → Prop) (l : TmF) (g : Nat) (a : Option Addr) (cap : Nat) : Prop := (∃ cur, w.heap[g]? = some (.cells cur 76 (0, 0))) ∧ l.LV w B a cap
section
variable {w : World} {B : Nat → Prop} {b : Bool} {i : Int} {f : Nat} {tx by' : ByteArray} {rf : Int} {l : TmL} {fs : TmF} {c : ByteArray} {vr : Int} {a : Option Addr} {cap : Nat}
theorem Tm.V_of6 (h : BytesLV w B a by' cap) : (Tm.mk 6 b i f tx by' rf l fs c vr).V w B (.iface 23 (.slice a by'.size cap)) := by
  simp only [Tm.V]
  exact ⟨fun h => absurd h (by decide), fun h => absurd h (by decide), fun h => absurd h (by decide), fun h => absurd h (by decide), fun h => absurd h (by decide), fun _ => ⟨_, _, rfl, h.1, h.2⟩, fun h => absurd h (by decide), fun h => absurd h (by decide), fun h => absurd h (by decide), fun h => absurd h (by decide), fun h => absurd h (by decide), fun h => absurd h (by decide)⟩
theorem Tm.V_of8 (h : l.LV w B a cap) : (Tm.mk 8 b i f tx by' rf l fs c vr).V w B (.iface 70 (.slice a l.len cap)) := by
  simp only [Tm.V]
  exact ⟨fun h => absurd h (by decide), fun h => absurd h (by decide), fun h => absurd h (by decide), fun h => absurd h (by decide), fun h => absurd h (by decide), fun h => absurd h (by decide), fun h => absurd h (by decide), fun _ => ⟨_, _, rfl, h.1, h.2⟩, fun h => absurd h (by decide), fun h => absurd h (by decide), fun h => absurd h (by decide), fun h => absurd h (by decide)⟩
theorem Tm.V_of9 (h : fs.LV w B a cap) : (Tm.mk 9 b i f tx by' rf l fs c vr).V w B (.iface 72 (.slice a fs.len cap)) := by
  simp only [Tm.V]
  exact ⟨fun h => absurd h (by decide), fun h => absurd h (by decide), fun h => absurd h (by decide), fun h => absurd h (by decide), fun h => absurd h (by decide), fun h => absurd h (by decide), fun h => absurd h (by decide), fun h => absurd h (by decide), fun _ => ⟨_, _, rfl, h.1, h.2⟩, fun h => absurd h (by decide), fun h => absurd h (by decide), fun h => absurd h (by decide)⟩
theorem Tm.V_of10 {g : Nat} (hg : B g) (c0 : w.cell? ⟨g, 0, none⟩ = some (.string c)) (c1 : w.cell? ⟨g, 1, none⟩ = some (.int .i64 vr)) (c2 : w.cell? ⟨g, 2, none⟩ = some (.slice a fs.len cap)) (hc : c.size ≤ maxLen) (h : fs.RV w B g a cap) :
    (Tm.mk 10 b i f tx by' rf l fs c vr).V w B (.iface 74 (.pointer (some ⟨g, 0, none⟩))) := by
  simp only [Tm.V]
  exact ⟨fun h => absurd h (by decide), fun h => absurd h (by decide), fun h => absurd h (by decide), fun h => absurd h (by decide), fun h => absurd h (by decide), fun h => absurd h (by decide), fun h => absurd h (by decide), fun h => absurd h (by decide), fun h => absurd h (by decide), fun _ => ⟨g, a, cap, rfl, hg, c0, c1, c2, ⟨hc, h.1⟩, h.2.1, h.2.2⟩, fun h => absurd h (by decide), fun h => absurd h (by decide)⟩
end

/-- a value is nil or a type with what it holds -/
theorem Tm.V_shape {w : World} {B : Nat → Prop} (t : Tm) (v : Value) (h : t.V w B v) : v = .nilIface ∨ ∃ T x, v = .iface T x := by
  cases t with
  | mk k b i f tx by' rf l fs c vr =>
    simp only [Tm.V] at h
    obtain ⟨h1, h2, h3, h4, h5, h6, h7, h8, h9, h10, h11, h12⟩ := h
    by_cases k1 : k = 1
    · exact .inl (h1 k1)
    right
    by_cases k2 : k = 2
    · exact ⟨_, _, h2 k2⟩
    by_cases k3 : k = 3
    · exact ⟨_, _, h3 k3⟩
    by_cases k4 : k = 4
    · exact ⟨_, _, (h4 k4).1⟩
    by_cases k5 : k = 5
    · exact ⟨_, _, (h5 k5).1⟩
    by_cases k6 : k = 6
    · obtain ⟨_, _, e, _⟩ := h6 k6; exact ⟨_, _, e⟩
    by_cases k7 : k = 7
    · exact ⟨_, _, h7 k7⟩
    by_cases k8 : k = 8
    · obtain ⟨_, _, e, _⟩ := h8 k8; exact ⟨_, _, e⟩
    by_cases k9 : k = 9
    · obtain ⟨_, _, e, _⟩ := h9 k9; exact ⟨_, _, e⟩
    by_cases k10 : k = 10
    · obtain ⟨_, _, _, e, _⟩ := h10 k10; exact ⟨_, _, e⟩
    by_cases k11 : k = 11
    · exact ⟨_, _, h11 k11⟩
    obtain ⟨T, x, e, _⟩ := h12 (by omega); exact ⟨T, x, e⟩

theorem sc_ne {w : World} {a b : Addr} {v : Value} (h : a ≠ b) : (w.setCell a v).cell? b = w.cell? b := World.cell?_setCell_other w a b v h
theorem sc_eq {w : World} {a : Addr} {u v : Value} (h : w.cell? a = some u) : (w.setCell a v).cell? a = some v := World.cell?_setCell_same w a v h

/-- the walk's two numbers lie in block b -/
def Wk (w : World) (b : Nat) (p d : Int) : Prop := w.cell? ⟨b, 0, none⟩ = some (.int .i64 p) ∧ w.cell? ⟨b, 1, none⟩ = some (.int .i64 d) ∧ w.frozen? ⟨b, 0, none⟩ = false ∧ w.frozen? ⟨b, 1, none⟩ = false
theorem Wk.lt {w : World} {b : Nat} {p d : Int} (h : Wk w b p d) : b < w.heap.size := World.block_lt_of_cell? _ _ h.1
theorem Wk.same {w w' : World} {B b : Nat} {p d : Int} (h : Wk w b p d) (hs : Same (Lo B) w w') (hb : b < B) : Wk w' b p d := by
  have hf : ∀ i, w'.frozen? ⟨b, i, none⟩ = w.frozen? ⟨b, i, none⟩ := fun i => World.frozen?_of_block (w := w) (hs b hb)
  obtain ⟨h0, h1, f0, f1⟩ := h
  exact ⟨by rw [hs.cell (p := ⟨b, 0, none⟩) hb]; exact h0, by rw [hs.cell (p := ⟨b, 1, none⟩) hb]; exact h1, by rw [hf]; exact f0, by rw [hf]; exact f1⟩
theorem Wk.set {w : World} {b : Nat} {p d : Int} (h : Wk w b p d) (p' d' : Int) : Wk ((w.setCell ⟨b, 0, none⟩ (.int .i64 p')).setCell ⟨b, 1, none⟩ (.int .i64 d')) b p' d' := by
  obtain ⟨h0, h1, f0, f1⟩ := h
  refine ⟨?_, ?_, by simpa using f0, by simpa using f1⟩
  · rw [sc_ne (by simp), sc_eq h0]
  · rw [sc_eq (u := .int .i64 d) (by rw [sc_ne (by simp)]; exact h1)]
end Go.Proofs.Ytmmiiapfefmcjaa

/- Contracts of the small functions of package value that only reckon, or write into the walk alone: isLetter, isDigit, lengthRule, enter. -/
namespace Go.Proofs.Ytmmiiapfefmcjaa
open Go.RowKit

set_option maxHeartbeats 400000 in
theorem isLetter_any (c : Int) (w : World) (_h0 : 0 ≤ c) (_h1 : c ≤ 255) :
    Calls Try.prog 122 #[.int .u8 c] w fun e w' => e = .returned (.bool (Sp.letter c)) ∧ w = w' := by
  by_cases ha : 97 ≤ c
  · by_cases hb : c ≤ 122
    · go_enter Try.func122, Try.ntmps122
      go_wp2
      go_ret
      exact ⟨by simp [Sp.letter, ha, hb], rfl⟩
    · go_enter Try.func122, Try.ntmps122
      go_wp2
      go_ret
      exact ⟨by simp [Sp.letter]; omega, rfl⟩
  · go_enter Try.func122, Try.ntmps122
    go_wp2
    go_ret
    exact ⟨by simp [Sp.letter]; omega, rfl⟩

set_option maxHeartbeats 400000 in
theorem isDigit_any (c : Int) (w : World) (_h0 : 0 ≤ c) (_h1 : c ≤ 255) :
    Calls Try.prog 127 #[.int .u8 c] w fun e w' => e = .returned (.bool (Sp.digit c)) ∧ w = w' := by
  by_cases ha : 48 ≤ c
  · by_cases hb : c ≤ 57
    · go_enter Try.func127, Try.ntmps127
      go_wp2
      go_ret
      exact ⟨by simp [Sp.digit, ha, hb], rfl⟩
    · go_enter Try.func127, Try.ntmps127
      go_wp2
      go_ret
      exact ⟨by simp [Sp.digit]; omega, rfl⟩
  · go_enter Try.func127, Try.ntmps127
    go_wp2
    go_ret
    exact ⟨by simp [Sp.digit]; omega, rfl⟩

set_option maxHeartbeats 400000 in
theorem lengthRule_any (n m : Int) (w : World) :
    Calls Try.prog 52 #[.int .i64 n, .int .i64 m] w fun e w' => e = .returned (.int .i64 (Sp.len n m)) ∧ w = w' := by
  by_cases h : m < n
  · go_enter Try.func52, Try.ntmps52
    go_wp2
    go_ret
    exact ⟨by rw [Sp.len, if_neg (by omega)]; rfl, rfl⟩
  · go_enter Try.func52, Try.ntmps52
    go_wp2
    go_ret
    exact ⟨by rw [Sp.len, if_pos (by omega)]; rfl, rfl⟩

theorem ret_int {k : IntKind} {a b : Int} (h : a = b) : Ending.returned (.int k a) = .returned (.int k b) := by rw [h]

set_option maxHeartbeats 400000 in
theorem enter_any (b : Nat) (p d k n : Int) (w : World) (h : Wk w b p d) (hp : 0 ≤ p) (hp' : p ≤ 100000) :
    Calls Try.prog 51 #[.pointer (some ⟨b, 0, none⟩), .int .i64 k, .int .i64 n] w fun e w' => e = .returned (.int .i64 (Sp.ent k p n)) ∧ (w.setCell ⟨b, 0, none⟩ (.int .i64 (p + 1))).setCell ⟨b, 1, none⟩ (.int .i64 (max d n)) = w' := by
  obtain ⟨h0, h1, f0, f1⟩ := h
  go_enter Try.func51, Try.ntmps51
  go_wp2
  all_goals
    go_ret
    refine ⟨?_, ?_⟩
    · refine ret_int ?_
      simp only [beq_iff_eq, beq_eq_false_iff_ne, ne_eq] at *
      unfold Sp.ent
      (repeat' split) <;> omega
    · have hm : max d n = if n ≤ d then d else n := by omega
      rw [hm]; split <;> first | rfl | omega

set_option maxRecDepth 100000 in
set_option maxHeartbeats 400000 in
theorem kindOf_alien (T : Nat) (x : Value) (w : World) (h : Alien T) :
    Calls Try.prog 60 #[.iface T x] w fun e w' => e = .returned (.int .i64 0) ∧ w = w' := by
  obtain ⟨h1, h2, h3, h4, h5, h6, h7, h8, h9⟩ := h
  go_enter Try.func60, Try.ntmps60
  go_wp2
  go_ret
  exact ⟨rfl, rfl⟩
set_option maxRecDepth 100000 in
set_option maxHeartbeats 400000 in
theorem kindOf_nil (w : World) :
    Calls Try.prog 60 #[.nilIface] w fun e w' => e = .returned (.int .i64 1) ∧ w = w' := by
  go_enter Try.func60, Try.ntmps60
  go_wp2
  go_ret
  exact ⟨rfl, rfl⟩
set_option maxRecDepth 100000 in
set_option maxHeartbeats 400000 in
theorem kindOf_bool (x : Value) (w : World) :
    Calls Try.prog 60 #[.iface 4 x] w fun e w' => e = .returned (.int .i64 2) ∧ w = w' := by
  go_enter Try.func60, Try.ntmps60
  go_wp2
  go_ret
  exact ⟨rfl, rfl⟩
set_option maxRecDepth 100000 in
set_option maxHeartbeats 400000 in
theorem kindOf_int (x : Value) (w : World) :
    Calls Try.prog 60 #[.iface 2 x] w fun e w' => e = .returned (.int .i64 3) ∧ w = w' := by
  go_enter Try.func60, Try.ntmps60
  go_wp2
  go_ret
  exact ⟨rfl, rfl⟩
set_option maxRecDepth 100000 in
set_option maxHeartbeats 400000 in
theorem kindOf_float (x : Value) (w : World) :
    Calls Try.prog 60 #[.iface 22 x] w fun e w' => e = .returned (.int .i64 4) ∧ w = w' := by
  go_enter Try.func60, Try.ntmps60
  go_wp2
  go_ret
  exact ⟨rfl, rfl⟩
set_option maxRecDepth 100000 in
set_option maxHeartbeats 400000 in
theorem kindOf_text (x : Value) (w : World) :
    Calls Try.prog 60 #[.iface 9 x] w fun e w' => e = .returned (.int .i64 5) ∧ w = w' := by
  go_enter Try.func60, Try.ntmps60
  go_wp2
  go_ret
  exact ⟨rfl, rfl⟩
set_option maxRecDepth 100000 in
set_option maxHeartbeats 400000 in
theorem kindOf_bytes (x : Value) (w : World) :
    Calls Try.prog 60 #[.iface 23 x] w fun e w' => e = .returned (.int .i64 6) ∧ w = w' := by
  go_enter Try.func60, Try.ntmps60
  go_wp2
  go_ret
  exact ⟨rfl, rfl⟩
set_option maxRecDepth 100000 in
set_option maxHeartbeats 400000 in
theorem kindOf_ref (x : Value) (w : World) :
    Calls Try.prog 60 #[.iface 25 x] w fun e w' => e = .returned (.int .i64 7) ∧ w = w' := by
  go_enter Try.func60, Try.ntmps60
  go_wp2
  go_ret
  exact ⟨rfl, rfl⟩
set_option maxRecDepth 100000 in
set_option maxHeartbeats 400000 in
theorem kindOf_list (x : Value) (w : World) :
    Calls Try.prog 60 #[.iface 70 x] w fun e w' => e = .returned (.int .i64 8) ∧ w = w' := by
  go_enter Try.func60, Try.ntmps60
  go_wp2
  go_ret
  exact ⟨rfl, rfl⟩
set_option maxRecDepth 100000 in
set_option maxHeartbeats 400000 in
theorem kindOf_dict (x : Value) (w : World) :
    Calls Try.prog 60 #[.iface 72 x] w fun e w' => e = .returned (.int .i64 9) ∧ w = w' := by
  go_enter Try.func60, Try.ntmps60
  go_wp2
  go_ret
  exact ⟨rfl, rfl⟩
set_option maxRecDepth 100000 in
set_option maxHeartbeats 400000 in
theorem kindOf_rec (a : Addr) (w : World) :
    Calls Try.prog 60 #[.iface 74 (.pointer (some a))] w fun e w' => e = .returned (.int .i64 10) ∧ w = w' := by
  go_enter Try.func60, Try.ntmps60
  go_wp2
  go_ret
  exact ⟨rfl, rfl⟩
set_option maxRecDepth 100000 in
set_option maxHeartbeats 400000 in
theorem kindOf_nothing (w : World) :
    Calls Try.prog 60 #[.iface 74 (.pointer none)] w fun e w' => e = .returned (.int .i64 11) ∧ w = w' := by
  go_enter Try.func60, Try.ntmps60
  go_wp2
  go_ret
  exact ⟨rfl, rfl⟩
end Go.Proofs.Ytmmiiapfefmcjaa

