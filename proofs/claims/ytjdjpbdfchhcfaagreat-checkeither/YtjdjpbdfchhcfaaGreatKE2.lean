/- Closed facts on the types of this translation, and what a type assertion gives at them. -/
import Derived.Test.YtjdjpbdfchhcfaaGreatProg
import Derived.Test.YtjdjpbdfchhcfaaGreatKE1
import Derived.WalkKit
import Derived.WalkSpells
import Derived.WalkLawsBesides
namespace Go.Proofs.YtjdjpbdfchhcfaaGreat
open Go.RowKit

theorem ta_of (P : Program) {A : TypeId} {d : TypeDesc} {z : Value} (hd : P.underlying A = some d) (hi : ∀ m, d ≠ .interface m) (T xT : TypeId) (v : Value) (w : World) (hz : (zeroValue A).run P w = .ok z w) :
    (Instr.typeAssert (.iface T v) xT A true).run P w = .ok (if T = A then .tuple #[v, .bool true] else .tuple #[z, .bool false]) w := by
  by_cases h : T = A
  · cases d <;> simp_all [Instr.typeAssert, run_underlying hd, go_sem, Result.andThen]
  · cases d <;> simp_all [Instr.typeAssert, run_underlying hd, go_sem, Result.andThen]
@[go_sem] theorem ta_bool (T : TypeId) (v : Value) (w : World) : (Instr.typeAssert (.iface T v) 20 4 true).run Tryz.prog w = .ok (if T = 4 then .tuple #[v, .bool true] else .tuple #[.bool false, .bool false]) w :=
  ta_of Tryz.prog (d := .bool) (by kernel_rfl) (by simp) T _ v w (by kernel_rfl)
@[go_sem] theorem tn_bool (w : World) : (Instr.typeAssert .nilIface 20 4 true).run Tryz.prog w = .ok (.tuple #[.bool false, .bool false]) w := by kernel_rfl
@[go_sem] theorem ta_int64 (T : TypeId) (v : Value) (w : World) : (Instr.typeAssert (.iface T v) 20 2 true).run Tryz.prog w = .ok (if T = 2 then .tuple #[v, .bool true] else .tuple #[.int .i64 0, .bool false]) w :=
  ta_of Tryz.prog (d := .int .i64) (by kernel_rfl) (by simp) T _ v w (by kernel_rfl)
@[go_sem] theorem tn_int64 (w : World) : (Instr.typeAssert .nilIface 20 2 true).run Tryz.prog w = .ok (.tuple #[.int .i64 0, .bool false]) w := by kernel_rfl
@[go_sem] theorem ta_float (T : TypeId) (v : Value) (w : World) : (Instr.typeAssert (.iface T v) 20 22 true).run Tryz.prog w = .ok (if T = 22 then .tuple #[v, .bool true] else .tuple #[.float .f64 0, .bool false]) w :=
  ta_of Tryz.prog (d := .float .f64) (by kernel_rfl) (by simp) T _ v w (by kernel_rfl)
@[go_sem] theorem tn_float (w : World) : (Instr.typeAssert .nilIface 20 22 true).run Tryz.prog w = .ok (.tuple #[.float .f64 0, .bool false]) w := by kernel_rfl
@[go_sem] theorem ta_string (T : TypeId) (v : Value) (w : World) : (Instr.typeAssert (.iface T v) 20 9 true).run Tryz.prog w = .ok (if T = 9 then .tuple #[v, .bool true] else .tuple #[.string ByteArray.empty, .bool false]) w :=
  ta_of Tryz.prog (d := .string) (by kernel_rfl) (by simp) T _ v w (by kernel_rfl)
@[go_sem] theorem tn_string (w : World) : (Instr.typeAssert .nilIface 20 9 true).run Tryz.prog w = .ok (.tuple #[.string ByteArray.empty, .bool false]) w := by kernel_rfl
@[go_sem] theorem ta_bytes (T : TypeId) (v : Value) (w : World) : (Instr.typeAssert (.iface T v) 20 23 true).run Tryz.prog w = .ok (if T = 23 then .tuple #[v, .bool true] else .tuple #[.slice none 0 0, .bool false]) w :=
  ta_of Tryz.prog (d := .slice 5) (by kernel_rfl) (by simp) T _ v w (by kernel_rfl)
@[go_sem] theorem tn_bytes (w : World) : (Instr.typeAssert .nilIface 20 23 true).run Tryz.prog w = .ok (.tuple #[.slice none 0 0, .bool false]) w := by kernel_rfl
@[go_sem] theorem ta_ref (T : TypeId) (v : Value) (w : World) : (Instr.typeAssert (.iface T v) 20 25 true).run Tryz.prog w = .ok (if T = 25 then .tuple #[v, .bool true] else .tuple #[.int .u64 0, .bool false]) w :=
  ta_of Tryz.prog (d := .int .u64) (by kernel_rfl) (by simp) T _ v w (by kernel_rfl)
@[go_sem] theorem tn_ref (w : World) : (Instr.typeAssert .nilIface 20 25 true).run Tryz.prog w = .ok (.tuple #[.int .u64 0, .bool false]) w := by kernel_rfl
@[go_sem] theorem ta_list (T : TypeId) (v : Value) (w : World) : (Instr.typeAssert (.iface T v) 20 71 true).run Tryz.prog w = .ok (if T = 71 then .tuple #[v, .bool true] else .tuple #[.slice none 0 0, .bool false]) w :=
  ta_of Tryz.prog (d := .slice 20) (by kernel_rfl) (by simp) T _ v w (by kernel_rfl)
@[go_sem] theorem tn_list (w : World) : (Instr.typeAssert .nilIface 20 71 true).run Tryz.prog w = .ok (.tuple #[.slice none 0 0, .bool false]) w := by kernel_rfl
@[go_sem] theorem ta_dict (T : TypeId) (v : Value) (w : World) : (Instr.typeAssert (.iface T v) 20 73 true).run Tryz.prog w = .ok (if T = 73 then .tuple #[v, .bool true] else .tuple #[.slice none 0 0, .bool false]) w :=
  ta_of Tryz.prog (d := .slice 126) (by kernel_rfl) (by simp) T _ v w (by kernel_rfl)
@[go_sem] theorem tn_dict (w : World) : (Instr.typeAssert .nilIface 20 73 true).run Tryz.prog w = .ok (.tuple #[.slice none 0 0, .bool false]) w := by kernel_rfl
@[go_sem] theorem ta_rec (T : TypeId) (v : Value) (w : World) : (Instr.typeAssert (.iface T v) 20 75 true).run Tryz.prog w = .ok (if T = 75 then .tuple #[v, .bool true] else .tuple #[.pointer none, .bool false]) w :=
  ta_of Tryz.prog (d := .pointer 77) (by kernel_rfl) (by simp) T _ v w (by kernel_rfl)
@[go_sem] theorem tn_rec (w : World) : (Instr.typeAssert .nilIface 20 75 true).run Tryz.prog w = .ok (.tuple #[.pointer none, .bool false]) w := by kernel_rfl
@[go_sem] theorem tb_bool (v : Value) (w : World) : (Instr.typeAssert (.iface 4 v) 20 4 false).run Tryz.prog w = .ok v w := by kernel_rfl
@[go_sem] theorem tb_int64 (v : Value) (w : World) : (Instr.typeAssert (.iface 2 v) 20 2 false).run Tryz.prog w = .ok v w := by kernel_rfl
@[go_sem] theorem tb_float (v : Value) (w : World) : (Instr.typeAssert (.iface 22 v) 20 22 false).run Tryz.prog w = .ok v w := by kernel_rfl
@[go_sem] theorem tb_string (v : Value) (w : World) : (Instr.typeAssert (.iface 9 v) 20 9 false).run Tryz.prog w = .ok v w := by kernel_rfl
@[go_sem] theorem tb_bytes (v : Value) (w : World) : (Instr.typeAssert (.iface 23 v) 20 23 false).run Tryz.prog w = .ok v w := by kernel_rfl
@[go_sem] theorem tb_ref (v : Value) (w : World) : (Instr.typeAssert (.iface 25 v) 20 25 false).run Tryz.prog w = .ok v w := by kernel_rfl
@[go_sem] theorem tb_list (v : Value) (w : World) : (Instr.typeAssert (.iface 71 v) 20 71 false).run Tryz.prog w = .ok v w := by kernel_rfl
@[go_sem] theorem tb_dict (v : Value) (w : World) : (Instr.typeAssert (.iface 73 v) 20 73 false).run Tryz.prog w = .ok v w := by kernel_rfl
@[go_sem] theorem tb_rec (v : Value) (w : World) : (Instr.typeAssert (.iface 75 v) 20 75 false).run Tryz.prog w = .ok v w := by kernel_rfl

def Alien (T : Nat) : Prop := T ≠ 4 ∧ T ≠ 2 ∧ T ≠ 22 ∧ T ≠ 9 ∧ T ≠ 23 ∧ T ≠ 25 ∧ T ≠ 71 ∧ T ≠ 73 ∧ T ≠ 75
end Go.Proofs.YtjdjpbdfchhcfaaGreat

/- How terms (arguments) and values (what an interface holds) lie in memory: predicates over a world, kept by whatever leaves the blocks below a number as they were. -/
namespace Go.Proofs.YtjdjpbdfchhcfaaGreat
open Go.RowKit

def BytesAt (w : World) (B : Nat → Prop) (a : Option Addr) (l : ByteArray) : Prop := ∀ j, j < l.size → ∃ g o, a = some ⟨g, o, none⟩ ∧ B g ∧ w.cell? ⟨g, o + j, none⟩ = some (.int .u8 (Sp.byte l j))

def Ln (w : World) (B : Nat → Prop) (e : TypeId) (size : Nat) (a : Option Addr) (n cap : Nat) : Prop := n ≤ maxLen ∧ (∃ xs, w.ownsRow 0 e size (.slice a n cap) n xs) ∧ ∀ g o p, a = some ⟨g, o, p⟩ → B g

mutual
def Tm.V (w : World) (B : Nat → Prop) : Tm → Value → Prop
  | .mk k b i f tx by' rf l fs c vr, v =>
    (k = 1 → v = .nilIface) ∧ (k = 2 → v = .iface 4 (.bool b)) ∧ (k = 3 → v = .iface 2 (.int .i64 i)) ∧ (k = 4 → v = .iface 22 (.float .f64 f) ∧ f < 18446744073709551616) ∧
    (k = 5 → v = .iface 9 (.string tx) ∧ tx.size ≤ maxLen) ∧
    (k = 6 → ∃ a cap, v = .iface 23 (.slice a by'.size cap) ∧ Ln w B 5 1 a by'.size cap ∧ BytesAt w B a by') ∧
    (k = 7 → v = .iface 25 (.int .u64 rf)) ∧
    (k = 8 → ∃ a cap, v = .iface 71 (.slice a l.len cap) ∧ Ln w B 20 1 a l.len cap ∧ l.V w B a 0) ∧
    (k = 9 → ∃ a cap, v = .iface 73 (.slice a fs.len cap) ∧ Ln w B 126 2 a fs.len cap ∧ fs.V w B a 0) ∧
    (k = 10 → ∃ g a cap, v = .iface 75 (.pointer (some ⟨g, 0, none⟩)) ∧ B g ∧ w.cell? ⟨g, 0, none⟩ = some (.string c) ∧ w.cell? ⟨g, 1, none⟩ = some (.int .i64 vr) ∧ w.cell? ⟨g, 2, none⟩ = some (.slice a fs.len cap) ∧ (c.size ≤ maxLen ∧ ∃ cur, w.heap[g]? = some (.cells cur 77 (0, 0))) ∧ Ln w B 126 2 a fs.len cap ∧ fs.V w B a 0) ∧
    (k = 11 → v = .iface 75 (.pointer none)) ∧
    (k < 1 ∨ 11 < k → ∃ T x, v = .iface T x ∧ Alien T)
def TmL.V (w : World) (B : Nat → Prop) : TmL → Option Addr → Nat → Prop
  | .nil, _, _ => True
  | .cons t l, a, j => ∃ g o v, a = some ⟨g, o, none⟩ ∧ B g ∧ w.cell? ⟨g, o + j, none⟩ = some v ∧ t.V w B v ∧ l.V w B a (j + 1)
def TmF.V (w : World) (B : Nat → Prop) : TmF → Option Addr → Nat → Prop
  | .nil, _, _ => True
  | .cons n t l, a, j => ∃ g o v, a = some ⟨g, o, none⟩ ∧ B g ∧ w.cell? ⟨g, o + j * 2, none⟩ = some (.string n) ∧ w.cell? ⟨g, o + j * 2 + 1, none⟩ = some v ∧ n.size ≤ maxLen ∧ t.V w B v ∧ l.V w B a (j + 1)
end

def Same (B : Nat → Prop) (w w' : World) : Prop := ∀ k, B k → w'.heap[k]? = w.heap[k]?
def Lo (b : Nat) : Nat → Prop := fun k => k < b
theorem Lo.le {a b : Nat} (h : a ≤ b) : ∀ k, Lo a k → Lo b k := fun _ hk => Nat.lt_of_lt_of_le hk h
theorem Same.cell {B : Nat → Prop} {w w' : World} (h : Same B w w') {p : Addr} (hp : B p.block) : w'.cell? p = w.cell? p := World.cell?_of_block (w := w) (h p.block hp)
theorem Same.of_below {B B' : Nat} {w w' : World} (h : Below B' w w') (hB : B ≤ B') : Same (Lo B) w w' := fun k hk => h.block k (Nat.lt_of_lt_of_le hk hB)
theorem Same.refl (B : Nat → Prop) (w : World) : Same B w w := fun _ _ => rfl
theorem Same.trans {B : Nat → Prop} {a b c : World} (h : Same B a b) (k : Same B b c) : Same B a c := fun i hi => (k i hi).trans (h i hi)

theorem BytesAt.same {w w' : World} {B B' : Nat → Prop} {a : Option Addr} {l : ByteArray} (h : BytesAt w B a l) (hs : Same B w w') (hB : ∀ k, B k → B' k) : BytesAt w' B' a l := by
  intro j hj
  obtain ⟨g, o, e, hg, hc⟩ := h j hj
  exact ⟨g, o, e, hB _ hg, by rw [hs.cell (p := ⟨g, o + j, none⟩) hg]; exact hc⟩

theorem Ln.same {w w' : World} {B B' : Nat → Prop} {e : TypeId} {size : Nat} {a : Option Addr} {n cap : Nat} (h : Ln w B e size a n cap) (hs : Same B w w') (hB : ∀ k, B k → B' k) : Ln w' B' e size a n cap := by
  obtain ⟨h1, ⟨xs, h2, h3⟩, h4⟩ := h
  refine ⟨h1, ⟨xs, h2, ?_⟩, fun g o p e => hB _ (h4 g o p e)⟩
  rcases h3 with h3 | ⟨g, cap', cur, e1, e2, e3, r⟩
  · exact .inl h3
  · refine .inr ⟨g, cap', cur, e1, e2, ?_, r⟩
    injection e1 with e1
    rw [hs g (h4 g 0 none e1)]; exact e3
theorem Ln.of {w : World} {B : Nat → Prop} {base : Nat} {e : TypeId} {size : Nat} {a : Option Addr} {n cap : Nat} {xs : List Value} (h : w.ownsRow base e size (.slice a n cap) n xs) (hB : ∀ g o p, a = some ⟨g, o, p⟩ → B g) : Ln w B e size a n cap := by
  obtain ⟨h2, h3⟩ := h
  refine ⟨?_, ⟨xs, h2, h3.imp id fun ⟨g, c, cur, e1, _, r⟩ => ⟨g, c, cur, e1, Nat.zero_le _, r⟩⟩, hB⟩
  rcases h3 with h3 | ⟨g, c, cur, e1, _, _, h5, h6, _⟩
  · rw [h3.2]; exact Nat.zero_le _
  · exact Nat.le_trans h5 h6
theorem Ln.row {w : World} {B : Nat → Prop} {e : TypeId} {size g n : Nat} (h : ∃ cur, w.heap[g]? = some (.cells cur e (0, 0)) ∧ cur.size = n * size) (hm : n ≤ maxLen) (hB : B g) : Ln w B e size (some ⟨g, 0, none⟩) n n := by
  obtain ⟨cur, h1, h2⟩ := h
  refine ⟨hm, ⟨cur.toList, by simpa using h2, .inr ⟨g, n, cur, rfl, Nat.zero_le _, h1, Nat.le_refl _, hm, h2, ?_⟩⟩, fun g' o p e => by injection e with e; injection e with e; subst e; exact hB⟩
  exact List.take_of_length_le (by rw [Array.length_toList, h2]; exact Nat.le_refl _)

mutual
theorem Tm.V_same {w w' : World} {B B' : Nat → Prop} (hs : Same B w w') (hB : ∀ k, B k → B' k) : (t : Tm) → ∀ v, t.V w B v → t.V w' B' v
  | .mk k b i f tx by' rf l fs c vr, v, h => by
    simp only [Tm.V] at h ⊢
    obtain ⟨h1, h2, h3, h4, h5, h6, h7, h8, h9, h10, h11, h12⟩ := h
    refine ⟨h1, h2, h3, h4, h5, ?_, h7, ?_, ?_, ?_, h11, h12⟩
    · intro hk; obtain ⟨a, cap, e, hm, hb⟩ := h6 hk; exact ⟨a, cap, e, hm.same hs hB, hb.same hs hB⟩
    · intro hk; obtain ⟨a, cap, e, hm, hb⟩ := h8 hk; exact ⟨a, cap, e, hm.same hs hB, TmL.V_same hs hB l _ _ hb⟩
    · intro hk; obtain ⟨a, cap, e, hm, hb⟩ := h9 hk; exact ⟨a, cap, e, hm.same hs hB, TmF.V_same hs hB fs _ _ hb⟩
    · intro hk
      obtain ⟨g, a, cap, e, hg, c0, c1, c2, hc, hm, hb⟩ := h10 hk
      refine ⟨g, a, cap, e, hB _ hg, ?_, ?_, ?_, ⟨hc.1, by rw [hs g hg]; exact hc.2⟩, hm.same hs hB, TmF.V_same hs hB fs _ _ hb⟩
      · rw [hs.cell (p := ⟨g, 0, none⟩) hg]; exact c0
      · rw [hs.cell (p := ⟨g, 1, none⟩) hg]; exact c1
      · rw [hs.cell (p := ⟨g, 2, none⟩) hg]; exact c2
theorem TmL.V_same {w w' : World} {B B' : Nat → Prop} (hs : Same B w w') (hB : ∀ k, B k → B' k) : (l : TmL) → ∀ a j, l.V w B a j → l.V w' B' a j
  | .nil, _, _, _ => by simp [TmL.V]
  | .cons t l, a, j, h => by
    simp only [TmL.V] at h ⊢
    obtain ⟨g, o, v, e, hg, hc, ht, hl⟩ := h
    exact ⟨g, o, v, e, hB _ hg, by rw [hs.cell (p := ⟨g, o + j, none⟩) hg]; exact hc, Tm.V_same hs hB t _ ht, TmL.V_same hs hB l _ _ hl⟩
theorem TmF.V_same {w w' : World} {B B' : Nat → Prop} (hs : Same B w w') (hB : ∀ k, B k → B' k) : (l : TmF) → ∀ a j, l.V w B a j → l.V w' B' a j
  | .nil, _, _, _ => by simp [TmF.V]
  | .cons n t l, a, j, h => by
    simp only [TmF.V] at h ⊢
    obtain ⟨g, o, v, e, hg, hc, hd, hn, ht, hl⟩ := h
    exact ⟨g, o, v, e, hB _ hg, by rw [hs.cell (p := ⟨g, o + j * 2, none⟩) hg]; exact hc, by rw [hs.cell (p := ⟨g, o + j * 2 + 1, none⟩) hg]; exact hd, hn, Tm.V_same hs hB t _ ht, TmF.V_same hs hB l _ _ hl⟩
end

def TmL.LV (w : World) (B : Nat → Prop) (l : TmL) (a : Option Addr) (cap : Nat) : Prop := Ln w B 20 1 a l.len cap ∧ l.V w B a 0
def TmF.LV (w : World) (B : Nat → Prop) (l : TmF) (a : Option Addr) (cap : Nat) : Prop := Ln w B 126 2 a l.len cap ∧ l.V w B a 0
def BytesLV (w : World) (B : Nat → Prop) (a : Option Addr) (l : ByteArray) (cap : Nat) : Prop := Ln w B 5 1 a l.size cap ∧ BytesAt w B a l
theorem TmF.LV_same {w w' : World} {B B' : Nat → Prop} (hs : Same B w w') (hB : ∀ k, B k → B' k) (l : TmF) (a : Option Addr) (cap : Nat) (h : l.LV w B a cap) : l.LV w' B' a cap := ⟨h.1.same hs hB, l.V_same hs hB a 0 h.2⟩
theorem BytesLV.same {w w' : World} {B B' : Nat → Prop} {a : Option Addr} {l : ByteArray} {cap : Nat} (h : BytesLV w B a l cap) (hs : Same B w w') (hB : ∀ k, B k → B' k) : BytesLV w' B' a l cap := ⟨h.1.same hs hB, h.2.same hs hB⟩

def TmF.RV (w : World) (B : Nat → Prop) (l : TmF) (g : Nat) (a : Option Addr) (cap : Nat) : Prop := (∃ cur, w.heap[g]? = some (.cells cur 77 (0, 0))) ∧ l.LV w B a cap
section
variable {w : World} {B : Nat → Prop} {b : Bool} {i : Int} {f : Nat} {tx by' : ByteArray} {rf : Int} {l : TmL} {fs : TmF} {c : ByteArray} {vr : Int} {a : Option Addr} {cap : Nat}
theorem Tm.V_of6 (h : BytesLV w B a by' cap) : (Tm.mk 6 b i f tx by' rf l fs c vr).V w B (.iface 23 (.slice a by'.size cap)) := by
  simp only [Tm.V]
  exact ⟨fun h => absurd h (by decide), fun h => absurd h (by decide), fun h => absurd h (by decide), fun h => absurd h (by decide), fun h => absurd h (by decide), fun _ => ⟨_, _, rfl, h.1, h.2⟩, fun h => absurd h (by decide), fun h => absurd h (by decide), fun h => absurd h (by decide), fun h => absurd h (by decide), fun h => absurd h (by decide), fun h => absurd h (by decide)⟩
theorem Tm.V_of8 (h : l.LV w B a cap) : (Tm.mk 8 b i f tx by' rf l fs c vr).V w B (.iface 71 (.slice a l.len cap)) := by
  simp only [Tm.V]
  exact ⟨fun h => absurd h (by decide), fun h => absurd h (by decide), fun h => absurd h (by decide), fun h => absurd h (by decide), fun h => absurd h (by decide), fun h => absurd h (by decide), fun h => absurd h (by decide), fun _ => ⟨_, _, rfl, h.1, h.2⟩, fun h => absurd h (by decide), fun h => absurd h (by decide), fun h => absurd h (by decide), fun h => absurd h (by decide)⟩
theorem Tm.V_of9 (h : fs.LV w B a cap) : (Tm.mk 9 b i f tx by' rf l fs c vr).V w B (.iface 73 (.slice a fs.len cap)) := by
  simp only [Tm.V]
  exact ⟨fun h => absurd h (by decide), fun h => absurd h (by decide), fun h => absurd h (by decide), fun h => absurd h (by decide), fun h => absurd h (by decide), fun h => absurd h (by decide), fun h => absurd h (by decide), fun h => absurd h (by decide), fun _ => ⟨_, _, rfl, h.1, h.2⟩, fun h => absurd h (by decide), fun h => absurd h (by decide), fun h => absurd h (by decide)⟩
theorem Tm.V_of10 {g : Nat} (hg : B g) (c0 : w.cell? ⟨g, 0, none⟩ = some (.string c)) (c1 : w.cell? ⟨g, 1, none⟩ = some (.int .i64 vr)) (c2 : w.cell? ⟨g, 2, none⟩ = some (.slice a fs.len cap)) (hc : c.size ≤ maxLen) (h : fs.RV w B g a cap) :
    (Tm.mk 10 b i f tx by' rf l fs c vr).V w B (.iface 75 (.pointer (some ⟨g, 0, none⟩))) := by
  simp only [Tm.V]
  exact ⟨fun h => absurd h (by decide), fun h => absurd h (by decide), fun h => absurd h (by decide), fun h => absurd h (by decide), fun h => absurd h (by decide), fun h => absurd h (by decide), fun h => absurd h (by decide), fun h => absurd h (by decide), fun h => absurd h (by decide), fun _ => ⟨g, a, cap, rfl, hg, c0, c1, c2, ⟨hc, h.1⟩, h.2.1, h.2.2⟩, fun h => absurd h (by decide), fun h => absurd h (by decide)⟩
end

theorem Tm.V_shape {w : World} {B : Nat → Prop} (t : Tm) (v : Value) (h : t.V w B v) : v = .nilIface ∨ ∃ T x, v = .iface T x := by
  cases t with
  | mk k b i f tx by' rf l fs c vr =>
    simp only [Tm.V] at h
    obtain ⟨h1, h2, h3, h4, h5, h6, h7, h8, h9, h10, h11, h12⟩ := h
    by_cases k1 : k = 1
    · exact .inl (h1 k1)
    right
    by_cases k2 : k = 2
    · exact ⟨_, _, h2 k2⟩
    by_cases k3 : k = 3
    · exact ⟨_, _, h3 k3⟩
    by_cases k4 : k = 4
    · exact ⟨_, _, (h4 k4).1⟩
    by_cases k5 : k = 5
    · exact ⟨_, _, (h5 k5).1⟩
    by_cases k6 : k = 6
    · obtain ⟨_, _, e, _⟩ := h6 k6; exact ⟨_, _, e⟩
    by_cases k7 : k = 7
    · exact ⟨_, _, h7 k7⟩
    by_cases k8 : k = 8
    · obtain ⟨_, _, e, _⟩ := h8 k8; exact ⟨_, _, e⟩
    by_cases k9 : k = 9
    · obtain ⟨_, _, e, _⟩ := h9 k9; exact ⟨_, _, e⟩
    by_cases k10 : k = 10
    · obtain ⟨_, _, _, e, _⟩ := h10 k10; exact ⟨_, _, e⟩
    by_cases k11 : k = 11
    · exact ⟨_, _, h11 k11⟩
    obtain ⟨T, x, e, _⟩ := h12 (by omega); exact ⟨T, x, e⟩

theorem sc_ne {w : World} {a b : Addr} {v : Value} (h : a ≠ b) : (w.setCell a v).cell? b = w.cell? b := World.cell?_setCell_other w a b v h
theorem sc_eq {w : World} {a : Addr} {u v : Value} (h : w.cell? a = some u) : (w.setCell a v).cell? a = some v := World.cell?_setCell_same w a v h

def Wk (w : World) (b : Nat) (p d : Int) : Prop := w.cell? ⟨b, 0, none⟩ = some (.int .i64 p) ∧ w.cell? ⟨b, 1, none⟩ = some (.int .i64 d) ∧ w.frozen? ⟨b, 0, none⟩ = false ∧ w.frozen? ⟨b, 1, none⟩ = false
theorem Wk.lt {w : World} {b : Nat} {p d : Int} (h : Wk w b p d) : b < w.heap.size := World.block_lt_of_cell? _ _ h.1
theorem Wk.same {w w' : World} {B b : Nat} {p d : Int} (h : Wk w b p d) (hs : Same (Lo B) w w') (hb : b < B) : Wk w' b p d := by
  have hf : ∀ i, w'.frozen? ⟨b, i, none⟩ = w.frozen? ⟨b, i, none⟩ := fun i => World.frozen?_of_block (w := w) (hs b hb)
  obtain ⟨h0, h1, f0, f1⟩ := h
  exact ⟨by rw [hs.cell (p := ⟨b, 0, none⟩) hb]; exact h0, by rw [hs.cell (p := ⟨b, 1, none⟩) hb]; exact h1, by rw [hf]; exact f0, by rw [hf]; exact f1⟩
theorem Wk.set {w : World} {b : Nat} {p d : Int} (h : Wk w b p d) (p' d' : Int) : Wk ((w.setCell ⟨b, 0, none⟩ (.int .i64 p')).setCell ⟨b, 1, none⟩ (.int .i64 d')) b p' d' := by
  obtain ⟨h0, h1, f0, f1⟩ := h
  refine ⟨?_, ?_, by simpa using f0, by simpa using f1⟩
  · rw [sc_ne (by simp), sc_eq h0]
  · rw [sc_eq (u := .int .i64 d) (by rw [sc_ne (by simp)]; exact h1)]
end Go.Proofs.YtjdjpbdfchhcfaaGreat

/- Contracts of the small functions of package value that only reckon, or write into the walk alone: isLetter, isDigit, lengthRule, enter. -/
namespace Go.Proofs.YtjdjpbdfchhcfaaGreat
open Go.RowKit

set_option maxHeartbeats 400000 in
theorem isLetter_any (c : Int) (w : World) (_h0 : 0 ≤ c) (_h1 : c ≤ 255) :
    Calls Tryz.prog 137 #[.int .u8 c] w fun e w' => e = .returned (.bool (Sp.letter c)) ∧ w = w' := by
  by_cases ha : 97 ≤ c
  · by_cases hb : c ≤ 122
    · go_enter Tryz.func137, Tryz.ntmps137
      go_wp2
      go_ret
      exact ⟨by simp [Sp.letter, ha, hb], rfl⟩
    · go_enter Tryz.func137, Tryz.ntmps137
      go_wp2
      go_ret
      exact ⟨by simp [Sp.letter]; omega, rfl⟩
  · go_enter Tryz.func137, Tryz.ntmps137
    go_wp2
    go_ret
    exact ⟨by simp [Sp.letter]; omega, rfl⟩

set_option maxHeartbeats 400000 in
theorem isDigit_any (c : Int) (w : World) (_h0 : 0 ≤ c) (_h1 : c ≤ 255) :
    Calls Tryz.prog 152 #[.int .u8 c] w fun e w' => e = .returned (.bool (Sp.digit c)) ∧ w = w' := by
  by_cases ha : 48 ≤ c
  · by_cases hb : c ≤ 57
    · go_enter Tryz.func152, Tryz.ntmps152
      go_wp2
      go_ret
      exact ⟨by simp [Sp.digit, ha, hb], rfl⟩
    · go_enter Tryz.func152, Tryz.ntmps152
      go_wp2
      go_ret
      exact ⟨by simp [Sp.digit]; omega, rfl⟩
  · go_enter Tryz.func152, Tryz.ntmps152
    go_wp2
    go_ret
    exact ⟨by simp [Sp.digit]; omega, rfl⟩

set_option maxHeartbeats 400000 in
theorem lengthRule_any (n m : Int) (w : World) :
    Calls Tryz.prog 117 #[.int .i64 n, .int .i64 m] w fun e w' => e = .returned (.int .i64 (Sp.len n m)) ∧ w = w' := by
  by_cases h : m < n
  · go_enter Tryz.func117, Tryz.ntmps117
    go_wp2
    go_ret
    exact ⟨by rw [Sp.len, if_neg (by omega)]; rfl, rfl⟩
  · go_enter Tryz.func117, Tryz.ntmps117
    go_wp2
    go_ret
    exact ⟨by rw [Sp.len, if_pos (by omega)]; rfl, rfl⟩

theorem ret_int {k : IntKind} {a b : Int} (h : a = b) : Ending.returned (.int k a) = .returned (.int k b) := by rw [h]

set_option maxHeartbeats 400000 in
theorem enter_any (b : Nat) (p d k n : Int) (w : World) (h : Wk w b p d) (hp : 0 ≤ p) (hp' : p ≤ 100000) :
    Calls Tryz.prog 116 #[.pointer (some ⟨b, 0, none⟩), .int .i64 k, .int .i64 n] w fun e w' => e = .returned (.int .i64 (Sp.ent k p n)) ∧ (w.setCell ⟨b, 0, none⟩ (.int .i64 (p + 1))).setCell ⟨b, 1, none⟩ (.int .i64 (max d n)) = w' := by
  obtain ⟨h0, h1, f0, f1⟩ := h
  go_enter Tryz.func116, Tryz.ntmps116
  go_wp2
  all_goals
    go_ret
    refine ⟨?_, ?_⟩
    · refine ret_int ?_
      simp only [beq_iff_eq, beq_eq_false_iff_ne, ne_eq] at *
      unfold Sp.ent
      (repeat' split) <;> omega
    · have hm : max d n = if n ≤ d then d else n := by omega
      rw [hm]; split <;> first | rfl | omega

set_option maxRecDepth 100000 in
set_option maxHeartbeats 400000 in
theorem kindOf_alien (T : Nat) (x : Value) (w : World) (h : Alien T) :
    Calls Tryz.prog 101 #[.iface T x] w fun e w' => e = .returned (.int .i64 0) ∧ w = w' := by
  obtain ⟨h1, h2, h3, h4, h5, h6, h7, h8, h9⟩ := h
  go_enter Tryz.func101, Tryz.ntmps101
  go_wp2
  go_ret
  exact ⟨rfl, rfl⟩
set_option maxRecDepth 100000 in
set_option maxHeartbeats 400000 in
theorem kindOf_nil (w : World) :
    Calls Tryz.prog 101 #[.nilIface] w fun e w' => e = .returned (.int .i64 1) ∧ w = w' := by
  go_enter Tryz.func101, Tryz.ntmps101
  go_wp2
  go_ret
  exact ⟨rfl, rfl⟩
set_option maxRecDepth 100000 in
set_option maxHeartbeats 400000 in
theorem kindOf_bool (x : Value) (w : World) :
    Calls Tryz.prog 101 #[.iface 4 x] w fun e w' => e = .returned (.int .i64 2) ∧ w = w' := by
  go_enter Tryz.func101, Tryz.ntmps101
  go_wp2
  go_ret
  exact ⟨rfl, rfl⟩
set_option maxRecDepth 100000 in
set_option maxHeartbeats 400000 in
theorem kindOf_int (x : Value) (w : World) :
    Calls Tryz.prog 101 #[.iface 2 x] w fun e w' => e = .returned (.int .i64 3) ∧ w = w' := by
  go_enter Tryz.func101, Tryz.ntmps101
  go_wp2
  go_ret
  exact ⟨rfl, rfl⟩
set_option maxRecDepth 100000 in
set_option maxHeartbeats 400000 in
theorem kindOf_float (x : Value) (w : World) :
    Calls Tryz.prog 101 #[.iface 22 x] w fun e w' => e = .returned (.int .i64 4) ∧ w = w' := by
  go_enter Tryz.func101, Tryz.ntmps101
  go_wp2
  go_ret
  exact ⟨rfl, rfl⟩
set_option maxRecDepth 100000 in
set_option maxHeartbeats 400000 in
theorem kindOf_text (x : Value) (w : World) :
    Calls Tryz.prog 101 #[.iface 9 x] w fun e w' => e = .returned (.int .i64 5) ∧ w = w' := by
  go_enter Tryz.func101, Tryz.ntmps101
  go_wp2
  go_ret
  exact ⟨rfl, rfl⟩
set_option maxRecDepth 100000 in
set_option maxHeartbeats 400000 in
theorem kindOf_bytes (x : Value) (w : World) :
    Calls Tryz.prog 101 #[.iface 23 x] w fun e w' => e = .returned (.int .i64 6) ∧ w = w' := by
  go_enter Tryz.func101, Tryz.ntmps101
  go_wp2
  go_ret
  exact ⟨rfl, rfl⟩
set_option maxRecDepth 100000 in
set_option maxHeartbeats 400000 in
theorem kindOf_ref (x : Value) (w : World) :
    Calls Tryz.prog 101 #[.iface 25 x] w fun e w' => e = .returned (.int .i64 7) ∧ w = w' := by
  go_enter Tryz.func101, Tryz.ntmps101
  go_wp2
  go_ret
  exact ⟨rfl, rfl⟩
set_option maxRecDepth 100000 in
set_option maxHeartbeats 400000 in
theorem kindOf_list (x : Value) (w : World) :
    Calls Tryz.prog 101 #[.iface 71 x] w fun e w' => e = .returned (.int .i64 8) ∧ w = w' := by
  go_enter Tryz.func101, Tryz.ntmps101
  go_wp2
  go_ret
  exact ⟨rfl, rfl⟩
set_option maxRecDepth 100000 in
set_option maxHeartbeats 400000 in
theorem kindOf_dict (x : Value) (w : World) :
    Calls Tryz.prog 101 #[.iface 73 x] w fun e w' => e = .returned (.int .i64 9) ∧ w = w' := by
  go_enter Tryz.func101, Tryz.ntmps101
  go_wp2
  go_ret
  exact ⟨rfl, rfl⟩
set_option maxRecDepth 100000 in
set_option maxHeartbeats 400000 in
theorem kindOf_rec (a : Addr) (w : World) :
    Calls Tryz.prog 101 #[.iface 75 (.pointer (some a))] w fun e w' => e = .returned (.int .i64 10) ∧ w = w' := by
  go_enter Tryz.func101, Tryz.ntmps101
  go_wp2
  go_ret
  exact ⟨rfl, rfl⟩
set_option maxRecDepth 100000 in
set_option maxHeartbeats 400000 in
theorem kindOf_nothing (w : World) :
    Calls Tryz.prog 101 #[.iface 75 (.pointer none)] w fun e w' => e = .returned (.int .i64 11) ∧ w = w' := by
  go_enter Tryz.func101, Tryz.ntmps101
  go_wp2
  go_ret
  exact ⟨rfl, rfl⟩
end Go.Proofs.YtjdjpbdfchhcfaaGreat

/- The Go function value.isName tells whether a text is a name; value.headRule what is wrong with a record's class and version. -/
namespace Go.Proofs.YtjdjpbdfchhcfaaGreat
open Go.RowKit

theorem byte_at (s : ByteArray) (k : Nat) (h : k < s.size) : (s[k].toNat : Int) = Sp.byte s k := by
  unfold Sp.byte
  have h' : k < s.data.size := h
  rw [Array.getD, dif_pos h']; rfl
theorem byte_bd (s : ByteArray) (k : Nat) : 0 ≤ Sp.byte s k ∧ Sp.byte s k ≤ 255 := by
  unfold Sp.byte
  have := (s.data.getD k 0).toNat_lt
  omega
theorem toList_ne {s : ByteArray} (h : ¬ s.size = 0) : s.toList.isEmpty = false := by
  cases he : s.toList.isEmpty with
  | false => rfl
  | true =>
    rw [List.isEmpty_iff, ByteArray.toList_eq] at he
    exact absurd (by cases s with | mk d => simpa [ByteArray.size] using he) h
theorem nmTo_first (s : ByteArray) (h : Sp.letter (Sp.byte s 0) = true) : Sp.nmTo s 1 = true := by
  simp [Sp.nmTo, Sp.ch, h]
theorem nmTo_bad (s : ByteArray) (k : Nat) (h : Sp.ch k (Sp.byte s k) = false) : ∀ n, k < n → Sp.nmTo s n = false
  | 0, hn => by omega
  | n + 1, hn => by
    rw [Sp.nmTo]
    by_cases e : k = n
    · subst e; simp [h]
    · rw [nmTo_bad s k h n (by omega)]; rfl
theorem isNm_bad (s : ByteArray) (k : Nat) (hk : k < s.size) (h : Sp.ch k (Sp.byte s k) = false) : Sp.isNm s = false := by
  simp [Sp.isNm, nmTo_bad s k h s.size hk]
theorem isNm_of (s : ByteArray) (h1 : 1 ≤ s.size) (h2 : s.size ≤ 32) : Sp.isNm s = Sp.nmTo s s.size := by simp [Sp.isNm, h1, h2]
theorem nmTo_d {s : ByteArray} {k : Nat} (h : Sp.nmTo s k = true) (hk : 1 ≤ k) (hd : Sp.digit (Sp.byte s k) = true) : Sp.nmTo s (k + 1) = true := by
  rw [Sp.nmTo, h]; have : k ≠ 0 := by omega
  simp [Sp.ch, hd, this]
theorem ret_bool {a b : Bool} (h : a = b) : Ending.returned (.bool a) = .returned (.bool b) := by rw [h]

def Sp.nb (c : Int) : Bool := letter c || digit c || c == 95
theorem Sp.ch_nb {k : Nat} (c : Int) (hk : 1 ≤ k) : Sp.ch k c = Sp.nb c := by
  have : (k != 0) = true := by simp; omega
  rw [Sp.ch, Sp.nb, this, Bool.true_and, Bool.or_assoc]

set_option maxHeartbeats 400000 in
theorem nByte_any (c : Int) (w : World) (h0 : 0 ≤ c) (h1 : c ≤ 255) :
    Calls Tryz.prog 138 #[.int .u8 c] w fun e w' => e = .returned (.bool (Sp.nb c)) ∧ w = w' := by
  cases hl : Sp.letter c with
  | true =>
    have H : Hid (Sp.nb c = true) := by show _ = _; simp [Sp.nb, hl]
    go_enter Tryz.func138, Tryz.ntmps138
    go_wp2_with (go_at_call 137; refine (isLetter_any _ _ h0 h1).mono ?_; rintro e w' ⟨rfl, rfl⟩)
    go_ret
    exact ⟨ret_bool H.out.symm, rfl⟩
  | false =>
    cases hd : Sp.digit c with
    | true =>
      have H : Hid (Sp.nb c = true) := by show _ = _; simp [Sp.nb, hl, hd]
      go_enter Tryz.func138, Tryz.ntmps138
      go_wp2_with (first | (go_at_call 137; refine (isLetter_any _ _ h0 h1).mono ?_; rintro e w' ⟨rfl, rfl⟩) | (go_at_call 152; refine (isDigit_any _ _ h0 h1).mono ?_; rintro e w' ⟨rfl, rfl⟩))
      go_ret
      exact ⟨ret_bool H.out.symm, rfl⟩
    | false =>
      have H : Hid (Sp.nb c = (c == 95)) := by show _ = _; simp [Sp.nb, hl, hd]
      go_enter Tryz.func138, Tryz.ntmps138
      go_wp2_with (first | (go_at_call 137; refine (isLetter_any _ _ h0 h1).mono ?_; rintro e w' ⟨rfl, rfl⟩) | (go_at_call 152; refine (isDigit_any _ _ h0 h1).mono ?_; rintro e w' ⟨rfl, rfl⟩))
      go_ret
      exact ⟨ret_bool H.out.symm, rfl⟩

set_option maxRecDepth 100000 in
set_option maxHeartbeats 400000 in
theorem isName_any (s : ByteArray) (w : World) (hs : s.size ≤ maxLen) :
    Calls Tryz.prog 131 #[.string s] w fun e w' => e = .returned (.bool (Sp.isNm s)) ∧ w = w' := by
  unfold maxLen at hs
  by_cases h0 : s.size = 0
  · have he : s = ByteArray.empty := by
      cases s with | mk d => simp [ByteArray.size] at h0; subst h0; rfl
    subst he
    go_enter Tryz.func131, Tryz.ntmps131
    go_wp2_with fail
    go_ret
    exact ⟨rfl, rfl⟩
  · have hne := toList_ne h0
    by_cases h32 : 32 < s.size
    · have H : Hid (Sp.isNm s = false) := by show _ = _; simp [Sp.isNm]; omega
      go_enter Tryz.func131, Tryz.ntmps131
      go_wp2_with fail
      go_ret
      exact ⟨ret_bool H.out.symm, rfl⟩
    · have hz : 0 < s.size := by omega
      have hb := byte_bd s 0
      have e0 := byte_at s 0 hz
      cases hl : Sp.letter (Sp.byte s 0) with
      | false =>
        have H : Hid (Sp.isNm s = false) := isNm_bad s 0 hz (by simp [Sp.ch, hl])
        go_enter Tryz.func131, Tryz.ntmps131
        go_wp2_with (go_at_call 137; refine (isLetter_any _ _ (by omega) (by omega)).mono ?_; rintro e w' ⟨rfl, rfl⟩)
        go_ret
        exact ⟨ret_bool H.out.symm, rfl⟩
      | true =>
        have H1 : Hid (Sp.nmTo s 1 = true) := nmTo_first s hl
        go_enter Tryz.func131, Tryz.ntmps131
        go_wp2_with (go_at_call 137; refine (isLetter_any _ _ (by omega) (by omega)).mono ?_; rintro e w' ⟨rfl, rfl⟩)
        go_loop [3] (fun i => ∃ k : Nat, 1 ≤ k ∧ k ≤ s.size ∧ i = .int .i64 k ∧ Hid (Sp.nmTo s k = true)) (fun i => s.size - (intOf i).toNat)
        case atStart => exact ⟨1, by omega, by omega, rfl, H1⟩
        case round =>
          obtain ⟨k, hk1, hk, rfl, HK⟩ := hrel
          by_cases hlt : k < s.size
          · have hbk := byte_bd s k
            have ek := byte_at s k hlt
            cases hnk : Sp.nb (Sp.byte s k) with
            | true =>
              have HK' : Hid (Sp.nmTo s (k + 1) = true) := by show _ = _; rw [Sp.nmTo, HK.out, Sp.ch_nb _ hk1, hnk]; rfl
              go_wp2_with (go_at_call 138; refine (nByte_any _ _ (by omega) (by omega)).mono ?_; rintro e w' ⟨rfl, rfl⟩)
              go_round
              case rel => exact ⟨k + 1, by omega, by omega, by go_num, HK'⟩
              case measure => simp [intOf]; omega
            | false =>
              have H : Hid (Sp.isNm s = false) := isNm_bad s k hlt (by rw [Sp.ch_nb _ hk1, hnk])
              go_wp2_with (go_at_call 138; refine (nByte_any _ _ (by omega) (by omega)).mono ?_; rintro e w' ⟨rfl, rfl⟩)
              go_ret
              exact ⟨ret_bool H.out.symm, rfl⟩
          · go_wp2_with fail
            go_ret
            exact ⟨ret_bool (by rw [isNm_of s (by omega) (by omega), show s.size = k by omega]; exact HK.out.symm), rfl⟩

set_option maxRecDepth 100000 in
set_option maxHeartbeats 400000 in
theorem headRule_any (s : ByteArray) (v : Int) (w : World) (hs : s.size ≤ maxLen) :
    Calls Tryz.prog 120 #[.string s, .int .i64 v] w fun e w' => e = .returned (.int .i64 (Sp.headR s v)) ∧ w = w' := by
  cases hn : Sp.isNm s with
  | false =>
    have H : Hid (Sp.headR s v = 8) := by show _ = _; simp [Sp.headR, hn]
    go_enter Tryz.func120, Tryz.ntmps120
    go_wp2_with (go_at_call 131; refine (isName_any _ _ hs).mono ?_; rintro e w' ⟨rfl, rfl⟩)
    go_ret
    exact ⟨ret_int H.out.symm, rfl⟩
  | true =>
    by_cases h1 : v < 1
    · have H : Hid (Sp.headR s v = 1) := by show _ = _; simp [Sp.headR, hn, h1]
      go_enter Tryz.func120, Tryz.ntmps120
      go_wp2_with (go_at_call 131; refine (isName_any _ _ hs).mono ?_; rintro e w' ⟨rfl, rfl⟩)
      go_ret
      exact ⟨ret_int H.out.symm, rfl⟩
    · by_cases h2 : 1000 < v
      · have H : Hid (Sp.headR s v = 1) := by show _ = _; simp [Sp.headR, hn, h2]
        go_enter Tryz.func120, Tryz.ntmps120
        go_wp2_with (go_at_call 131; refine (isName_any _ _ hs).mono ?_; rintro e w' ⟨rfl, rfl⟩)
        go_ret
        exact ⟨ret_int H.out.symm, rfl⟩
      · have H : Hid (Sp.headR s v = 0) := by show _ = _; simp [Sp.headR, hn, h1, h2]
        go_enter Tryz.func120, Tryz.ntmps120
        go_wp2_with (go_at_call 131; refine (isName_any _ _ hs).mono ?_; rintro e w' ⟨rfl, rfl⟩)
        go_ret
        exact ⟨ret_int H.out.symm, rfl⟩
end Go.Proofs.YtjdjpbdfchhcfaaGreat

/- The Go walk through a value (package value: fieldsRule, walk.list, walk.dict, walk.value) comes to the plain walk through its term. -/
namespace Go.Proofs.YtjdjpbdfchhcfaaGreat
open Go.RowKit

set_option maxRecDepth 100000 in
set_option maxHeartbeats 400000 in
theorem dict1_any (n : ByteArray) (v : Value) (w : World) :
    Calls Tryz.prog 130 #[.agg #[.string n, v]] w fun e w' => e = .returned (.string n) ∧ Below w.heap.size w w' := by
  go_enter Tryz.func130, Tryz.ntmps130
  go_wp2
  go_ret
  exact ⟨rfl, (Below.refl _ _).alloc (Nat.le_refl _) _⟩

theorem isNm_len {n : ByteArray} (h : Sp.isNm n = true) : 1 ≤ n.size := by
  simp [Sp.isNm] at h; omega

set_option maxRecDepth 100000 in
set_option maxHeartbeats 400000 in
theorem fieldsRule_any (fs : TmF) (a : Option Addr) (cap B : Nat) (w : World) (hB : B ≤ w.heap.size) (h : fs.V w (Lo B) a 0) (hlen : fs.len ≤ maxLen) :
    Calls Tryz.prog 129 #[.slice a fs.len cap, .func (.func 130) #[] #[]] w fun e w' => e = .returned (.int .i64 (Sp.fieldsR fs.names)) ∧ Below w.heap.size w w' := by
  unfold maxLen at hlen
  by_cases hl : 4096 < fs.len
  · have hr : Sp.len (fs.len : Int) 4096 = 2 := by unfold Sp.len; rw [if_neg (by omega)]
    have H : Hid (Sp.fieldsR fs.names = 2) := by show _ = _; unfold Sp.fieldsR; rw [if_pos (by rw [TmF.names_len]; exact hl)]
    go_enter Tryz.func129, Tryz.ntmps129
    go_wp2_with (go_at_call 117; refine (lengthRule_any _ _ _).mono ?_; rintro e w' ⟨rfl, rfl⟩)
    go_ret
    exact ⟨ret_int H.out.symm, Below.refl _ _⟩
  · have hr : Sp.len (fs.len : Int) 4096 = 0 := by unfold Sp.len; rw [if_pos (by omega)]
    go_enter Tryz.func129, Tryz.ntmps129
    go_wp2_with (go_at_call 117; refine (lengthRule_any _ _ _).mono ?_; rintro e w' ⟨rfl, rfl⟩)
    go_loopw [6, 18] (fun ah i wr => ∃ (k : Nat) (l : TmF) (s : ByteArray), ah = .string s ∧ i = .int .i64 k ∧ l.len + k = fs.len ∧ l.V w (Lo B) a k ∧ Hid (Sp.named ByteArray.empty fs.names = Sp.named s l.names) ∧ Below w.heap.size w wr) (fun _ i _ => fs.len - (intOf i).toNat)
    case atStart => exact ⟨0, fs, _, rfl, rfl, rfl, h, rfl, Below.refl _ _⟩
    case round =>
      obtain ⟨k, l, s, rfl, rfl, hk, hv, HN, hb⟩ := hrel
      cases l with
      | nil =>
        have h1 : fs.len ≤ k := by simp [TmF.len] at hk; omega
        have HK : Hid (TmF.nil.len + k = fs.len) := hk
        have H : Hid (Sp.fieldsR fs.names = 0) := by
          show _ = _; unfold Sp.fieldsR; rw [if_neg (by rw [TmF.names_len]; exact hl), HN.out]; simp [TmF.names, Sp.named]
        clear hk HN hv h
        go_wp2_with fail
        go_ret
        exact ⟨ret_int H.out.symm, hb⟩
      | cons n t l =>
        have HV : Hid (TmF.V w (Lo B) (.cons n t l) a k) := hv
        simp only [TmF.V] at hv
        obtain ⟨g, o, v, rfl, hg, c0, c1, hn, ht, hv'⟩ := hv
        have hg : g < B := hg
        have hlt : k < fs.len := by simp [TmF.len] at hk; omega
        have HK : Hid (l.len + (k + 1) = fs.len) := by show _ = _; simp [TmF.len] at hk; omega
        have d0 : wr.cell? ⟨g, o + k * 2, none⟩ = some (.string n) := by rw [hb.cell (p := ⟨g, o + k * 2, none⟩) (by show g < _; omega)]; exact c0
        have d1 : wr.cell? ⟨g, o + k * 2 + 1, none⟩ = some v := by rw [hb.cell (p := ⟨g, o + k * 2 + 1, none⟩) (by show g < _; omega)]; exact c1
        have HB : Hid (Below w.heap.size w wr) := hb
        have HT : Hid (TmF.V w (Lo B) l (some ⟨g, o, none⟩) (k + 1)) := hv'
        have hgr : g < wr.heap.size := by have := hb.size; omega
        have hsh := t.V_shape v ht
        clear hk hv' ht c0 c1 h hb HV
        cases hnm : Sp.isNm n with
        | false =>
          have H : Hid (Sp.fieldsR fs.names = 8) := by
            show _ = _; unfold Sp.fieldsR; rw [if_neg (by rw [TmF.names_len]; exact hl), HN.out]; simp [TmF.names, Sp.named, hnm]
          rcases hsh with rfl | ⟨T, x, rfl⟩
          all_goals
            go_wp2_with (first | (go_at_call 130; refine (dict1_any _ _ _).mono ?_; rintro e w1 ⟨rfl, hb1⟩) | (go_at_call 131; refine (isName_any _ _ hn).mono ?_; rintro e w' ⟨rfl, rfl⟩))
            go_ret
            exact ⟨ret_int H.out.symm, (HB.out.alloc HB.out.size _).trans (hb1.mono (by simp; have := HB.out.size; omega))⟩
        | true =>
          cases hle : Sp.leS n s with
          | true =>
            have H : Hid (Sp.fieldsR fs.names = 8) := by
              show _ = _; unfold Sp.fieldsR; rw [if_neg (by rw [TmF.names_len]; exact hl), HN.out]; simp [TmF.names, Sp.named, hnm, hle]
            unfold Sp.leS at hle
            rcases hsh with rfl | ⟨T, x, rfl⟩
            all_goals
              go_wp2_with (first | (go_at_call 130; refine (dict1_any _ _ _).mono ?_; rintro e w1 ⟨rfl, hb1⟩) | (go_at_call 131; refine (isName_any _ _ hn).mono ?_; rintro e w' ⟨rfl, rfl⟩))
              go_ret
              exact ⟨ret_int H.out.symm, (HB.out.alloc HB.out.size _).trans (hb1.mono (by simp; have := HB.out.size; omega))⟩
          | false =>
            have H : Hid (Sp.named ByteArray.empty fs.names = Sp.named n l.names) := by
              show _ = _; rw [HN.out]; simp [TmF.names, Sp.named, hnm, hle]
            unfold Sp.leS at hle
            rcases hsh with rfl | ⟨T, x, rfl⟩
            all_goals
              go_wp2_with (first | (go_at_call 130; refine (dict1_any _ _ _).mono ?_; rintro e w1 ⟨rfl, hb1⟩) | (go_at_call 131; refine (isName_any _ _ hn).mono ?_; rintro e w' ⟨rfl, rfl⟩))
              go_roundw
              case rel => exact ⟨k + 1, l, n, rfl, by go_num, HK.out, HT.out, H, (HB.out.alloc HB.out.size _).trans (hb1.mono (by simp; have := HB.out.size; omega))⟩
              case measure => simp [intOf]; omega
end Go.Proofs.YtjdjpbdfchhcfaaGreat

/- The Go walk through a value (package value: walk.list, walk.dict, walk.value) comes to the plain walk through its term. -/
namespace Go.Proofs.YtjdjpbdfchhcfaaGreat
open Go.RowKit

def ValueC (N : Nat) : Prop := ∀ (t : Tm), t.sz ≤ N → ∀ (b : Nat) (v : Value) (p d n : Int) (w : World), Wk w b p d → t.V w (Lo b) v → 0 ≤ p → p ≤ 16384 → 1 ≤ n → n ≤ 65 →
  Calls Tryz.prog 98 #[.pointer (some ⟨b, 0, none⟩), v, .int .i64 n] w fun e w' => e = .returned (.int .i64 (t.wk n p d).e) ∧ Wk w' b (t.wk n p d).p (t.wk n p d).d ∧ Below b w w'

theorem ne_bool {e : Int} (h : e ≠ 0) : (e != 0) = true := by simp [h]

set_option maxRecDepth 100000 in
set_option maxHeartbeats 400000 in
theorem list_any (N : Nat) (HC : ValueC N) (L : TmL) (hN : L.sz ≤ N) (b : Nat) (a : Option Addr) (cap : Nat) (p d n : Int) (w : World) (hw : Wk w b p d) (h : L.V w (Lo b) a 0) (hlen : L.len ≤ maxLen) (hp : 0 ≤ p) (hp' : p ≤ 16384) (hn : 1 ≤ n) (hn' : n ≤ 64) :
    Calls Tryz.prog 118 #[.pointer (some ⟨b, 0, none⟩), .slice a L.len cap, .int .i64 n] w fun e w' => e = .returned (.int .i64 (L.wkR n p d).e) ∧ Wk w' b (L.wkR n p d).p (L.wkR n p d).d ∧ Below b w w' := by
  unfold maxLen at hlen
  by_cases hl : 4096 < L.len
  · have hr : Sp.len (L.len : Int) 4096 = 2 := by unfold Sp.len; rw [if_neg (by omega)]
    have H : Hid (L.wkR n p d = ⟨p, d, 2⟩) := by show _ = _; unfold TmL.wkR; rw [if_pos hl]
    clear h HC
    go_enter Tryz.func118, Tryz.ntmps118
    go_wp2_with (go_at_call 117; refine (lengthRule_any _ _ _).mono ?_; rintro e w' ⟨rfl, rfl⟩)
    go_ret
    rw [H.out]
    exact ⟨rfl, hw, Below.refl _ _⟩
  · have hr : Sp.len (L.len : Int) 4096 = 0 := by unfold Sp.len; rw [if_pos (by omega)]
    have H : Hid (L.wkR n p d = L.wk (n + 1) p d) := by show _ = _; unfold TmL.wkR; rw [if_neg hl]
    have HCH : Hid (ValueC N) := HC
    clear HC
    go_enter Tryz.func118, Tryz.ntmps118
    go_wp2_with (go_at_call 117; refine (lengthRule_any _ _ _).mono ?_; rintro e w' ⟨rfl, rfl⟩)
    go_loopw [19] (fun i wr => ∃ (k : Nat) (l : TmL) (p' d' : Int), i = .int .i64 k ∧ l.len + k = L.len ∧ l.sz ≤ N ∧ l.V w (Lo b) a k ∧ Hid (L.wk (n + 1) p d = l.wk (n + 1) p' d') ∧ 0 ≤ p' ∧ p' ≤ 16384 ∧ Wk wr b p' d' ∧ Below b w wr) (fun i _ => L.len - (intOf i).toNat)
    case atStart => exact ⟨0, L, p, d, rfl, rfl, hN, h, rfl, hp, hp', hw, Below.refl _ _⟩
    case round =>
      obtain ⟨k, l, p', d', rfl, hk, hlN, hv, HE, hq, hq', hwr, hb⟩ := hrel
      have HW : Hid (Wk wr b p' d') := hwr
      have HB : Hid (Below b w wr) := hb
      clear h hw
      cases l with
      | nil =>
        have h1 : L.len ≤ k := by simp [TmL.len] at hk; omega
        clear hk hv hwr hb
        go_wp2_with fail
        go_ret
        rw [H.out, HE.out]
        exact ⟨rfl, HW.out, HB.out⟩
      | cons t l =>
        simp only [TmL.V] at hv
        obtain ⟨g, o, v, rfl, hg, c0, ht, hv'⟩ := hv
        have hlt : k < L.len := by simp [TmL.len] at hk; omega
        have HK : Hid (l.len + (k + 1) = L.len) := by show _ = _; simp [TmL.len] at hk; omega
        have htN : t.sz ≤ N ∧ l.sz ≤ N := by simp [TmL.sz] at hlN; omega
        have d0 : wr.cell? ⟨g, o + k, none⟩ = some v := by rw [hb.cell (p := ⟨g, o + k, none⟩) hg]; exact c0
        have hbl := hwr.lt
        have HT : Hid (TmL.V w (Lo b) l (some ⟨g, o, none⟩) (k + 1)) := hv'
        have HV : Hid (t.V wr (Lo b) v) := t.V_same (Same.of_below hb (Nat.le_refl _)) (fun _ h => h) v ht
        have hbd := t.wk_bd (n + 1) p' d' hq hq'
        clear hk hv' ht c0 hwr hb hlN
        by_cases he : (t.wk (n + 1) p' d').e ≠ 0
        · have HR : Hid (TmL.wk (.cons t l) (n + 1) p' d' = t.wk (n + 1) p' d') := by show _ = _; rw [TmL.wk, if_pos he]
          have he' := ne_bool he
          clear he
          go_wp2_with (go_at_call 98; refine (HCH.out t htN.1 b v p' d' _ _ HW.out HV.out hq hq' (by omega) (by omega)).mono ?_; rintro e w1 ⟨rfl, hk1, hb1⟩)
          go_ret
          rw [H.out, HE.out, HR.out]
          exact ⟨rfl, hk1, HB.out.trans hb1⟩
        · have he0 : (t.wk (n + 1) p' d').e = 0 := Decidable.not_not.1 he
          have HR : Hid (TmL.wk (.cons t l) (n + 1) p' d' = l.wk (n + 1) (t.wk (n + 1) p' d').p (t.wk (n + 1) p' d').d) := by show _ = _; rw [TmL.wk, if_neg he]
          have hpq := hbd.2.2 he0
          have HHB := HB
          clear he
          go_wp2_with (go_at_call 98; refine (HCH.out t htN.1 b v p' d' _ _ HW.out HV.out hq hq' (by omega) (by omega)).mono ?_; rintro e w1 ⟨rfl, hk1, hb1⟩)
          go_roundw
          case rel => exact ⟨k + 1, l, _, _, by go_num, HK.out, htN.2, HT.out, (HE.out.trans HR.out), by omega, hpq, hk1, HB.out.trans hb1⟩
          case measure => simp [intOf]; omega

set_option maxRecDepth 100000 in
set_option maxHeartbeats 1000000 in
theorem dict_any (N : Nat) (HC : ValueC N) (L : TmF) (hN : L.sz ≤ N) (b : Nat) (a : Option Addr) (cap : Nat) (p d n : Int) (w : World) (hw : Wk w b p d) (h : L.V w (Lo b) a 0) (hlen : L.len ≤ maxLen) (hp : 0 ≤ p) (hp' : p ≤ 16384) (hn : 1 ≤ n) (hn' : n ≤ 64) :
    Calls Tryz.prog 119 #[.pointer (some ⟨b, 0, none⟩), .slice a L.len cap, .int .i64 n] w fun e w' => e = .returned (.int .i64 (L.wkR n p d).e) ∧ Wk w' b (L.wkR n p d).p (L.wkR n p d).d ∧ Below b w w' := by
  have hbw := hw.lt
  have HF := fun W (hW : Same (Lo b) w W) (hs : b ≤ W.heap.size) => fieldsRule_any L a cap b W hs (L.V_same hW (fun _ h => h) a 0 h) hlen
  unfold maxLen at hlen
  have HFR : Hid (Calls Tryz.prog 129 #[.slice a L.len cap, .func (.func 130) #[] #[]] w fun e w' => e = .returned (.int .i64 (Sp.fieldsR L.names)) ∧ Below w.heap.size w w') := HF w (Same.refl _ _) (by omega)
  clear HF
  by_cases hl : Sp.fieldsR L.names ≠ 0
  · have hr := ne_bool hl
    have H : Hid (L.wkR n p d = ⟨p, d, Sp.fieldsR L.names⟩) := by show _ = _; unfold TmF.wkR; rw [if_pos hl]
    clear h HC hl
    go_enter Tryz.func119, Tryz.ntmps119
    go_wp2_with (go_at_call 129; refine HFR.out.mono ?_; rintro e w1 ⟨rfl, hb1⟩)
    go_ret
    rw [H.out]
    exact ⟨rfl, hw.same (Same.of_below hb1 (Nat.le_refl _)) hbw, hb1.mono (by omega)⟩
  · have hr : Sp.fieldsR L.names = 0 := Decidable.not_not.1 hl
    have H : Hid (L.wkR n p d = L.wk (n + 1) p d) := by show _ = _; unfold TmF.wkR; rw [if_neg hl]
    have HCH : Hid (ValueC N) := HC
    clear HC
    go_enter Tryz.func119, Tryz.ntmps119
    go_wp2_with (go_at_call 129; refine HFR.out.mono ?_; rintro e w1 ⟨rfl, hb1⟩)
    have hw1 := hw.same (Same.of_below hb1 (Nat.le_refl _)) hbw
    have hs1 := hb1.size
    go_loopw [18] (fun i wr => ∃ (k : Nat) (l : TmF) (p' d' : Int), i = .int .i64 k ∧ l.len + k = L.len ∧ l.sz ≤ N ∧ l.V w (Lo b) a k ∧ Hid (L.wk (n + 1) p d = l.wk (n + 1) p' d') ∧ 0 ≤ p' ∧ p' ≤ 16384 ∧ Wk wr b p' d' ∧ Below b w wr) (fun i _ => L.len - (intOf i).toNat)
    case atStart => exact ⟨0, L, p, d, rfl, rfl, hN, h, rfl, hp, hp', hw1, hb1.mono (by omega)⟩
    case round =>
      obtain ⟨k, l, p', d', rfl, hk, hlN, hv, HE, hq, hq', hwr, hb⟩ := hrel
      have HW : Hid (Wk wr b p' d') := hwr
      have HB : Hid (Below b w wr) := hb
      clear h hw hw1 hb1 HFR
      cases l with
      | nil =>
        have h1 : L.len ≤ k := by simp [TmF.len] at hk; omega
        clear hk hv hwr hb
        go_wp2_with fail
        go_ret
        rw [H.out, HE.out]
        exact ⟨rfl, HW.out, HB.out⟩
      | cons nm t l =>
        simp only [TmF.V] at hv
        obtain ⟨g, o, v, rfl, hg, c0, c1, _, ht, hv'⟩ := hv
        have hlt : k < L.len := by simp [TmF.len] at hk; omega
        have HK : Hid (l.len + (k + 1) = L.len) := by show _ = _; simp [TmF.len] at hk; omega
        have htN : t.sz ≤ N ∧ l.sz ≤ N := by simp [TmF.sz] at hlN; omega
        have d0 : wr.cell? ⟨g, o + k * 2, none⟩ = some (.string nm) := by rw [hb.cell (p := ⟨g, o + k * 2, none⟩) hg]; exact c0
        have d1 : wr.cell? ⟨g, o + k * 2 + 1, none⟩ = some v := by rw [hb.cell (p := ⟨g, o + k * 2 + 1, none⟩) hg]; exact c1
        have hbl := hwr.lt
        have HT : Hid (TmF.V w (Lo b) l (some ⟨g, o, none⟩) (k + 1)) := hv'
        have HV : Hid (∀ W, Same (Lo b) wr W → t.V W (Lo b) v) := fun W hW => t.V_same ((Same.of_below hb (Nat.le_refl _)).trans hW) (fun _ h => h) v ht
        have HWW : Hid (∀ W, Below wr.heap.size wr W → Wk W b p' d') := fun W hW => hwr.same (Same.of_below hW (Nat.le_refl _)) hbl
        have hbd := t.wk_bd (n + 1) p' d' hq hq'
        have hsh := t.V_shape v ht
        clear hk hv' ht c0 c1 hwr hb hlN HW
        by_cases he : (t.wk (n + 1) p' d').e ≠ 0
        · have HR : Hid (TmF.wk (.cons nm t l) (n + 1) p' d' = t.wk (n + 1) p' d') := by show _ = _; rw [TmF.wk, if_pos he]
          have he' := ne_bool he
          clear he
          rcases hsh with rfl | ⟨T, x, rfl⟩
          all_goals
            go_wp2_with (go_at_call 98; refine (HCH.out t htN.1 b _ p' d' _ _ (HWW.out _ ?_) (HV.out _ ?_) hq hq' (by omega) (by omega)).mono ?_; exact (Below.refl _ _).alloc (Nat.le_refl _) _; exact Same.of_below ((Below.refl _ _).alloc (Nat.le_refl _) _) (by omega); rintro e w1 ⟨rfl, hk1, hb1⟩)
            go_ret
            rw [H.out, HE.out, HR.out]
            exact ⟨rfl, hk1, (HB.out.alloc (by omega) _).trans hb1⟩
        · have he0 : (t.wk (n + 1) p' d').e = 0 := Decidable.not_not.1 he
          have HR : Hid (TmF.wk (.cons nm t l) (n + 1) p' d' = l.wk (n + 1) (t.wk (n + 1) p' d').p (t.wk (n + 1) p' d').d) := by show _ = _; rw [TmF.wk, if_neg he]
          have hpq := hbd.2.2 he0
          clear he
          rcases hsh with rfl | ⟨T, x, rfl⟩
          all_goals
            go_wp2_with (go_at_call 98; refine (HCH.out t htN.1 b _ p' d' _ _ (HWW.out _ ?_) (HV.out _ ?_) hq hq' (by omega) (by omega)).mono ?_; exact (Below.refl _ _).alloc (Nat.le_refl _) _; exact Same.of_below ((Below.refl _ _).alloc (Nat.le_refl _) _) (by omega); rintro e w1 ⟨rfl, hk1, hb1⟩)
            go_roundw
            case rel => exact ⟨k + 1, l, _, _, by go_num, HK.out, htN.2, HT.out, (HE.out.trans HR.out), by omega, hpq, hk1, (HB.out.alloc (by omega) _).trans hb1⟩
            case measure => simp [intOf]; omega
end Go.Proofs.YtjdjpbdfchhcfaaGreat

/- How a term that came in lies in memory: its eleven cells, and the terms and entries behind its slices. -/
namespace Go.Proofs.YtjdjpbdfchhcfaaGreat
open Go.RowKit

def Sub (B : Nat → Prop) (w : World) : Prop := ∀ k, B k → k < w.heap.size
theorem Sub.same {B : Nat → Prop} {w W : World} (h : Sub B w) (hW : Below w.heap.size w W) : Same B w W := fun k hk => hW.block k (h k hk)
theorem Sub.later {B : Nat → Prop} {w W : World} (h : Sub B w) (hW : Below w.heap.size w W) : Sub B W := fun k hk => Nat.lt_of_lt_of_le (h k hk) hW.size
theorem Sub.lo {b : Nat} {w : World} (h : b ≤ w.heap.size) : Sub (Lo b) w := fun _ hk => Nat.lt_of_lt_of_le hk h

def tcells (k : Int) (b : Bool) (i : Int) (f : Nat) (tx : ByteArray) (vb : Value) (rf : Int) (vl vf : Value) (c : ByteArray) (vr : Int) : Array Value :=
  #[.int .i64 k, .bool b, .int .i64 i, .float .f64 f, .string tx, vb, .int .u64 rf, vl, vf, .string c, .int .i64 vr]
structure Bd (k i : Int) (f : Nat) (tx : ByteArray) (nb : Nat) (rf : Int) (nl nf : Nat) (c : ByteArray) (vr : Int) : Prop where
  k0 : -9223372036854775808 ≤ k
  k1 : k ≤ 9223372036854775807
  i0 : -9223372036854775808 ≤ i
  i1 : i ≤ 9223372036854775807
  f1 : f < 18446744073709551616
  r0 : 0 ≤ rf
  r1 : rf ≤ 18446744073709551615
  v0 : -9223372036854775808 ≤ vr
  v1 : vr ≤ 9223372036854775807
  tx : tx.size ≤ 140737488355328
  c : c.size ≤ 140737488355328
  nb : nb ≤ 140737488355328
  nl : nl * 152 ≤ 140737488355328
  nf : nf * 168 ≤ 140737488355328

mutual
def Tm.In (w : World) (B : Nat → Prop) : Tm → Array Value → Prop
  | .mk k b i f tx by' rf l fs c vr, cs => ∃ ab cb al cl af cf, cs = tcells k b i f tx (.slice ab by'.size cb) rf (.slice al l.len cl) (.slice af fs.len cf) c vr ∧ Bd k i f tx by'.size rf l.len fs.len c vr ∧ BytesAt w B ab by' ∧ l.In w B al 0 ∧ fs.In w B af 0
def TmL.In (w : World) (B : Nat → Prop) : TmL → Option Addr → Nat → Prop
  | .nil, _, _ => True
  | .cons t l, a, j => ∃ g o cs, a = some ⟨g, o, none⟩ ∧ B g ∧ (∀ x, x < 11 → w.cell? ⟨g, o + j * 11 + x, none⟩ = cs[x]?) ∧ t.In w B cs ∧ l.In w B a (j + 1)
def TmF.In (w : World) (B : Nat → Prop) : TmF → Option Addr → Nat → Prop
  | .nil, _, _ => True
  | .cons n t l, a, j => ∃ g o cs, a = some ⟨g, o, none⟩ ∧ B g ∧ w.cell? ⟨g, o + j * 12, none⟩ = some (.string n) ∧ n.size ≤ 140737488355328 ∧ (∀ x, x < 11 → w.cell? ⟨g, o + j * 12 + 1 + x, none⟩ = cs[x]?) ∧ t.In w B cs ∧ l.In w B a (j + 1)
end

mutual
theorem Tm.In_same {w w' : World} {B B' : Nat → Prop} (hs : Same B w w') (hB : ∀ k, B k → B' k) : (t : Tm) → ∀ cs, t.In w B cs → t.In w' B' cs
  | .mk k b i f tx by' rf l fs c vr, cs, h => by
    simp only [Tm.In] at h ⊢
    obtain ⟨ab, cb, al, cl, af, cf, e, hb, h1, h2, h3⟩ := h
    exact ⟨ab, cb, al, cl, af, cf, e, hb, h1.same hs hB, TmL.In_same hs hB l _ _ h2, TmF.In_same hs hB fs _ _ h3⟩
theorem TmL.In_same {w w' : World} {B B' : Nat → Prop} (hs : Same B w w') (hB : ∀ k, B k → B' k) : (l : TmL) → ∀ a j, l.In w B a j → l.In w' B' a j
  | .nil, _, _, _ => by simp [TmL.In]
  | .cons t l, a, j, h => by
    simp only [TmL.In] at h ⊢
    obtain ⟨g, o, cs, e, hg, hc, ht, hl⟩ := h
    exact ⟨g, o, cs, e, hB _ hg, fun x hx => by rw [hs.cell (p := ⟨g, o + j * 11 + x, none⟩) hg]; exact hc x hx, Tm.In_same hs hB t _ ht, TmL.In_same hs hB l _ _ hl⟩
theorem TmF.In_same {w w' : World} {B B' : Nat → Prop} (hs : Same B w w') (hB : ∀ k, B k → B' k) : (l : TmF) → ∀ a j, l.In w B a j → l.In w' B' a j
  | .nil, _, _, _ => by simp [TmF.In]
  | .cons n t l, a, j, h => by
    simp only [TmF.In] at h ⊢
    obtain ⟨g, o, cs, e, hg, hn, hz, hc, ht, hl⟩ := h
    exact ⟨g, o, cs, e, hB _ hg, by rw [hs.cell (p := ⟨g, o + j * 12, none⟩) hg]; exact hn, hz, fun x hx => by rw [hs.cell (p := ⟨g, o + j * 12 + 1 + x, none⟩) hg]; exact hc x hx, Tm.In_same hs hB t _ ht, TmF.In_same hs hB l _ _ hl⟩
end
end Go.Proofs.YtjdjpbdfchhcfaaGreat

/- 'append' onto a slice that the call itself made: what it owns grows, nothing else turns, and the row is the old one or the newest block. -/
namespace Go.Proofs.YtjdjpbdfchhcfaaGreat
open Go.RowKit

theorem run_app {P : Program} (w : World) (base : Nat) (t ty e : TypeId) (i : TypeInfo) (z : Value) (size bytes : Nat) (ht : P.underlying t = some (.slice e)) (hi : P.info? e = some i) (hz : i.zero = some z)
    (hsize : i.size = size) (hby : i.bytes = bytes) (hzs : z.cells.size = size) (hsz : 0 < size)
    (v : Value) (n : Nat) (xs : List Value) (hown : w.ownsRow base e size v n xs)
    (a : Addr) (m c : Nat) (news : List Value) (hl : news.length = m * size) (hnews : ∀ j u, news[j]? = some u → w.cell? (a.add j) = some u) (h1 : ∀ u ∈ news, u.oneCell' = true) (hm : 0 < m)
    (h63 : n + m ≤ maxLen) (hbytes : (n + m) * bytes ≤ 140737488355328) (hbase : base ≤ w.heap.size) :
    ∃ g cap w', (Builtin.append_ #[t, t] ty #[v, .slice (some a) m c]).run P w = .ok (.slice (some ⟨g, 0, none⟩) (n + m) cap) w' ∧ w'.ownsRow base e size (.slice (some ⟨g, 0, none⟩) (n + m) cap) (n + m) (xs ++ news) ∧ w.grownBy w' v.ownBlock ∧
      (v.ownBlock = some g ∨ g = w.heap.size) := by
  obtain ⟨v', w', hr, h2, h3, h4⟩ := run_append_own (P := P) w base t ty e i z size bytes ht hi hz hsize hby hzs hsz v n xs hown a m c news hl hnews h1 h63 hbytes hbase
  have hsmall : n + m ≤ 9223372036854775807 := by simp only [maxLen] at h63; omega
  have key : ∃ g cap, v' = .slice (some ⟨g, 0, none⟩) (n + m) cap ∧ (v.ownBlock = some g ∨ g = w.heap.size) := by
    subst hsize
    subst hby
    rcases hown.2 with ⟨rfl, rfl⟩ | ⟨g, cap, cur, rfl, hbg, hg, hnc, hcm, hcs, htake⟩
    · have hr' := run_append_nil (P := P) w t ty e i z ht hi hz a m c news hl hnews hm (by omega) (by have hb := hbytes; simp only [Nat.zero_add] at hb; omega)
      rw [hr] at hr'
      injection hr' with hv _
      exact ⟨w.heap.size, _, by rw [hv, Nat.zero_add], .inr rfl⟩
    · by_cases hroom : n + m ≤ cap
      · have hfit : n * i.size + news.length ≤ cur.size := by rw [hl, hcs, ← Nat.add_mul]; exact Nat.mul_le_mul_right _ hroom
        have hr' := run_append_room (P := P) w t ty e i ht hi g n cap cur hg a m c news hl hnews h1 hroom hfit
        rw [hr] at hr'
        injection hr' with hv _
        exact ⟨g, cap, hv, .inl rfl⟩
      · have holds : ∀ j u, xs[j]? = some u → w.cell? ((⟨g, 0, none⟩ : Addr).add j) = some u := hown.cells (g := g) rfl
        have hr' := run_append_grow (P := P) w t ty e i z ht hi hz ⟨g, 0, none⟩ n cap xs hown.1 holds a m c news hl hnews (by omega) (by omega) (growslice_fits (by omega) hbytes)
        rw [hr] at hr'
        injection hr' with hv _
        exact ⟨w.heap.size, _, hv, .inr rfl⟩
  obtain ⟨g, cap, rfl, ho⟩ := key
  exact ⟨g, cap, w', hr, h2, h3, ho⟩

theorem wpList_app {P : Program} (w : World) {ops : Array Oper} {rest : List Oper} {o : Oper} {a : Act} {Q : Exit → Act → World → Prop} (hgd : o.guard = none) (s x : Operand) (t : TypeId)
    (ho : o.op = .call { callee := .builtin .append, args := #[s, x], argTypes := #[t, t] })
    (base : Nat) (e : TypeId) (i : TypeInfo) (z : Value) (size bytes : Nat) (ht : P.underlying t = some (.slice e)) (hi : P.info? e = some i) (hz : i.zero = some z)
    (hsize : i.size = size) (hby : i.bytes = bytes) (hzs : z.cells.size = size) (hsz : 0 < size)
    (v : Value) (n : Nat) (xs : List Value) (hs : a.eval s = v) (hown : w.ownsRow base e size v n xs)
    (ad : Addr) (m c : Nat) (news : List Value) (hx : a.eval x = .slice (some ad) m c) (hl : news.length = m * size) (hnews : ∀ j u, news[j]? = some u → w.cell? (ad.add j) = some u) (h1 : ∀ u ∈ news, u.oneCell' = true) (hm : 0 < m)
    (h63 : n + m ≤ maxLen) (hbytes : (n + m) * bytes ≤ 140737488355328) (hbase : base ≤ w.heap.size)
    (h : ∀ g cap w', w'.ownsRow base e size (.slice (some ⟨g, 0, none⟩) (n + m) cap) (n + m) (xs ++ news) → w.grownBy w' v.ownBlock → (v.ownBlock = some g ∨ g = w.heap.size) → wpList P ops Q rest (a.put o.dst (.slice (some ⟨g, 0, none⟩) (n + m) cap)) w') : wpList P ops Q (o :: rest) a w := by
  refine wpList_plain hgd fun K hK => ?_
  obtain ⟨g, cap, w', hr, h2, h3, h4⟩ := run_app (P := P) w base t o.type e i z size bytes ht hi hz hsize hby hzs hsz v n xs hown ad m c news hl hnews h1 hm h63 hbytes hbase
  unfold Oper.wp execOp
  simp only [ho, resolve, invoke, builtin, Sem.run_bind, Sem.run_pure, Result.andThen_ok, List.map_toArray, List.map_cons, List.map_nil, hs, hx, hr]
  exact hK _ _ (h g cap w' h2 h3 h4)

theorem wpList_ran {P : Program} (w : World) {ops : Array Oper} {rest : List Oper} {o : Oper} {a : Act} {Q : Exit → Act → World → Prop} (hgd : o.guard = none) (s x : Operand) (t : TypeId)
    (ho : o.op = .call { callee := .builtin .append, args := #[s, x], argTypes := #[t, t] }) (v y v' : Value) (w' : World) (hs : a.eval s = v) (hx : a.eval x = y)
    (hr : (Builtin.append_ #[t, t] o.type #[v, y]).run P w = .ok v' w') (h : wpList P ops Q rest (a.put o.dst v') w') : wpList P ops Q (o :: rest) a w := by
  refine wpList_plain hgd fun K hK => ?_
  unfold Oper.wp execOp
  simp only [ho, resolve, invoke, builtin, Sem.run_bind, Sem.run_pure, Result.andThen_ok, List.map_toArray, List.map_cons, List.map_nil, hs, hx, hr]
  exact hK _ _ h
theorem app_zero (ty : TypeId) (g : Nat) (ab : Option Addr) (cb : Nat) (w : World) : (Builtin.append_ #[23, 23] ty #[.slice (some ⟨g, 0, none⟩) 0 0, .slice ab 0 cb]).run Tryz.prog w = .ok (.slice (some ⟨g, 0, none⟩) 0 0) w := by
  cases ab <;> kernel_rfl

theorem Tryz.infoI : (Tryz.prog.info? 20).map (fun i => (i.zero, i.size, i.bytes)) = some (some .nilIface, 1, 16) := by kernel_rfl
theorem Tryz.infoF : (Tryz.prog.info? 126).map (fun i => (i.zero, i.size, i.bytes)) = some (some (.agg #[.string ByteArray.empty, .nilIface]), 2, 32) := by kernel_rfl
theorem Tryz.infoT : (Tryz.prog.info? 29).map (fun i => (i.zero, i.size, i.bytes)) = some (some (.agg (tcells 0 false 0 0 ByteArray.empty (.slice none 0 0) 0 (.slice none 0 0) (.slice none 0 0) ByteArray.empty 0)), 11, 152) := by kernel_rfl
theorem Tryz.infoB : (Tryz.prog.info? 5).map (fun i => (i.zero, i.size, i.bytes)) = some (some (.int .u8 0), 1, 1) := by kernel_rfl
theorem Tryz.undL : Tryz.prog.underlying 71 = some (.slice 20) := by kernel_rfl
theorem Tryz.undD : Tryz.prog.underlying 73 = some (.slice 126) := by kernel_rfl
theorem Tryz.undT : Tryz.prog.underlying 26 = some (.slice 29) := by kernel_rfl
theorem Tryz.undB : Tryz.prog.underlying 23 = some (.slice 5) := by kernel_rfl
end Go.Proofs.YtjdjpbdfchhcfaaGreat

/- A list of values that is being built: its first ones are those of a list of terms, what is left stands behind. -/
namespace Go.Proofs.YtjdjpbdfchhcfaaGreat
open Go.RowKit

def Fr (w w' : World) : Nat → Prop := fun k => w.heap.size ≤ k ∧ k < w'.heap.size
def Own (b : Nat) (w' : World) (g : Nat) : Nat → Prop := fun k => b ≤ k ∧ k < w'.heap.size ∧ k ≠ g

def VPre (w : World) (S : Nat → Prop) : TmL → List Value → TmL → Prop
  | L, [], l => L = l
  | .cons t L, x :: xs, l => t.V w S x ∧ VPre w S L xs l
  | .nil, _ :: _, _ => False
def FPre (w : World) (S : Nat → Prop) : TmF → List Value → TmF → Prop
  | L, [], l => L = l
  | .cons n t L, y :: x :: xs, l => y = .string n ∧ n.size ≤ maxLen ∧ t.V w S x ∧ FPre w S L xs l
  | _, _, _ => False

theorem VPre_nil {w : World} {S : Nat → Prop} (L l : TmL) : VPre w S L [] l ↔ L = l := by cases L <;> rfl
theorem FPre_nil {w : World} {S : Nat → Prop} (L l : TmF) : FPre w S L [] l ↔ L = l := by cases L <;> rfl
theorem VPre.same {w w' : World} {S S' : Nat → Prop} (hs : Same S w w') (hS : ∀ k, S k → S' k) : (L : TmL) → ∀ xs l, VPre w S L xs l → VPre w' S' L xs l
  | L, [], l, h => (VPre_nil L l).2 ((VPre_nil L l).1 h)
  | .nil, x :: xs, l, h => by simp [VPre] at h
  | .cons t L, x :: xs, l, h => by
    simp only [VPre] at h ⊢
    exact ⟨t.V_same hs hS x h.1, VPre.same hs hS L xs l h.2⟩
theorem VPre.snoc {w : World} {S : Nat → Prop} : (L : TmL) → ∀ xs t l x, VPre w S L xs (.cons t l) → t.V w S x → VPre w S L (xs ++ [x]) l
  | L, [], t, l, x, h, hx => by
    obtain rfl := (VPre_nil _ _).1 h
    simp only [List.nil_append, VPre]
    exact ⟨hx, trivial⟩
  | .nil, y :: ys, t, l, x, h, hx => by simp [VPre] at h
  | .cons u L, y :: ys, t, l, x, h, hx => by
    simp only [List.cons_append, VPre] at h ⊢
    exact ⟨h.1, VPre.snoc L ys t l x h.2 hx⟩
theorem VPre.done {w : World} {S S' : Nat → Prop} (hS : ∀ k, S k → S' k) (g : Nat) (hg : S' g) : (L : TmL) → ∀ (xs : List Value) (j : Nat), VPre w S L xs .nil → (∀ i x, xs[i]? = some x → w.cell? ⟨g, j + i, none⟩ = some x) → L.V w S' (some ⟨g, 0, none⟩) j
  | .nil, _, _, _, _ => by simp [TmL.V]
  | .cons t L, [], j, h, _ => by simp [VPre] at h
  | .cons t L, x :: xs, j, h, hc => by
    simp only [VPre, TmL.V] at h ⊢
    refine ⟨g, 0, x, rfl, hg, by simpa using hc 0 x rfl, t.V_same (Same.refl _ _) hS x h.1, VPre.done hS g hg L xs (j + 1) h.2 ?_⟩
    intro i y hi
    have := hc (i + 1) y (by simpa using hi)
    rw [show j + 1 + i = j + (i + 1) by omega]; exact this
theorem FPre.same {w w' : World} {S S' : Nat → Prop} (hs : Same S w w') (hS : ∀ k, S k → S' k) : (L : TmF) → ∀ xs l, FPre w S L xs l → FPre w' S' L xs l
  | L, [], l, h => (FPre_nil L l).2 ((FPre_nil L l).1 h)
  | .nil, x :: xs, l, h => by cases xs <;> simp [FPre] at h
  | .cons n t L, [x], l, h => by simp [FPre] at h
  | .cons n t L, y :: x :: xs, l, h => by
    simp only [FPre] at h ⊢
    exact ⟨h.1, h.2.1, t.V_same hs hS x h.2.2.1, FPre.same hs hS L xs l h.2.2.2⟩
theorem FPre.snoc {w : World} {S : Nat → Prop} : (L : TmF) → ∀ xs n t l x, FPre w S L xs (.cons n t l) → n.size ≤ maxLen → t.V w S x → FPre w S L (xs ++ [.string n, x]) l
  | L, [], n, t, l, x, h, hn, hx => by
    obtain rfl := (FPre_nil _ _).1 h
    simp only [List.nil_append, FPre]
    exact ⟨trivial, hn, hx, trivial⟩
  | .nil, y :: ys, n, t, l, x, h, hn, hx => by cases ys <;> simp [FPre] at h
  | .cons m u L, [y], n, t, l, x, h, hn, hx => by simp [FPre] at h
  | .cons m u L, y :: z :: ys, n, t, l, x, h, hn, hx => by
    simp only [List.cons_append, FPre] at h ⊢
    exact ⟨h.1, h.2.1, h.2.2.1, FPre.snoc L ys n t l x h.2.2.2 hn hx⟩
theorem FPre.done {w : World} {S S' : Nat → Prop} (hS : ∀ k, S k → S' k) (g : Nat) (hg : S' g) : (L : TmF) → ∀ (xs : List Value) (j : Nat), FPre w S L xs .nil → (∀ i x, xs[i]? = some x → w.cell? ⟨g, j * 2 + i, none⟩ = some x) → L.V w S' (some ⟨g, 0, none⟩) j
  | .nil, _, _, _, _ => by simp [TmF.V]
  | .cons n t L, [], j, h, _ => by simp [FPre] at h
  | .cons n t L, [x], j, h, _ => by simp [FPre] at h
  | .cons n t L, y :: x :: xs, j, h, hc => by
    simp only [FPre, TmF.V] at h ⊢
    obtain ⟨rfl, hn, hx, h⟩ := h
    refine ⟨g, 0, x, rfl, hg, by simpa using hc 0 _ rfl, by simpa using hc 1 x rfl, hn, t.V_same (Same.refl _ _) hS x hx, FPre.done hS g hg L xs (j + 1) h ?_⟩
    intro i y hi
    have := hc (i + 2) y (by simpa using hi)
    rw [show (j + 1) * 2 + i = j * 2 + (i + 2) by omega]; exact this

theorem eleven {w : World} {g o : Nat} {k : Int} {b : Bool} {i : Int} {f : Nat} {tx : ByteArray} {vb : Value} {rf : Int} {vl vf : Value} {c : ByteArray} {vr : Int}
    (h : ∀ x, x < 11 → w.cell? ⟨g, o + x, none⟩ = (tcells k b i f tx vb rf vl vf c vr)[x]?) :
    w.cell? ⟨g, o, none⟩ = some (.int .i64 k) ∧ w.cell? ⟨g, o + 1, none⟩ = some (.bool b) ∧ w.cell? ⟨g, o + 2, none⟩ = some (.int .i64 i) ∧ w.cell? ⟨g, o + 3, none⟩ = some (.float .f64 f) ∧ w.cell? ⟨g, o + 4, none⟩ = some (.string tx) ∧ w.cell? ⟨g, o + 5, none⟩ = some vb ∧ w.cell? ⟨g, o + 6, none⟩ = some (.int .u64 rf) ∧ w.cell? ⟨g, o + 7, none⟩ = some vl ∧ w.cell? ⟨g, o + 8, none⟩ = some vf ∧ w.cell? ⟨g, o + 9, none⟩ = some (.string c) ∧ w.cell? ⟨g, o + 10, none⟩ = some (.int .i64 vr) :=
  ⟨h 0 (by decide), h 1 (by decide), h 2 (by decide), h 3 (by decide), h 4 (by decide), h 5 (by decide), h 6 (by decide), h 7 (by decide), h 8 (by decide), h 9 (by decide), h 10 (by decide)⟩
end Go.Proofs.YtjdjpbdfchhcfaaGreat

/- The Go function tenonref01.Name tells whether a text is a name. -/
namespace Go.Proofs.YtjdjpbdfchhcfaaGreat
open Go.RowKit

theorem ch_eq (k : Nat) (c : Int) : Sp.ch k c = decide ((97 ≤ c ∧ c ≤ 122) ∨ (k ≠ 0 ∧ ((48 ≤ c ∧ c ≤ 57) ∨ c = 95))) := by
  rw [Bool.eq_iff_iff]; simp [Sp.ch, Sp.letter, Sp.digit]
theorem nmTo_c {s : ByteArray} {k : Nat} (h : Sp.nmTo s k = true) (hc : (97 ≤ Sp.byte s k ∧ Sp.byte s k ≤ 122) ∨ (k ≠ 0 ∧ ((48 ≤ Sp.byte s k ∧ Sp.byte s k ≤ 57) ∨ Sp.byte s k = 95))) : Sp.nmTo s (k + 1) = true := by
  rw [Sp.nmTo, h, ch_eq]; simp only [hc, decide_true, Bool.and_self]
theorem isNm_no {s : ByteArray} {k : Nat} (hk : k < s.size) (hc : ¬ ((97 ≤ Sp.byte s k ∧ Sp.byte s k ≤ 122) ∨ (k ≠ 0 ∧ ((48 ≤ Sp.byte s k ∧ Sp.byte s k ≤ 57) ∨ Sp.byte s k = 95)))) : Sp.isNm s = false :=
  isNm_bad s k hk (by rw [ch_eq]; simp only [hc, decide_false])

set_option maxRecDepth 100000 in
set_option maxHeartbeats 1000000 in
theorem Name_any (s : ByteArray) (w : World) (hs : s.size ≤ maxLen) :
    Calls Tryz.prog 92 #[.string s] w fun e w' => e = .returned (.bool (Sp.isNm s)) ∧ w = w' := by
  unfold maxLen at hs
  by_cases h0 : s.size = 0
  · have H : Hid (Sp.isNm s = false) := by show _ = _; simp [Sp.isNm]; omega
    go_enter Tryz.func92, Tryz.ntmps92
    go_wp2_with fail
    go_ret
    exact ⟨ret_bool H.out.symm, rfl⟩
  · by_cases h32 : 32 < s.size
    · have H : Hid (Sp.isNm s = false) := by show _ = _; simp [Sp.isNm]; omega
      go_enter Tryz.func92, Tryz.ntmps92
      go_wp2_with fail
      go_ret
      exact ⟨ret_bool H.out.symm, rfl⟩
    · go_enter Tryz.func92, Tryz.ntmps92
      go_wp2_with fail
      go_loop [3] (fun i => ∃ k : Nat, k ≤ s.size ∧ i = .int .i64 k ∧ Hid (Sp.nmTo s k = true)) (fun i => s.size - (intOf i).toNat)
      case atStart => exact ⟨0, by omega, rfl, rfl⟩
      case round =>
        obtain ⟨k, hk, rfl, HK⟩ := hrel
        by_cases hlt : k < s.size
        · have hbk := byte_bd s k
          have ek := byte_at s k hlt
          by_cases hgood : (97 ≤ Sp.byte s k ∧ Sp.byte s k ≤ 122) ∨ (k ≠ 0 ∧ ((48 ≤ Sp.byte s k ∧ Sp.byte s k ≤ 57) ∨ Sp.byte s k = 95))
          · have HK' : Hid (Sp.nmTo s (k + 1) = true) := nmTo_c HK.out hgood
            rcases hgood with ⟨ha, hb⟩ | ⟨hk0, ⟨ha, hb⟩ | h95⟩
            · go_wp2_with fail
              go_round
              case rel => exact ⟨k + 1, by omega, by go_num, HK'⟩
              case measure => simp [intOf]; omega
            · have h95' : (Sp.byte s k != 95) = true := by simp; omega
              have hk0' : ((k : Int) == 0) = false := by simp; omega
              go_wp2_with fail
              go_round
              case rel => exact ⟨k + 1, by omega, by go_num, HK'⟩
              case measure => simp [intOf]; omega
            · have h95' : (Sp.byte s k != 95) = false := by simp [h95]
              have hk0' : ((k : Int) == 0) = false := by simp; omega
              have h96 : Sp.byte s k < 97 := by omega
              clear h95
              go_wp2_with fail
              go_round
              case rel => exact ⟨k + 1, by omega, by go_num, HK'⟩
              case measure => simp [intOf]; omega
          · have H : Hid (Sp.isNm s = false) := isNm_no hlt hgood
            by_cases hk0 : k = 0
            · subst hk0
              by_cases h97 : Sp.byte s 0 < 97
              · clear hgood
                go_wp2_with fail
                go_ret
                exact ⟨ret_bool H.out.symm, rfl⟩
              · have h122 : decide (Sp.byte s 0 ≤ 122) = false := by simp; omega
                clear hgood
                go_wp2_with fail
                go_ret
                exact ⟨ret_bool H.out.symm, rfl⟩
            · have h95' : (Sp.byte s k != 95) = true := by simp; omega
              have hk0' : ((k : Int) == 0) = false := by simp; omega
              by_cases h48 : Sp.byte s k < 48
              · clear hgood
                go_wp2_with fail
                go_ret
                exact ⟨ret_bool H.out.symm, rfl⟩
              · have h57 : 57 < Sp.byte s k := by omega
                by_cases h97 : Sp.byte s k < 97
                · clear hgood
                  go_wp2_with fail
                  go_ret
                  exact ⟨ret_bool H.out.symm, rfl⟩
                · have h122 : decide (Sp.byte s k ≤ 122) = false := by simp; omega
                  clear hgood
                  go_wp2_with fail
                  go_ret
                  exact ⟨ret_bool H.out.symm, rfl⟩
        · go_wp2_with fail
          go_ret
          exact ⟨ret_bool (by rw [isNm_of s (by omega) (by omega), show s.size = k by omega]; exact HK.out.symm), rfl⟩
end Go.Proofs.YtjdjpbdfchhcfaaGreat

/- tenonref01.own: what is wrong with a part by itself, as the plain mathematics says it. -/
namespace Go.Proofs.YtjdjpbdfchhcfaaGreat
open Go.RowKit

section
variable (k : Int) (b : Bool) (i : Int) (f : Nat) (tx : ByteArray) (ab : Option Addr) (nb cb : Nat) (rf : Int) (al : Option Addr) (nl cl : Nat) (af : Option Addr) (nf cf : Nat) (c : ByteArray) (vr p n : Int) (w : World)
set_option maxRecDepth 100000 in
set_option maxHeartbeats 1000000 in
theorem own_ent (h : Sp.ent k p n ≠ 0) :
    Calls Tryz.prog 81 #[.agg (tcells k b i f tx (.slice ab nb cb) rf (.slice al nl cl) (.slice af nf cf) c vr), .int .i64 p, .int .i64 n] w fun e w' => e = .returned (.int .i64 (Sp.ent k p n)) ∧ Below w.heap.size w w' := by
  unfold tcells
  by_cases h11 : k = 11
  · have hk : (k == 11) = true := by simp [h11]
    have H : Hid (Sp.ent k p n = 7) := by show _ = _; simp [Sp.ent, h11]
    clear h h11
    go_enter Tryz.func81, Tryz.ntmps81
    go_wp2_with fail
    go_ret
    exact ⟨ret_int H.out.symm, (Below.refl _ _).alloc (Nat.le_refl _) _⟩
  · have hk : (k == 11) = false := by simp [h11]
    by_cases h1 : k < 1
    · have H : Hid (Sp.ent k p n = 6) := by show _ = _; simp [Sp.ent, h11, h1]
      clear h h11
      go_enter Tryz.func81, Tryz.ntmps81
      go_wp2_with fail
      go_ret
      exact ⟨ret_int H.out.symm, (Below.refl _ _).alloc (Nat.le_refl _) _⟩
    · by_cases h10 : 10 < k
      · have H : Hid (Sp.ent k p n = 6) := by show _ = _; simp [Sp.ent, h11, h10]
        clear h h11
        go_enter Tryz.func81, Tryz.ntmps81
        go_wp2_with fail
        go_ret
        exact ⟨ret_int H.out.symm, (Below.refl _ _).alloc (Nat.le_refl _) _⟩
      · by_cases hp : 16384 ≤ p
        · have H : Hid (Sp.ent k p n = 2) := by show _ = _; simp [Sp.ent, h11, h10, h1, hp]
          clear h h11
          go_enter Tryz.func81, Tryz.ntmps81
          go_wp2_with fail
          go_ret
          exact ⟨ret_int H.out.symm, (Below.refl _ _).alloc (Nat.le_refl _) _⟩
        · by_cases hn : 64 < n
          · have H : Hid (Sp.ent k p n = 2) := by show _ = _; simp [Sp.ent, h11, h10, h1, hn]
            clear h h11
            go_enter Tryz.func81, Tryz.ntmps81
            go_wp2_with fail
            go_ret
            exact ⟨ret_int H.out.symm, (Below.refl _ _).alloc (Nat.le_refl _) _⟩
          · exact absurd (by simp [Sp.ent, h11, h10, h1, hp, hn]) h

set_option maxRecDepth 100000 in
set_option maxHeartbeats 1000000 in
theorem own_plain (h : Sp.ent k p n = 0) (h5 : k ≠ 5) (h6 : k ≠ 6) (h8 : k ≠ 8) (h9 : k ≠ 9) (h10 : k ≠ 10) :
    Calls Tryz.prog 81 #[.agg (tcells k b i f tx (.slice ab nb cb) rf (.slice al nl cl) (.slice af nf cf) c vr), .int .i64 p, .int .i64 n] w fun e w' => e = .returned (.int .i64 0) ∧ Below w.heap.size w w' := by
  unfold tcells
  obtain ⟨a1, a2, a3, a4⟩ := Sp.ent_zero h
  have b11 : (k == 11) = false := by simp; omega
  have b10 : (k == 10) = false := by simp; omega
  have b5 : (k == 5) = false := by simp; omega
  have b6 : (k == 6) = false := by simp; omega
  have b8 : (k == 8) = false := by simp; omega
  have b9 : (k != 9) = true := by simp; omega
  have b10' : (k != 10) = true := by simp; omega
  clear h h5 h6 h8 h9 h10
  go_enter Tryz.func81, Tryz.ntmps81
  go_wp2_with fail
  go_ret
  exact ⟨rfl, (Below.refl _ _).alloc (Nat.le_refl _) _⟩

set_option maxRecDepth 100000 in
set_option maxHeartbeats 1000000 in
theorem own_5 (h : Sp.ent 5 p n = 0) :
    Calls Tryz.prog 81 #[.agg (tcells 5 b i f tx (.slice ab nb cb) rf (.slice al nl cl) (.slice af nf cf) c vr), .int .i64 p, .int .i64 n] w fun e w' => e = .returned (.int .i64 (Sp.len tx.size 65536)) ∧ Below w.heap.size w w' := by
  unfold tcells
  obtain ⟨a1, a2, a3, a4⟩ := Sp.ent_zero h
  clear h a1 a2
  by_cases hl : 65536 < tx.size
  · have H : Hid (Sp.len tx.size 65536 = 2) := by show _ = _; unfold Sp.len; rw [if_neg (by omega)]
    go_enter Tryz.func81, Tryz.ntmps81
    go_wp2_with fail
    go_ret
    exact ⟨ret_int H.out.symm, (Below.refl _ _).alloc (Nat.le_refl _) _⟩
  · have H : Hid (Sp.len tx.size 65536 = 0) := by show _ = _; unfold Sp.len; rw [if_pos (by omega)]
    have hl' : decide (65536 < (tx.size : Int)) = false := by simp; omega
    go_enter Tryz.func81, Tryz.ntmps81
    go_wp2_with fail
    go_ret
    exact ⟨ret_int H.out.symm, (Below.refl _ _).alloc (Nat.le_refl _) _⟩

set_option maxRecDepth 100000 in
set_option maxHeartbeats 1000000 in
theorem own_6 (h : Sp.ent 6 p n = 0) :
    Calls Tryz.prog 81 #[.agg (tcells 6 b i f tx (.slice ab nb cb) rf (.slice al nl cl) (.slice af nf cf) c vr), .int .i64 p, .int .i64 n] w fun e w' => e = .returned (.int .i64 (Sp.len nb 65536)) ∧ Below w.heap.size w w' := by
  unfold tcells
  obtain ⟨a1, a2, a3, a4⟩ := Sp.ent_zero h
  clear h a1 a2
  by_cases hl : 65536 < nb
  · have H : Hid (Sp.len nb 65536 = 2) := by show _ = _; unfold Sp.len; rw [if_neg (by omega)]
    go_enter Tryz.func81, Tryz.ntmps81
    go_wp2_with fail
    go_ret
    exact ⟨ret_int H.out.symm, (Below.refl _ _).alloc (Nat.le_refl _) _⟩
  · have H : Hid (Sp.len nb 65536 = 0) := by show _ = _; unfold Sp.len; rw [if_pos (by omega)]
    have hl' : decide (65536 < (nb : Int)) = false := by simp; omega
    go_enter Tryz.func81, Tryz.ntmps81
    go_wp2_with fail
    go_ret
    exact ⟨ret_int H.out.symm, (Below.refl _ _).alloc (Nat.le_refl _) _⟩

set_option maxRecDepth 100000 in
set_option maxHeartbeats 1000000 in
theorem own_8 (h : Sp.ent 8 p n = 0) :
    Calls Tryz.prog 81 #[.agg (tcells 8 b i f tx (.slice ab nb cb) rf (.slice al nl cl) (.slice af nf cf) c vr), .int .i64 p, .int .i64 n] w fun e w' => e = .returned (.int .i64 (Sp.len nl 4096)) ∧ Below w.heap.size w w' := by
  unfold tcells
  obtain ⟨a1, a2, a3, a4⟩ := Sp.ent_zero h
  clear h a1 a2
  by_cases hl : 4096 < nl
  · have H : Hid (Sp.len nl 4096 = 2) := by show _ = _; unfold Sp.len; rw [if_neg (by omega)]
    go_enter Tryz.func81, Tryz.ntmps81
    go_wp2_with fail
    go_ret
    exact ⟨ret_int H.out.symm, (Below.refl _ _).alloc (Nat.le_refl _) _⟩
  · have H : Hid (Sp.len nl 4096 = 0) := by show _ = _; unfold Sp.len; rw [if_pos (by omega)]
    have hl' : decide (4096 < (nl : Int)) = false := by simp; omega
    go_enter Tryz.func81, Tryz.ntmps81
    go_wp2_with fail
    go_ret
    exact ⟨ret_int H.out.symm, (Below.refl _ _).alloc (Nat.le_refl _) _⟩

set_option maxRecDepth 100000 in
set_option maxHeartbeats 1000000 in
theorem own_10 (h : Sp.ent 10 p n = 0) (hs : c.size ≤ maxLen) (hh : Sp.headR c vr ≠ 0) :
    Calls Tryz.prog 81 #[.agg (tcells 10 b i f tx (.slice ab nb cb) rf (.slice al nl cl) (.slice af nf cf) c vr), .int .i64 p, .int .i64 n] w fun e w' => e = .returned (.int .i64 (Sp.headR c vr)) ∧ Below w.heap.size w w' := by
  unfold tcells
  obtain ⟨a1, a2, a3, a4⟩ := Sp.ent_zero h
  clear h a1 a2
  cases hn : Sp.isNm c with
  | false =>
    have H : Hid (Sp.headR c vr = 8) := by show _ = _; simp [Sp.headR, hn]
    clear hh
    go_enter Tryz.func81, Tryz.ntmps81
    go_wp2_with (go_at_call 92; refine (Name_any _ _ hs).mono ?_; rintro e w' ⟨rfl, rfl⟩)
    go_ret
    exact ⟨ret_int H.out.symm, (Below.refl _ _).alloc (Nat.le_refl _) _⟩
  | true =>
    by_cases h1 : vr < 1
    · have H : Hid (Sp.headR c vr = 1) := by show _ = _; simp [Sp.headR, hn, h1]
      clear hh
      go_enter Tryz.func81, Tryz.ntmps81
      go_wp2_with (go_at_call 92; refine (Name_any _ _ hs).mono ?_; rintro e w' ⟨rfl, rfl⟩)
      go_ret
      exact ⟨ret_int H.out.symm, (Below.refl _ _).alloc (Nat.le_refl _) _⟩
    · by_cases h2 : 1000 < vr
      · have H : Hid (Sp.headR c vr = 1) := by show _ = _; simp [Sp.headR, hn, h2]
        clear hh
        go_enter Tryz.func81, Tryz.ntmps81
        go_wp2_with (go_at_call 92; refine (Name_any _ _ hs).mono ?_; rintro e w' ⟨rfl, rfl⟩)
        go_ret
        exact ⟨ret_int H.out.symm, (Below.refl _ _).alloc (Nat.le_refl _) _⟩
      · exact absurd (by simp [Sp.headR, hn, h1, h2]) hh
end
end Go.Proofs.YtjdjpbdfchhcfaaGreat

