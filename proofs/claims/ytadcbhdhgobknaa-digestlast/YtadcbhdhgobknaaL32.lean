/- The reader's unfolded, bits and text; making a value of bytes that were looked at: the kinds without parts. -/
import Derived.Test.YtadcbhdhgobknaaL31
import Derived.Test.YtadcbhdhgobknaaL13
import Derived.Test.YtadcbhdhgobknaaL25
import Derived.Test.YtadcbhdhgobknaaL14
import Derived.Test.YtadcbhdhgobknaaL16
namespace Go.Proofs.Ytadcbhdhgobknaa
open Go.RowKit

theorem By.part {xs : List Int} (h : By xs) (a n : Nat) : By ((xs.drop a).take n) := fun x hx => h x (List.mem_of_mem_drop (List.mem_of_mem_take hx))
/-- eight bytes as one number, as far as they came -/
def Sp.cat (l : List Int) : Nat := l.foldl (fun n x => n * 256 + x.toNat) 0
end Go.Proofs.Ytadcbhdhgobknaa

/- Making a value of bytes that were looked at: the kinds without parts. -/
namespace Go.Proofs.Ytadcbhdhgobknaa
open Go.RowKit

theorem byte_txt {l : List Int} {j : Nat} (hj : j < l.length) (hb : By l) : Sp.byte (Sp.txt l) j = l[j] := by
  have h := hb.get (List.getElem?_eq_getElem hj)
  simp [Sp.byte, Sp.txt, strOfNums, Array.getD, hj]
  omega
section
variable (b : Nat) (a : Option Addr) (xs : List Int) (cap at' p : Nat) (w : World) (h : Rdr w b a xs cap at' p)
include h
end
end Go.Proofs.Ytadcbhdhgobknaa

/- A row that is being filled while the reader's block turns; making lists. -/
namespace Go.Proofs.Ytadcbhdhgobknaa
open Go.RowKit

theorem Rdr.same {w w' : World} {b : Nat} {a : Option Addr} {xs : List Int} {cap at' p : Nat} (h : Rdr w b a xs cap at' p) (hs : Same (Lo (b + 1)) w w') : Rdr w' b a xs cap at' p := by
  have hb : w'.heap[b]? = w.heap[b]? := hs b (Nat.lt_succ_self b)
  have hf : ∀ i, w'.frozen? ⟨b, i, none⟩ = w.frozen? ⟨b, i, none⟩ := fun i => World.frozen?_of_block (w := w) hb
  have hc : ∀ i, w'.cell? ⟨b, i, none⟩ = w.cell? ⟨b, i, none⟩ := fun i => World.cell?_of_block (w := w) (a := ⟨b, i, none⟩) hb
  exact ⟨by rw [hc]; exact h.c0, by rw [hc]; exact h.c1, by rw [hc]; exact h.c2, by rw [hf]; exact h.f1, by rw [hf]; exact h.f2, h.rd.same (fun k hk => hs k (Nat.lt_succ_of_lt hk)) (fun _ h => h), h.cp, h.ln, h.le, h.np⟩
theorem Rdr.setN {w : World} {b : Nat} {a : Option Addr} {xs : List Int} {cap at' p g o : Nat} (h : Rdr w b a xs cap at' p) (hg : b < g) (vs : List Value) : Rdr (setN w g o vs) b a xs cap at' p :=
  h.same (fun k hk => setN_other (by have : k < b + 1 := hk; omega) vs w o)
theorem But.alloc {b : Nat} {w w' : World} (h : But b w w') (o : Obj) : But b w (w'.alloc o) := h.call ((Below.refl _ _).alloc (Nat.le_refl _) _)
theorem But.setN {b g o : Nat} {w w' : World} (h : But b w w') (hg : w.heap.size ≤ g) (vs : List Value) : But b w (setN w' g o vs) := by
  have e : Below g w' (Go.Proofs.Ytadcbhdhgobknaa.setN w' g o vs) := setN_below (Nat.le_refl _) vs w' w' o (Below.refl _ _)
  exact ⟨h.lt, e.os.trans h.os, e.tape.trans h.tape, e.output.trans h.output, Nat.le_trans h.size e.size, fun k hk hn => by rw [setN_other (by omega)]; exact h.block k hk hn⟩

/-- block g, new since w, has n cells that can be written; the first of them hold xs; but for the reader's block b nothing has turned -/
structure RWB (b : Nat) (e : TypeId) (w wr : World) (g n : Nat) (xs : List Value) : Prop where
  own : ∀ i, i < n → (∃ u, wr.cell? ⟨g, i, none⟩ = some u) ∧ wr.frozen? ⟨g, i, none⟩ = false
  got : ∀ i x, xs[i]? = some x → wr.cell? ⟨g, i, none⟩ = some x
  len : xs.length ≤ n
  lt : w.heap.size ≤ g ∧ g < wr.heap.size
  bel : But b w wr
  row : ∃ cur, wr.heap[g]? = some (.cells cur e (0, 0)) ∧ cur.size = n
theorem RWB.made {b : Nat} {w w0 : World} (h : But b w w0) (cs : Array Value) (e : TypeId) : RWB b e w (w0.alloc (.cells cs e)) w0.heap.size cs.size [] := by
  refine ⟨fun i hi => ?_, fun i x hx => by simp at hx, by simp, ⟨h.size, by simp⟩, h.alloc _, cs, heap_alloc_new w0 _, rfl⟩
  have hn := heap_alloc_new w0 (.cells cs e)
  refine ⟨⟨cs[i], ?_⟩, frozen_of_row _ _ i _ _ hn⟩
  rw [cell_of_row _ _ i _ _ _ hn]; simp [hi]
theorem RWB.call {b : Nat} {e : TypeId} {w wr w1 : World} {g n : Nat} {xs : List Value} (h : RWB b e w wr g n xs) (hb : But b wr w1) : RWB b e w w1 g n xs := by
  have hl := h.lt
  have hz := hb.size
  have hlt := h.bel.lt
  have hg : w1.heap[g]? = wr.heap[g]? := hb.block g hl.2 (by omega)
  have hc : ∀ i, w1.cell? ⟨g, i, none⟩ = wr.cell? ⟨g, i, none⟩ := fun i => World.cell?_of_block (w := wr) (a := ⟨g, i, none⟩) hg
  have hf : ∀ i, w1.frozen? ⟨g, i, none⟩ = wr.frozen? ⟨g, i, none⟩ := fun i => World.frozen?_of_block (w := wr) hg
  exact ⟨fun i hi => by rw [hc, hf]; exact h.own i hi, fun i x hx => by rw [hc]; exact h.got i x hx, h.len, ⟨hl.1, by omega⟩, h.bel.trans hb, by rw [hg]; exact h.row⟩
theorem RWB.set {b : Nat} {e : TypeId} {w wr : World} {g n : Nat} {xs : List Value} (h : RWB b e w wr g n xs) (vs : List Value) (hl : xs.length + vs.length ≤ n) : RWB b e w (Go.Proofs.Ytadcbhdhgobknaa.setN wr g xs.length vs) g n (xs ++ vs) := by
  have hlt := h.lt
  refine ⟨fun i hi => ⟨?_, by rw [setN_frozen]; exact (h.own i hi).2⟩, fun i x hx => ?_, by simp; omega, ⟨hlt.1, by rw [setN_size]; exact hlt.2⟩, h.bel.setN hlt.1 vs, setN_row _ _ _ h.row⟩
  · by_cases hin : i < xs.length ∨ xs.length + vs.length ≤ i
    · rw [setN_out vs _ _ hin]; exact (h.own i hi).1
    · obtain ⟨k, rfl⟩ : ∃ k, i = xs.length + k := ⟨i - xs.length, by omega⟩
      have hk : k < vs.length := by omega
      exact ⟨vs[k], setN_in vs _ _ k _ (List.getElem?_eq_getElem hk) (h.own _ hi).1⟩
  · by_cases hin : i < xs.length
    · rw [List.getElem?_append_left hin] at hx
      rw [setN_out vs _ _ (.inl hin)]; exact h.got i x hx
    · obtain ⟨k, rfl⟩ : ∃ k, i = xs.length + k := ⟨i - xs.length, by omega⟩
      rw [List.getElem?_append_right (by omega), Nat.add_sub_cancel_left] at hx
      have hk : k < vs.length := (List.getElem?_eq_some_iff.1 hx).1
      exact setN_in vs _ _ k x hx (h.own _ (by omega)).1
/-- but for the blocks b and g nothing has turned -/
structure Bu2 (b g : Nat) (w w' : World) : Prop where
  size : w.heap.size ≤ w'.heap.size
  block : ∀ k, k < w.heap.size → k ≠ b → k ≠ g → w'.heap[k]? = w.heap[k]?
theorem Bu2.of {b g : Nat} {w w' : World} (h : But b w w') : Bu2 b g w w' := ⟨h.size, fun k hk hb _ => h.block k hk hb⟩
theorem Bu2.set {b g o : Nat} {w w' : World} (h : Bu2 b g w w') (vs : List Value) : Bu2 b g w (setN w' g o vs) := ⟨by rw [setN_size]; exact h.size, fun k hk hb hg => by rw [setN_other hg]; exact h.block k hk hb hg⟩
theorem Bu2.trans {b g : Nat} {w w1 w2 : World} (h : Bu2 b g w w1) (k : Bu2 b g w1 w2) : Bu2 b g w w2 := ⟨Nat.le_trans h.size k.size, fun i hi hb hg => (k.block i (Nat.lt_of_lt_of_le hi h.size) hb hg).trans (h.block i hi hb hg)⟩
theorem Bu2.kept {b g B : Nat} {w w' : World} (h : Bu2 b g w w') (hB : b < B) : Same (Own B w g) w w' := fun k hk => h.block k hk.2.1 (by have := hk.1; omega) hk.2.2
theorem Bu2.up {b g B : Nat} {w w' : World} (h : Bu2 b g w w') : ∀ k, Own B w g k → Own B w' g k := fun _ hk => ⟨hk.1, Nat.lt_of_lt_of_le hk.2.1 h.size, hk.2.2⟩
/-- the contract of the reader's made, at bytes that were looked at -/
def MC (xs : List Int) (f : Nat) : Prop := ∀ (b : Nat) (a : Option Addr) (cap at' p p0 : Nat) (t : Tm) (p2 a2 : Nat) (w : World), Rdr w b a xs cap at' p → Sp.rdV xs f at' p0 = .ok (t, p2) a2 →
  Calls Try.prog 53 #[.pointer (some ⟨b, 0, none⟩)] w fun e w' => ∃ v, e = .returned v ∧ Rdr w' b a xs cap a2 p ∧ But b w w' ∧ t.V w' (Fr w w') v

end Go.Proofs.Ytadcbhdhgobknaa

/- Making the fields of a dict or a record. -/
namespace Go.Proofs.Ytadcbhdhgobknaa
open Go.RowKit

end Go.Proofs.Ytadcbhdhgobknaa

/- Making dicts, records, and whatever value. -/
namespace Go.Proofs.Ytadcbhdhgobknaa
open Go.RowKit

section
variable (b : Nat) (a : Option Addr) (xs : List Int) (cap at' p : Nat) (w : World) (h : Rdr w b a xs cap at' p)
include h
end

end Go.Proofs.Ytadcbhdhgobknaa

/- wire.Decode and wire.Skip at bytes that begin with a value. -/
namespace Go.Proofs.Ytadcbhdhgobknaa
open Go.RowKit

theorem RdB.take {w : World} {B : Nat → Prop} {a : Option Addr} {xs : List Int} (h : RdB w B a xs) (n : Nat) : RdB w B a (xs.take n) := fun j u hu => by
  rw [List.getElem?_take] at hu
  split at hu
  · exact h j u hu
  · simp at hu
theorem By.take {xs : List Int} (h : By xs) (n : Nat) : By (xs.take n) := fun x hx => h x (List.mem_of_mem_take hx)

end Go.Proofs.Ytadcbhdhgobknaa

/- value.termOf, kind by kind. -/
namespace Go.Proofs.Ytadcbhdhgobknaa
open Go.RowKit

/-- two boxes of terms: what they hold later -/
theorem boxes_at {w : World} {o p : Obj} {w1 : World} (h : Below ((w.alloc o).alloc p).heap.size ((w.alloc o).alloc p) w1) : w1.heap[w.heap.size]? = some o ∧ w1.heap[w.heap.size + 1]? = some p ∧ Below w.heap.size w w1 ∧ w.heap.size + 2 ≤ w1.heap.size := by
  refine ⟨?_, ?_, below_to (((Below.refl _ _).alloc (Nat.le_refl _) _).alloc (by simp) _) h, by have := h.size; simpa using this⟩
  · rw [h.block w.heap.size (by simp; omega), Below.heap_alloc _ _ _ (by simp)]; exact heap_alloc_new w o
  · rw [h.block (w.heap.size + 1) (by simp)]; have := heap_alloc_new (w.alloc o) p; simpa using this

end Go.Proofs.Ytadcbhdhgobknaa

/- value.termOf at a record. -/
namespace Go.Proofs.Ytadcbhdhgobknaa
open Go.RowKit

theorem Bd.leaf {k i : Int} {f : Nat} {tx c : ByteArray} {nb nl nf : Nat} {rf vr : Int} (h0 : 1 ≤ k ∧ k ≤ 10) (hi : -9223372036854775808 ≤ i ∧ i ≤ 9223372036854775807) (hf : f < 18446744073709551616) (hr : 0 ≤ rf ∧ rf ≤ 18446744073709551615) (hv : -9223372036854775808 ≤ vr ∧ vr ≤ 9223372036854775807) (h1 : tx.size ≤ 65536) (h2 : c.size ≤ 65536) (h3 : nb ≤ 65536) (h4 : nl ≤ 4096) (h5 : nf ≤ 4096) : Bd k i f tx nb rf nl nf c vr :=
  ⟨by omega, by omega, hi.1, hi.2, hf, hr.1, hr.2, hv.1, hv.2, by omega, by omega, by omega, by omega, by omega⟩
theorem empty_size : ByteArray.empty.size = 0 := rfl

section
variable {b : Bool} {i : Int} {f : Nat} {tx : ByteArray} {by' : ByteArray} {rf : Int} {l : TmL} {fs : TmF} {c : ByteArray} {v : Int}
theorem Tm.clean_1 : (Tm.mk 1 b i f tx by' rf l fs c v).clean = .mk 1 false 0 0 ByteArray.empty ByteArray.empty 0 .nil .nil ByteArray.empty 0 := by simp [Tm.clean]
theorem Tm.clean_2 : (Tm.mk 2 b i f tx by' rf l fs c v).clean = .mk 2 b 0 0 ByteArray.empty ByteArray.empty 0 .nil .nil ByteArray.empty 0 := by simp [Tm.clean]
theorem Tm.clean_3 : (Tm.mk 3 b i f tx by' rf l fs c v).clean = .mk 3 false i 0 ByteArray.empty ByteArray.empty 0 .nil .nil ByteArray.empty 0 := by simp [Tm.clean]
theorem Tm.clean_4 : (Tm.mk 4 b i f tx by' rf l fs c v).clean = .mk 4 false 0 f ByteArray.empty ByteArray.empty 0 .nil .nil ByteArray.empty 0 := by simp [Tm.clean]
theorem Tm.clean_5 : (Tm.mk 5 b i f tx by' rf l fs c v).clean = .mk 5 false 0 0 tx ByteArray.empty 0 .nil .nil ByteArray.empty 0 := by simp [Tm.clean]
theorem Tm.clean_6 : (Tm.mk 6 b i f tx by' rf l fs c v).clean = .mk 6 false 0 0 ByteArray.empty by' 0 .nil .nil ByteArray.empty 0 := by simp [Tm.clean]
theorem Tm.clean_7 : (Tm.mk 7 b i f tx by' rf l fs c v).clean = .mk 7 false 0 0 ByteArray.empty ByteArray.empty rf .nil .nil ByteArray.empty 0 := by simp [Tm.clean]
theorem Tm.clean_8 : (Tm.mk 8 b i f tx by' rf l fs c v).clean = .mk 8 false 0 0 ByteArray.empty ByteArray.empty 0 l.clean .nil ByteArray.empty 0 := by simp [Tm.clean]
theorem Tm.clean_9 : (Tm.mk 9 b i f tx by' rf l fs c v).clean = .mk 9 false 0 0 ByteArray.empty ByteArray.empty 0 .nil fs.clean ByteArray.empty 0 := by simp [Tm.clean]
theorem Tm.clean_10 : (Tm.mk 10 b i f tx by' rf l fs c v).clean = .mk 10 false 0 0 ByteArray.empty ByteArray.empty 0 .nil fs.clean c v := by simp [Tm.clean]
end

end Go.Proofs.Ytadcbhdhgobknaa

/- tenonmake.plain and tenonmake.entries: the term of a value, made by appending. -/
namespace Go.Proofs.Ytadcbhdhgobknaa
open Go.RowKit

def Tm.OkAt (t : Tm) (n : Int) : Prop := ∃ p d, (t.wk n p d).e = 0
def TmL.OkAt (l : TmL) (n : Int) : Prop := ∃ p d, (l.wk n p d).e = 0
def TmF.OkAt (l : TmF) (n : Int) : Prop := ∃ p d, (l.wk n p d).e = 0
theorem Tm.OkAt.ok {t : Tm} {n : Int} (h : t.OkAt n) : t.Ok := by obtain ⟨p, d, h⟩ := h; exact ⟨n, p, d, h⟩
theorem TmL.OkAt.head {t : Tm} {l : TmL} {n : Int} (h : TmL.OkAt (.cons t l) n) : t.OkAt n ∧ l.OkAt n := by
  obtain ⟨p, d, h⟩ := h
  rw [TmL.wk] at h
  by_cases e : (t.wk n p d).e ≠ 0
  · rw [if_pos e] at h; exact absurd h e
  · rw [if_neg e] at h; exact ⟨⟨p, d, Decidable.not_not.1 e⟩, ⟨_, _, h⟩⟩
theorem TmF.OkAt.head {m : ByteArray} {t : Tm} {l : TmF} {n : Int} (h : TmF.OkAt (.cons m t l) n) : t.OkAt n ∧ l.OkAt n := by
  obtain ⟨p, d, h⟩ := h
  rw [TmF.wk] at h
  by_cases e : (t.wk n p d).e ≠ 0
  · rw [if_pos e] at h; exact absurd h e
  · rw [if_neg e] at h; exact ⟨⟨p, d, Decidable.not_not.1 e⟩, ⟨_, _, h⟩⟩
theorem Tm.OkAt.parts {k : Int} {b : Bool} {i : Int} {f : Nat} {tx : ByteArray} {by' : ByteArray} {rf : Int} {l : TmL} {fs : TmF} {c : ByteArray} {v n : Int} (h : Tm.OkAt (.mk k b i f tx by' rf l fs c v) n) :
    n ≤ 64 ∧ (k = 8 → l.OkAt (n + 1)) ∧ (k = 9 ∨ k = 10 → fs.OkAt (n + 1)) := by
  obtain ⟨p, d, h⟩ := h
  rw [Tm.wk] at h
  by_cases e : (Tm.mk k b i f tx by' rf l fs c v).own p n ≠ 0
  · rw [if_pos e] at h; exact absurd h e
  · rw [if_neg e] at h
    have hz := Sp.ent_zero (Tm.own_ent _ _ _ (Decidable.not_not.1 e))
    refine ⟨hz.2.2.2, fun h8 => ?_, fun h9 => ?_⟩
    · rw [if_pos h8] at h; exact ⟨_, _, h⟩
    · rw [if_neg (by omega), if_pos h9] at h; exact ⟨_, _, h⟩

def PlC (N : Nat) : Prop := ∀ (t : Tm), t.sz ≤ N → ∀ (v : Value) (B : Nat → Prop) (w : World) (deep n : Int), t.V w B v → Sub B w → t.OkAt n → t.Bdd → 0 ≤ deep → deep ≤ n →
  Calls Try.prog 73 #[v, .int .i64 deep] w fun e w' => ∃ cs, e = .returned (.agg cs) ∧ Below w.heap.size w w' ∧ t.clean.In w' (Fr w w') cs
theorem PlC.at {N : Nat} (HC : PlC N) {t : Tm} (hN : t.sz ≤ N) {v : Value} {B : Nat → Prop} {w : World} {deep n : Int} (h : t.V w B v) (hB : Sub B w) (ho : t.OkAt n) (hb : t.Bdd) (h0 : 0 ≤ deep) (h1 : deep ≤ n) :
    ∀ W, Below w.heap.size w W → Calls Try.prog 73 #[v, .int .i64 deep] W fun e w' => ∃ k b i f tx ab nb cb rf al nl cl af nf cf c vr, e = .returned (.agg (tcells k b i f tx (.slice ab nb cb) rf (.slice al nl cl) (.slice af nf cf) c vr)) ∧ Below W.heap.size W w' ∧ t.clean.In w' (Fr W w') (tcells k b i f tx (.slice ab nb cb) rf (.slice al nl cl) (.slice af nf cf) c vr) := by
  intro W hW
  refine (HC t hN v B W deep n (t.V_same (hB.same hW) (fun _ h => h) v h) (hB.later hW) ho hb h0 h1).mono ?_
  rintro e w' ⟨cs, rfl, hb, hv⟩
  obtain ⟨k1, b1, i1, f1, tx1, ab1, nb1, cb1, rf1, al1, nl1, cl1, af1, nf1, cf1, cc1, vr1, rfl⟩ := Tm.In_tc' hv
  exact ⟨k1, b1, i1, f1, tx1, ab1, nb1, cb1, rf1, al1, nl1, cl1, af1, nf1, cf1, cc1, vr1, rfl, hb, hv⟩
end Go.Proofs.Ytadcbhdhgobknaa

