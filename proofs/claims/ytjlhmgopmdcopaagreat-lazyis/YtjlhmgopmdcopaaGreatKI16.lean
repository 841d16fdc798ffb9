/- value.termOf and value.entriesOf: the term of a value that can be, in new memory. -/
import Derived.Test.YtjlhmgopmdcopaaGreatKI15
import Derived.Test.YtjlhmgopmdcopaaGreatKI6
import Derived.Test.YtjlhmgopmdcopaaGreatKI12
import Derived.Test.YtjlhmgopmdcopaaGreatKI4
import Derived.Deep.RegionWith
namespace Go.Proofs.YtjlhmgopmdcopaaGreat
open Go.RowKit

mutual
/-- a term without what plays no part -/
def Tm.clean : Tm → Tm
  | .mk k b i f tx by' rf l fs c v => .mk k (if k = 2 then b else false) (if k = 3 then i else 0) (if k = 4 then f else 0) (if k = 5 then tx else ByteArray.empty) (if k = 6 then by' else ByteArray.empty) (if k = 7 then rf else 0) (if k = 8 then l.clean else .nil) (if k = 9 ∨ k = 10 then fs.clean else .nil) (if k = 10 then c else ByteArray.empty) (if k = 10 then v else 0)
def TmL.clean : TmL → TmL
  | .nil => .nil
  | .cons t l => .cons t.clean l.clean
def TmF.clean : TmF → TmF
  | .nil => .nil
  | .cons n t l => .cons n t.clean l.clean
end
mutual
/-- numbers are in their bounds -/
def Tm.Bdd : Tm → Prop
  | .mk _ _ i f _ _ rf l fs _ v => (-9223372036854775808 ≤ i ∧ i ≤ 9223372036854775807) ∧ f < 18446744073709551616 ∧ (0 ≤ rf ∧ rf ≤ 18446744073709551615) ∧ (-9223372036854775808 ≤ v ∧ v ≤ 9223372036854775807) ∧ l.Bdd ∧ fs.Bdd
def TmL.Bdd : TmL → Prop
  | .nil => True
  | .cons t l => t.Bdd ∧ l.Bdd
def TmF.Bdd : TmF → Prop
  | .nil => True
  | .cons _ t l => t.Bdd ∧ l.Bdd
end
mutual
theorem Tm.In_bdd {w : World} {B : Nat → Prop} : (t : Tm) → ∀ cs, t.In w B cs → t.Bdd
  | .mk k b i f tx by' rf l fs c v, cs, h => by
    simp only [Tm.In] at h
    obtain ⟨ab, cb, al, cl, af, cf, rfl, hbd, hby, hl, hfs⟩ := h
    simp only [Tm.Bdd]
    exact ⟨⟨hbd.i0, hbd.i1⟩, hbd.f1, ⟨hbd.r0, hbd.r1⟩, ⟨hbd.v0, hbd.v1⟩, TmL.In_bdd l _ _ hl, TmF.In_bdd fs _ _ hfs⟩
theorem TmL.In_bdd {w : World} {B : Nat → Prop} : (l : TmL) → ∀ a j, l.In w B a j → l.Bdd
  | .nil, _, _, _ => trivial
  | .cons t l, a, j, h => by
    simp only [TmL.In] at h
    obtain ⟨_, _, _, _, _, _, ht, hl⟩ := h
    exact ⟨Tm.In_bdd t _ ht, TmL.In_bdd l _ _ hl⟩
theorem TmF.In_bdd {w : World} {B : Nat → Prop} : (l : TmF) → ∀ a j, l.In w B a j → l.Bdd
  | .nil, _, _, _ => trivial
  | .cons n t l, a, j, h => by
    simp only [TmF.In] at h
    obtain ⟨_, _, _, _, _, _, _, _, ht, hl⟩ := h
    exact ⟨Tm.In_bdd t _ ht, TmF.In_bdd l _ _ hl⟩
end
theorem TmL.clean_len : (l : TmL) → l.clean.len = l.len
  | .nil => rfl
  | .cons t l => by simp only [TmL.clean, TmL.len, TmL.clean_len l]
theorem TmF.clean_len : (l : TmF) → l.clean.len = l.len
  | .nil => rfl
  | .cons n t l => by simp only [TmF.clean, TmF.len, TmF.clean_len l]

end Go.Proofs.YtjlhmgopmdcopaaGreat

/- tenonref01.seen.part, Check and Size: the reference's walk through a term comes to the plain walk. -/
namespace Go.Proofs.YtjlhmgopmdcopaaGreat
open Go.RowKit

/-- what the reference's walk answers, against the plain walk's numbers -/
def Seen (at' : Int) (r : Wr) (n d a : Int) : Prop := (r.e = 0 → n = r.p ∧ d = r.d ∧ a = at') ∧ (r.e ≠ 0 → a = r.p - 1)

theorem Same.set {S : Nat → Prop} {w w' : World} (h : Same S w w') {p : Addr} (hp : ¬ S p.block) (v : Value) : Same S w (w'.setCell p v) := fun k hk => by
  rw [heap_setCell_other _ _ _ _ (fun e => hp (e ▸ hk))]; exact h k hk

/-- the eleven cells of a term in a box -/
theorem tbox {w : World} {g : Nat} {k : Int} {b : Bool} {i : Int} {f : Nat} {tx : ByteArray} {vb : Value} {rf : Int} {vl vf : Value} {c : ByteArray} {vr : Int}
    (h : w.heap[g]? = some (.cells (tcells k b i f tx vb rf vl vf c vr) 29 (0, 0))) :
    w.cell? ⟨g, 0, none⟩ = some (.int .i64 k) ∧ w.cell? ⟨g, 1, none⟩ = some (.bool b) ∧ w.cell? ⟨g, 2, none⟩ = some (.int .i64 i) ∧ w.cell? ⟨g, 3, none⟩ = some (.float .f64 f) ∧ w.cell? ⟨g, 4, none⟩ = some (.string tx) ∧ w.cell? ⟨g, 5, none⟩ = some vb ∧ w.cell? ⟨g, 6, none⟩ = some (.int .u64 rf) ∧ w.cell? ⟨g, 7, none⟩ = some vl ∧ w.cell? ⟨g, 8, none⟩ = some vf ∧ w.cell? ⟨g, 9, none⟩ = some (.string c) ∧ w.cell? ⟨g, 10, none⟩ = some (.int .i64 vr) := by
  have hh := fun j => cell_of_row w g j _ _ _ h
  exact ⟨hh 0, hh 1, hh 2, hh 3, hh 4, hh 5, hh 6, hh 7, hh 8, hh 9, hh 10⟩

theorem wrap_small {n : Int} (h0 : 0 ≤ n) (h1 : n ≤ 1000000) : IntKind.i64.wrap n = n := by
  rw [IntKind.wrap_i64]; omega

end Go.Proofs.YtjlhmgopmdcopaaGreat

/- value.termOf at a list. -/
namespace Go.Proofs.YtjlhmgopmdcopaaGreat
open Go.RowKit

theorem RW.eleven {w wr : World} {g n : Nat} {xs : List Value} (h : RW 29 w wr g n xs) (o : Nat) (ho : o + 11 ≤ n) :
    ((∃ u, wr.cell? ⟨g, o, none⟩ = some u) ∧ wr.frozen? ⟨g, o, none⟩ = false) ∧ ((∃ u, wr.cell? ⟨g, o + 1, none⟩ = some u) ∧ wr.frozen? ⟨g, o + 1, none⟩ = false) ∧ ((∃ u, wr.cell? ⟨g, o + 2, none⟩ = some u) ∧ wr.frozen? ⟨g, o + 2, none⟩ = false) ∧ ((∃ u, wr.cell? ⟨g, o + 3, none⟩ = some u) ∧ wr.frozen? ⟨g, o + 3, none⟩ = false) ∧ ((∃ u, wr.cell? ⟨g, o + 4, none⟩ = some u) ∧ wr.frozen? ⟨g, o + 4, none⟩ = false) ∧ ((∃ u, wr.cell? ⟨g, o + 5, none⟩ = some u) ∧ wr.frozen? ⟨g, o + 5, none⟩ = false) ∧ ((∃ u, wr.cell? ⟨g, o + 6, none⟩ = some u) ∧ wr.frozen? ⟨g, o + 6, none⟩ = false) ∧ ((∃ u, wr.cell? ⟨g, o + 7, none⟩ = some u) ∧ wr.frozen? ⟨g, o + 7, none⟩ = false) ∧ ((∃ u, wr.cell? ⟨g, o + 8, none⟩ = some u) ∧ wr.frozen? ⟨g, o + 8, none⟩ = false) ∧ ((∃ u, wr.cell? ⟨g, o + 9, none⟩ = some u) ∧ wr.frozen? ⟨g, o + 9, none⟩ = false) ∧ ((∃ u, wr.cell? ⟨g, o + 10, none⟩ = some u) ∧ wr.frozen? ⟨g, o + 10, none⟩ = false) :=
  ⟨h.own o (by omega), h.own (o + 1) (by omega), h.own (o + 2) (by omega), h.own (o + 3) (by omega), h.own (o + 4) (by omega), h.own (o + 5) (by omega), h.own (o + 6) (by omega), h.own (o + 7) (by omega), h.own (o + 8) (by omega), h.own (o + 9) (by omega), h.own (o + 10) (by omega)⟩
/-- a box of a term's cells can be written -/
theorem box_writes {W : World} {g : Nat} {cs : Array Value} {e : TypeId} (h : W.heap[g]? = some (.cells cs e (0, 0))) : ∀ j, W.frozen? ⟨g, j, none⟩ = false := fun j => frozen_of_row _ _ j _ _ h

end Go.Proofs.YtjlhmgopmdcopaaGreat

/- value.entriesOf: the entries of a dict that can be, in new memory. -/
namespace Go.Proofs.YtjlhmgopmdcopaaGreat
open Go.RowKit

theorem cell_far {w : World} {g o : Nat} {p : Addr} (h : p.block ≠ g) (v : Value) : (w.setCell ⟨g, o, none⟩ v).cell? p = w.cell? p := World.cell?_setCell_other _ _ _ _ (by intro e; exact h (by rw [← e]))

theorem Tryz.infoEn : (Tryz.prog.info? 47).map (fun i => (i.zero, i.size, i.bytes)) = some (some (.agg #[.string ByteArray.empty, .int .i64 0, .bool false, .int .i64 0, .float .f64 0, .string ByteArray.empty, .slice none 0 0, .int .u64 0, .slice none 0 0, .slice none 0 0, .string ByteArray.empty, .int .i64 0]), 12, 168) := by kernel_rfl
theorem Tryz.undEs : Tryz.prog.underlying 27 = some (.slice 47) := by kernel_rfl

end Go.Proofs.YtjlhmgopmdcopaaGreat

/- value.termOf, kind by kind. -/
namespace Go.Proofs.YtjlhmgopmdcopaaGreat
open Go.RowKit

/-- two boxes of terms: what they hold later -/
theorem boxes_at {w : World} {o p : Obj} {w1 : World} (h : Below ((w.alloc o).alloc p).heap.size ((w.alloc o).alloc p) w1) : w1.heap[w.heap.size]? = some o ∧ w1.heap[w.heap.size + 1]? = some p ∧ Below w.heap.size w w1 ∧ w.heap.size + 2 ≤ w1.heap.size := by
  refine ⟨?_, ?_, below_to (((Below.refl _ _).alloc (Nat.le_refl _) _).alloc (by simp) _) h, by have := h.size; simpa using this⟩
  · rw [h.block w.heap.size (by simp; omega), Below.heap_alloc _ _ _ (by simp)]; exact heap_alloc_new w o
  · rw [h.block (w.heap.size + 1) (by simp)]; have := heap_alloc_new (w.alloc o) p; simpa using this

end Go.Proofs.YtjlhmgopmdcopaaGreat

/- value.termOf at a record. -/
namespace Go.Proofs.YtjlhmgopmdcopaaGreat
open Go.RowKit

theorem Bd.leaf {k i : Int} {f : Nat} {tx c : ByteArray} {nb nl nf : Nat} {rf vr : Int} (h0 : 1 ≤ k ∧ k ≤ 10) (hi : -9223372036854775808 ≤ i ∧ i ≤ 9223372036854775807) (hf : f < 18446744073709551616) (hr : 0 ≤ rf ∧ rf ≤ 18446744073709551615) (hv : -9223372036854775808 ≤ vr ∧ vr ≤ 9223372036854775807) (h1 : tx.size ≤ 65536) (h2 : c.size ≤ 65536) (h3 : nb ≤ 65536) (h4 : nl ≤ 4096) (h5 : nf ≤ 4096) : Bd k i f tx nb rf nl nf c vr :=
  ⟨by omega, by omega, hi.1, hi.2, hf, hr.1, hr.2, hv.1, hv.2, by omega, by omega, by omega, by omega, by omega⟩
theorem empty_size : ByteArray.empty.size = 0 := rfl

section
variable {b : Bool} {i : Int} {f : Nat} {tx : ByteArray} {by' : ByteArray} {rf : Int} {l : TmL} {fs : TmF} {c : ByteArray} {v : Int}
theorem Tm.clean_1 : (Tm.mk 1 b i f tx by' rf l fs c v).clean = .mk 1 false 0 0 ByteArray.empty ByteArray.empty 0 .nil .nil ByteArray.empty 0 := by simp [Tm.clean]
theorem Tm.clean_2 : (Tm.mk 2 b i f tx by' rf l fs c v).clean = .mk 2 b 0 0 ByteArray.empty ByteArray.empty 0 .nil .nil ByteArray.empty 0 := by simp [Tm.clean]
theorem Tm.clean_3 : (Tm.mk 3 b i f tx by' rf l fs c v).clean = .mk 3 false i 0 ByteArray.empty ByteArray.empty 0 .nil .nil ByteArray.empty 0 := by simp [Tm.clean]
theorem Tm.clean_4 : (Tm.mk 4 b i f tx by' rf l fs c v).clean = .mk 4 false 0 f ByteArray.empty ByteArray.empty 0 .nil .nil ByteArray.empty 0 := by simp [Tm.clean]
theorem Tm.clean_5 : (Tm.mk 5 b i f tx by' rf l fs c v).clean = .mk 5 false 0 0 tx ByteArray.empty 0 .nil .nil ByteArray.empty 0 := by simp [Tm.clean]
theorem Tm.clean_6 : (Tm.mk 6 b i f tx by' rf l fs c v).clean = .mk 6 false 0 0 ByteArray.empty by' 0 .nil .nil ByteArray.empty 0 := by simp [Tm.clean]
theorem Tm.clean_7 : (Tm.mk 7 b i f tx by' rf l fs c v).clean = .mk 7 false 0 0 ByteArray.empty ByteArray.empty rf .nil .nil ByteArray.empty 0 := by simp [Tm.clean]
theorem Tm.clean_8 : (Tm.mk 8 b i f tx by' rf l fs c v).clean = .mk 8 false 0 0 ByteArray.empty ByteArray.empty 0 l.clean .nil ByteArray.empty 0 := by simp [Tm.clean]
theorem Tm.clean_9 : (Tm.mk 9 b i f tx by' rf l fs c v).clean = .mk 9 false 0 0 ByteArray.empty ByteArray.empty 0 .nil fs.clean ByteArray.empty 0 := by simp [Tm.clean]
theorem Tm.clean_10 : (Tm.mk 10 b i f tx by' rf l fs c v).clean = .mk 10 false 0 0 ByteArray.empty ByteArray.empty 0 .nil fs.clean c v := by simp [Tm.clean]
end

end Go.Proofs.YtjlhmgopmdcopaaGreat

/- tenonmake.plain and tenonmake.entries: the term of a value, made by appending. -/
namespace Go.Proofs.YtjlhmgopmdcopaaGreat
open Go.RowKit

def Tm.OkAt (t : Tm) (n : Int) : Prop := ∃ p d, (t.wk n p d).e = 0
def TmL.OkAt (l : TmL) (n : Int) : Prop := ∃ p d, (l.wk n p d).e = 0
def TmF.OkAt (l : TmF) (n : Int) : Prop := ∃ p d, (l.wk n p d).e = 0
theorem Tm.OkAt.ok {t : Tm} {n : Int} (h : t.OkAt n) : t.Ok := by obtain ⟨p, d, h⟩ := h; exact ⟨n, p, d, h⟩
theorem TmL.OkAt.head {t : Tm} {l : TmL} {n : Int} (h : TmL.OkAt (.cons t l) n) : t.OkAt n ∧ l.OkAt n := by
  obtain ⟨p, d, h⟩ := h
  rw [TmL.wk] at h
  by_cases e : (t.wk n p d).e ≠ 0
  · rw [if_pos e] at h; exact absurd h e
  · rw [if_neg e] at h; exact ⟨⟨p, d, Decidable.not_not.1 e⟩, ⟨_, _, h⟩⟩
theorem TmF.OkAt.head {m : ByteArray} {t : Tm} {l : TmF} {n : Int} (h : TmF.OkAt (.cons m t l) n) : t.OkAt n ∧ l.OkAt n := by
  obtain ⟨p, d, h⟩ := h
  rw [TmF.wk] at h
  by_cases e : (t.wk n p d).e ≠ 0
  · rw [if_pos e] at h; exact absurd h e
  · rw [if_neg e] at h; exact ⟨⟨p, d, Decidable.not_not.1 e⟩, ⟨_, _, h⟩⟩
theorem Tm.OkAt.parts {k : Int} {b : Bool} {i : Int} {f : Nat} {tx : ByteArray} {by' : ByteArray} {rf : Int} {l : TmL} {fs : TmF} {c : ByteArray} {v n : Int} (h : Tm.OkAt (.mk k b i f tx by' rf l fs c v) n) :
    n ≤ 64 ∧ (k = 8 → l.OkAt (n + 1)) ∧ (k = 9 ∨ k = 10 → fs.OkAt (n + 1)) := by
  obtain ⟨p, d, h⟩ := h
  rw [Tm.wk] at h
  by_cases e : (Tm.mk k b i f tx by' rf l fs c v).own p n ≠ 0
  · rw [if_pos e] at h; exact absurd h e
  · rw [if_neg e] at h
    have hz := Sp.ent_zero (Tm.own_ent _ _ _ (Decidable.not_not.1 e))
    refine ⟨hz.2.2.2, fun h8 => ?_, fun h9 => ?_⟩
    · rw [if_pos h8] at h; exact ⟨_, _, h⟩
    · rw [if_neg (by omega), if_pos h9] at h; exact ⟨_, _, h⟩

def PlC (N : Nat) : Prop := ∀ (t : Tm), t.sz ≤ N → ∀ (v : Value) (B : Nat → Prop) (w : World) (deep n : Int), t.V w B v → Sub B w → t.OkAt n → t.Bdd → 0 ≤ deep → deep ≤ n →
  Calls Tryz.prog 38 #[v, .int .i64 deep] w fun e w' => ∃ cs, e = .returned (.agg cs) ∧ Below w.heap.size w w' ∧ t.clean.In w' (Fr w w') cs
theorem PlC.at {N : Nat} (HC : PlC N) {t : Tm} (hN : t.sz ≤ N) {v : Value} {B : Nat → Prop} {w : World} {deep n : Int} (h : t.V w B v) (hB : Sub B w) (ho : t.OkAt n) (hb : t.Bdd) (h0 : 0 ≤ deep) (h1 : deep ≤ n) :
    ∀ W, Below w.heap.size w W → Calls Tryz.prog 38 #[v, .int .i64 deep] W fun e w' => ∃ k b i f tx ab nb cb rf al nl cl af nf cf c vr, e = .returned (.agg (tcells k b i f tx (.slice ab nb cb) rf (.slice al nl cl) (.slice af nf cf) c vr)) ∧ Below W.heap.size W w' ∧ t.clean.In w' (Fr W w') (tcells k b i f tx (.slice ab nb cb) rf (.slice al nl cl) (.slice af nf cf) c vr) := by
  intro W hW
  refine (HC t hN v B W deep n (t.V_same (hB.same hW) (fun _ h => h) v h) (hB.later hW) ho hb h0 h1).mono ?_
  rintro e w' ⟨cs, rfl, hb, hv⟩
  obtain ⟨k1, b1, i1, f1, tx1, ab1, nb1, cb1, rf1, al1, nl1, cl1, af1, nf1, cf1, cc1, vr1, rfl⟩ := Tm.In_tc' hv
  exact ⟨k1, b1, i1, f1, tx1, ab1, nb1, cb1, rf1, al1, nl1, cl1, af1, nf1, cf1, cc1, vr1, rfl, hb, hv⟩
end Go.Proofs.YtjlhmgopmdcopaaGreat

/- tenonref01.Check at a term: what the plain walk through it says. -/
namespace Go.Proofs.YtjlhmgopmdcopaaGreat
open Go.RowKit

end Go.Proofs.YtjlhmgopmdcopaaGreat

