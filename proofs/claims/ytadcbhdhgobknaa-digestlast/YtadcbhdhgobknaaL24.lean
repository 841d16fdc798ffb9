/- The reader of package wire: its memory; endRule, take, byte where the bytes are there. -/
import Derived.Test.YtadcbhdhgobknaaL5
import Derived.Test.YtadcbhdhgobknaaL2
import Derived.Test.YtadcbhdhgobknaaL7
import Derived.Laws.Bits64
import Derived.Laws.Bits64b
import Derived.Test.YtadcbhdhgobknaaL3
import Derived.Lib.BytesEntry
import Derived.Test.YtadcbhdhgobknaaL13
import Derived.Test.YtadcbhdhgobknaaL9
namespace Go.Proofs.Ytadcbhdhgobknaa
open Go.RowKit

/-- bytes that lie behind a slice's address, in blocks of B -/
def RdB (w : World) (B : Nat → Prop) (a : Option Addr) (xs : List Int) : Prop := ∀ j u, xs[j]? = some u → ∃ g o, a = some ⟨g, o, none⟩ ∧ B g ∧ w.cell? ⟨g, o + j, none⟩ = some (.int .u8 u)
theorem RdB.same {w w' : World} {B B' : Nat → Prop} {a : Option Addr} {xs : List Int} (h : RdB w B a xs) (hs : Same B w w') (hB : ∀ k, B k → B' k) : RdB w' B' a xs := fun j u hu => by
  obtain ⟨g, o, e, hg, hc⟩ := h j u hu
  exact ⟨g, o, e, hB _ hg, by rw [hs.cell (p := ⟨g, o + j, none⟩) hg]; exact hc⟩
/-- nothing but block b has turned, of what there was -/
structure But (b : Nat) (w w' : World) : Prop where
  lt : b < w.heap.size
  os : w'.os = w.os
  tape : w'.tape = w.tape
  output : w'.output = w.output
  size : w.heap.size ≤ w'.heap.size
  block : ∀ k, k < w.heap.size → k ≠ b → w'.heap[k]? = w.heap[k]?
theorem But.refl {b : Nat} {w : World} (h : b < w.heap.size) : But b w w := ⟨h, rfl, rfl, rfl, Nat.le_refl _, fun _ _ _ => rfl⟩
theorem But.of {b : Nat} {w w' : World} (h : b < w.heap.size) (k : Below w.heap.size w w') : But b w w' := ⟨h, k.os, k.tape, k.output, k.size, fun i hi _ => k.block i hi⟩
theorem But.trans {b : Nat} {w w1 w2 : World} (h : But b w w1) (k : But b w1 w2) : But b w w2 := ⟨h.lt, k.os.trans h.os, k.tape.trans h.tape, k.output.trans h.output, Nat.le_trans h.size k.size, fun i hi hn => (k.block i (Nat.lt_of_lt_of_le hi h.size) hn).trans (h.block i hi hn)⟩
theorem But.call {b : Nat} {w w1 w2 : World} (h : But b w w1) (k : Below w1.heap.size w1 w2) : But b w w2 := h.trans (.of (Nat.lt_of_lt_of_le h.lt h.size) k)
theorem But.set {b : Nat} {w : World} (h : b < w.heap.size) (j : Nat) (v : Value) : But b w (w.setCell ⟨b, j, none⟩ v) := by
  have e := (Below.refl b w).setCell (p := ⟨b, j, none⟩) (Nat.le_refl _) v
  exact ⟨h, e.os, e.tape, e.output, e.size, fun k _ hk => Below.heap_setCell w ⟨b, j, none⟩ _ k hk⟩
theorem But.same {b : Nat} {w w' : World} (h : But b w w') : Same (Lo b) w w' := fun k hk => h.block k (Nat.lt_trans hk h.lt) (Nat.ne_of_lt hk)
theorem But.below {b : Nat} {w w' : World} (h : But b w w') {c : Nat} (hc : c ≤ b) : Below c w w' := ⟨h.os, h.tape, h.output, h.size, fun k hk => h.same k (Nat.lt_of_lt_of_le hk hc)⟩
/-- the reader in block b: its bytes, how far it came, how many parts were begun -/
structure Rdr (w : World) (b : Nat) (a : Option Addr) (xs : List Int) (cap at' p : Nat) : Prop where
  c0 : w.cell? ⟨b, 0, none⟩ = some (.slice a xs.length cap)
  c1 : w.cell? ⟨b, 1, none⟩ = some (.int .i64 at')
  c2 : w.cell? ⟨b, 2, none⟩ = some (.int .i64 p)
  f1 : w.frozen? ⟨b, 1, none⟩ = false
  f2 : w.frozen? ⟨b, 2, none⟩ = false
  rd : RdB w (Lo b) a xs
  cp : xs.length ≤ cap
  ln : xs.length ≤ 281474976710656
  le : at' ≤ xs.length
  np : p ≤ 16384
theorem Rdr.lt {w : World} {b : Nat} {a : Option Addr} {xs : List Int} {cap at' p : Nat} (h : Rdr w b a xs cap at' p) : b < w.heap.size := World.block_lt_of_cell? _ _ h.c0
theorem Rdr.call {w w' : World} {b : Nat} {a : Option Addr} {xs : List Int} {cap at' p : Nat} (h : Rdr w b a xs cap at' p) (hb : Below w.heap.size w w') : Rdr w' b a xs cap at' p := by
  have hlt := h.lt
  have hf : ∀ i, w'.frozen? ⟨b, i, none⟩ = w.frozen? ⟨b, i, none⟩ := fun i => World.frozen?_of_block (w := w) (hb.block b hlt)
  exact ⟨by rw [hb.cell (p := ⟨b, 0, none⟩) hlt]; exact h.c0, by rw [hb.cell (p := ⟨b, 1, none⟩) hlt]; exact h.c1, by rw [hb.cell (p := ⟨b, 2, none⟩) hlt]; exact h.c2, by rw [hf]; exact h.f1, by rw [hf]; exact h.f2, h.rd.same (Same.of_below hb (Nat.le_of_lt hlt)) (fun _ h => h), h.cp, h.ln, h.le, h.np⟩
theorem add_at (b o n : Nat) : (⟨b, o, none⟩ : Addr).add n = ⟨b, o + n, none⟩ := by
  unfold Addr.add; split
  · rename_i h0; rw [h0]; rfl
  · simp
theorem take_get {xs : List Int} {k n j : Nat} {u : Int} (h : ((xs.drop k).take n)[j]? = some u) : xs[k + j]? = some u ∧ j < n ∧ k + j < xs.length := by
  have hj : j < ((xs.drop k).take n).length := (List.getElem?_eq_some_iff.1 h).1
  simp only [List.length_take, List.length_drop] at hj
  rw [List.getElem?_take, if_pos (by omega), List.getElem?_drop] at h
  exact ⟨h, by omega, by omega⟩
theorem RdB.none {w : World} {B : Nat → Prop} {xs : List Int} {k n : Nat} (h : RdB w B none xs) : RdB w B none ((xs.drop k).take n) := fun j u hu => by
  obtain ⟨g, o, e, _⟩ := h _ u (take_get hu).1
  simp at e
theorem RdB.part {w : World} {B : Nat → Prop} {q : Addr} {xs : List Int} {cap k n : Nat} (h : RdB w B (some q) xs) (hc : xs.length ≤ cap) : RdB w B (if cap = k then some q else some (q.add k)) ((xs.drop k).take n) := fun j u hu => by
  obtain ⟨h1, h2, h3⟩ := take_get hu
  obtain ⟨g, o, e, hg, hcell⟩ := h _ u h1
  injection e with e
  subst e
  rw [if_neg (by omega), add_at]
  exact ⟨g, o + k, rfl, hg, by rw [Nat.add_assoc]; exact hcell⟩
end Go.Proofs.Ytadcbhdhgobknaa

/- Reading a number, plainly; the reader's number where it can be read. -/
namespace Go.Proofs.Ytadcbhdhgobknaa
open Go.RowKit

/-- what reading comes to: a value and how far it came, or at which place it is wrong, and why -/
inductive Rs (α : Type) where
  | ok (v : α) (at' : Nat)
  | bad (place : Nat) (why : Int)
namespace Sp
/-- reads on in a number that begins at s, its byte number i being next, n being what came: at most k bytes more -/
def rn (xs : List Int) (s : Nat) : Nat → Nat → Nat → Rs Nat
  | 0, _, _ => .bad s 31
  | k + 1, i, n => match xs[s + i]? with
    | none => .bad xs.length 4
    | some c => if (i = 9 ∧ 1 < c) ∨ (0 < i ∧ c = 0) then .bad s 31 else if c < 128 then .ok (n + c.toNat * 128 ^ i) (s + i + 1) else rn xs s k (i + 1) (n + (c.toNat - 128) * 128 ^ i)
end Sp
/-- each is a byte -/
def By (xs : List Int) : Prop := ∀ x ∈ xs, 0 ≤ x ∧ x ≤ 255
theorem By.get {xs : List Int} (h : By xs) {j : Nat} {u : Int} (hu : xs[j]? = some u) : 0 ≤ u ∧ u ≤ 255 := h u (List.mem_of_getElem? hu)
end Go.Proofs.Ytadcbhdhgobknaa

/- The reader's count, version, bool, kind where nothing is wrong. -/
namespace Go.Proofs.Ytadcbhdhgobknaa
open Go.RowKit

end Go.Proofs.Ytadcbhdhgobknaa

/- The reader's name where it is one. -/
namespace Go.Proofs.Ytadcbhdhgobknaa
open Go.RowKit

theorem Try.undUd : Try.prog.underlying 5 = some (.int .u8) := by kernel_rfl
theorem Try.undSd : Try.prog.underlying 9 = some .string := by kernel_rfl
/-- bytes as a text -/
def Sp.txt (l : List Int) : ByteArray := strOfNums l
theorem txt_size (l : List Int) : (Sp.txt l).size = l.length := by simp [Sp.txt, strOfNums, ByteArray.size]
theorem conv_rd (l : List Int) (a : Option Addr) (c : Nat) (S : Nat → Prop) (w : World) (ha : RdB w S a l) : (convert 23 9 (.slice a l.length c)).run Try.prog w = .ok (.string (Sp.txt l)) w := by
  cases l with
  | nil =>
    cases a with
    | none => exact run_convert_bytes_nil w _ 5 Try.undB Try.undUd _ _ _ Try.undSd
    | some a =>
      rw [show ([] : List Int).length = 0 from rfl, run_convert_bytes_string w _ _ 5 _ _ _ Try.undB Try.undUd Try.undSd]
      exact run_bytesToString w a 0 c [] rfl
  | cons x l =>
    obtain ⟨g, o, rfl, _, _⟩ := ha 0 x rfl
    exact run_convert_bytes_arg (P := Try.prog) w 23 5 Try.undB Try.undUd g o (x :: l).length c (x :: l) rfl (fun i hi => by
      obtain ⟨g', o', e, _, hc⟩ := ha i ((x :: l)[i]) (List.getElem?_eq_getElem hi)
      simp only [Option.some.injEq, Addr.mk.injEq, and_true] at e
      obtain ⟨rfl, rfl⟩ := e
      rw [hc]; simp [List.getD, List.getElem?_eq_getElem hi]) 9 Try.undSd

end Go.Proofs.Ytadcbhdhgobknaa

/- Reading values, plainly: the term that bytes begin with, or at which place they are wrong, and why. -/
namespace Go.Proofs.Ytadcbhdhgobknaa
open Go.RowKit

/-- a term that has no parts, of one kind -/
def lfT (k : Int) (b : Bool) (i : Int) (f : Nat) (tx by' : ByteArray) (rf : Int) : Tm := .mk k b i f tx by' rf .nil .nil ByteArray.empty 0
namespace Sp
/-- the number of which fold made this one -/
def unfold' (n : Nat) : Int := if n % 2 = 1 then -((n / 2 : Nat) : Int) - 1 else ((n / 2 : Nat) : Int)
/-- how many there are -/
def cnt (xs : List Int) (at' start most : Nat) : Rs Nat := match rn xs at' 10 0 0 with
  | .bad q e => .bad q e
  | .ok n a => if most < n then .bad start 2 else .ok n a
/-- so many bytes -/
def tk (xs : List Int) (at' n : Nat) : Rs (List Int) := if at' + n ≤ xs.length then .ok ((xs.drop at').take n) (at' + n) else .bad xs.length 4
/-- a name of the part that begins at start -/
def rdN (xs : List Int) (at' start : Nat) : Rs (List Int) := match rn xs at' 10 0 0 with
  | .bad q e => .bad q e
  | .ok n a => if 32 < n then .bad start 8 else match tk xs a n with
    | .bad q e => .bad q e
    | .ok l a2 => if isNm (txt l) then .ok l a2 else .bad start 8
/-- n values, one behind the other -/
def rdL (step : Nat → Nat → Rs (Tm × Nat)) : Nat → Nat → Nat → Rs (TmL × Nat)
  | 0, at', p => .ok (.nil, p) at'
  | n + 1, at', p => match step at' p with
    | .bad q e => .bad q e
    | .ok (t, p1) a1 => match rdL step n a1 p1 with
      | .bad q e => .bad q e
      | .ok (l, p2) a2 => .ok (.cons t l, p2) a2
/-- n fields of the part that begins at start, each name above the one ahead -/
def rdF (xs : List Int) (start : Nat) (step : Nat → Nat → Rs (Tm × Nat)) : Nat → List Int → Nat → Nat → Rs (TmF × Nat)
  | 0, _, at', p => .ok (.nil, p) at'
  | n + 1, ahead, at', p => match rdN xs at' start with
    | .bad q e => .bad q e
    | .ok nm a0 => if cmpS (txt nm) (txt ahead) ≤ 0 then .bad start 8 else match step a0 p with
      | .bad q e => .bad q e
      | .ok (t, p1) a1 => match rdF xs start step n nm a1 p1 with
        | .bad q e => .bad q e
        | .ok (l, p2) a2 => .ok (.cons (txt nm) t l, p2) a2
/-- fields with their number ahead -/
def rdD (xs : List Int) (start : Nat) (step : Nat → Nat → Rs (Tm × Nat)) (at' p : Nat) : Rs (TmF × Nat) := match cnt xs at' start 4096 with
  | .bad q e => .bad q e
  | .ok n a => rdF xs start step n [] a p
/-- what stands behind a value's first byte k, which stands at s -/
def rdB (xs : List Int) (step : Nat → Nat → Rs (Tm × Nat)) (k : Int) (s p : Nat) : Rs (Tm × Nat) :=
  if k = 1 then .ok (lfT 1 false 0 0 ByteArray.empty ByteArray.empty 0, p) (s + 1)
  else if k = 2 then match xs[s + 1]? with
    | none => .bad xs.length 4
    | some c => if 1 < c then .bad (s + 1) 30 else .ok (lfT 2 (c == 1) 0 0 ByteArray.empty ByteArray.empty 0, p) (s + 2)
  else if k = 3 then match rn xs (s + 1) 10 0 0 with
    | .bad q e => .bad q e
    | .ok n a => .ok (lfT 3 false (unfold' n) 0 ByteArray.empty ByteArray.empty 0, p) a
  else if k = 4 then match tk xs (s + 1) 8 with
    | .bad q e => .bad q e
    | .ok l a => .ok (lfT 4 false 0 (l.foldl (fun n x => n * 256 + x.toNat) 0) ByteArray.empty ByteArray.empty 0, p) a
  else if k = 5 ∨ k = 6 then match cnt xs (s + 1) s 65536 with
    | .bad q e => .bad q e
    | .ok n a => match tk xs a n with
      | .bad q e => .bad q e
      | .ok l a2 => .ok (lfT k false 0 0 (if k = 5 then txt l else ByteArray.empty) (if k = 6 then txt l else ByteArray.empty) 0, p) a2
  else if k = 7 then match rn xs (s + 1) 10 0 0 with
    | .bad q e => .bad q e
    | .ok n a => .ok (lfT 7 false 0 0 ByteArray.empty ByteArray.empty n, p) a
  else if k = 8 then match cnt xs (s + 1) s 4096 with
    | .bad q e => .bad q e
    | .ok n a => match rdL step n a p with
      | .bad q e => .bad q e
      | .ok (l, p2) a2 => .ok (.mk 8 false 0 0 ByteArray.empty ByteArray.empty 0 l .nil ByteArray.empty 0, p2) a2
  else if k = 9 then match rdD xs s step (s + 1) p with
    | .bad q e => .bad q e
    | .ok (l, p2) a2 => .ok (.mk 9 false 0 0 ByteArray.empty ByteArray.empty 0 .nil l ByteArray.empty 0, p2) a2
  else if k = 10 then match rdN xs (s + 1) s with
    | .bad q e => .bad q e
    | .ok c a => match rn xs a 10 0 0 with
      | .bad q e => .bad q e
      | .ok v a1 => if v < 1 ∨ 1000 < v then .bad s 1 else match rdD xs s step a1 p with
        | .bad q e => .bad q e
        | .ok (l, p2) a2 => .ok (.mk 10 false 0 0 ByteArray.empty ByteArray.empty 0 .nil l (txt c) v, p2) a2
  else .bad s 30
/-- the value that begins at at', p parts having begun; it may lie f deep from here on -/
def rdV (xs : List Int) : Nat → Nat → Nat → Rs (Tm × Nat)
  | 0, at', _ => if xs.length ≤ at' then .bad xs.length 4 else .bad at' 2
  | f + 1, at', p => match xs[at']? with
    | none => .bad xs.length 4
    | some k => if 16384 ≤ p then .bad at' 2 else rdB xs (rdV xs f) k at' (p + 1)
end Sp
end Go.Proofs.Ytadcbhdhgobknaa

/- Numbers as bytes; wire.appendNumber. -/
namespace Go.Proofs.Ytadcbhdhgobknaa
open Go.RowKit

namespace Sp
/-- a number's bytes, in their least form -/
def numB (n : Nat) : List Int := if n < 128 then [(n : Int)] else ((n % 128 + 128 : Nat) : Int) :: numB (n / 128)
termination_by n
decreasing_by omega
theorem numB_lt {n : Nat} (h : n < 128) : numB n = [(n : Int)] := by rw [numB, if_pos h]
theorem numB_ge {n : Nat} (h : ¬ n < 128) : numB n = ((n % 128 + 128 : Nat) : Int) :: numB (n / 128) := by rw [numB, if_neg h]
theorem numB_pos (n : Nat) : 0 < (numB n).length := by
  by_cases h : n < 128
  · rw [numB_lt h]; simp
  · rw [numB_ge h]; simp
end Sp
/-- bytes as cells -/
def u8s (l : List Int) : List Value := l.map fun x => .int .u8 x
theorem u8s_app (a b : List Int) : u8s (a ++ b) = u8s a ++ u8s b := by simp [u8s]
/-- the slice of bytes at a holds xs, in a row made since base -/
def Outs (w : World) (base : Nat) (a : Option Addr) (cap : Nat) (xs : List Int) : Prop := w.ownsRow base 5 1 (.slice a xs.length cap) xs.length (u8s xs) ∧ base ≤ w.heap.size
/-- from w to w' nothing turned but the row of a (and what lies at base or above), and a' is that row or new -/
def Gr (base : Nat) (a a' : Option Addr) (w w' : World) : Prop := Below base w w' ∧ (∀ k, k < w.heap.size → a.map Addr.block ≠ some k → w'.heap[k]? = w.heap[k]?) ∧ (∀ k, a'.map Addr.block = some k → a.map Addr.block = some k ∨ w.heap.size ≤ k)
theorem Gr.refl (base : Nat) (a : Option Addr) (w : World) : Gr base a a w w := ⟨Below.refl _ _, fun _ _ _ => rfl, fun _ h => .inl h⟩
theorem Gr.trans {base : Nat} {a a1 a2 : Option Addr} {w w1 w2 : World} (h : Gr base a a1 w w1) (k : Gr base a1 a2 w1 w2) : Gr base a a2 w w2 := by
  have hz := h.1.size
  refine ⟨h.1.trans k.1, fun i hi hn => ?_, fun i hi => ?_⟩
  · rw [k.2.1 i (by omega) (fun e => by rcases h.2.2 i e with e' | e'; exact hn e'; omega)]
    exact h.2.1 i hi hn
  · rcases k.2.2 i hi with e | e
    · exact h.2.2 i e
    · exact .inr (by omega)
theorem own_map (a : Option Addr) (n cap : Nat) : (Value.slice a n cap).ownBlock = a.map Addr.block := by cases a <;> rfl
theorem Gr.grown {base g g' : Nat} {w w3 : World} (hg : w.grownBy w3 (some g)) (hor : g' = g ∨ g' = w.heap.size) (hb : base ≤ w.heap.size) (hbg : base ≤ g) : Gr base (some ⟨g, 0, none⟩) (some ⟨g', 0, none⟩) w w3 := by
  refine ⟨(Below.refl base w).grown hg hb (fun k e => by injection e with e; omega), fun k hk hn => hg.block k hk (fun e => hn e.symm), fun k hk => ?_⟩
  simp only [Option.map_some, Option.some.injEq] at hk ⊢
  omega
theorem Outs.step {w w3 : World} {base : Nat} {a : Option Addr} {cap : Nat} {xs ys : List Int} {g cap' n m : Nat} {o : Obj} (h : Outs w base a cap xs) (ho : w3.ownsRow base 5 1 (.slice (some ⟨g, 0, none⟩) n cap') n (u8s xs ++ u8s ys)) (hn : n = m) (hm : m = (xs ++ ys).length) (hg : (w.alloc o).grownBy w3 (Value.slice a xs.length cap).ownBlock) (hor : (Value.slice a xs.length cap).ownBlock = some g ∨ g = (w.alloc o).heap.size) : Outs w3 base (some ⟨g, 0, none⟩) cap' (xs ++ ys) ∧ Gr base a (some ⟨g, 0, none⟩) w w3 := by
  have hz := hg.size
  simp at hz
  have hb := h.2
  refine ⟨⟨by rw [u8s_app, ← hm, ← hn]; exact ho, by omega⟩, ?_⟩
  have hB : Below base w w3 := ((Below.refl base w).alloc hb o).grown hg (by simp; omega) (fun k e => (h.1.lt k e).1)
  rw [own_map] at hg hor
  refine ⟨hB, fun k hk hne => ?_, fun k hk => ?_⟩
  · rw [hg.block k (by simp; omega) (fun e => hne e.symm)]; exact Below.heap_alloc _ _ _ hk
  · simp only [Option.map_some, Option.some.injEq] at hk
    subst hk
    rcases hor with e | e
    · exact .inl e
    · simp at e; exact .inr (by omega)
theorem or_128 (a : Int) (h0 : 0 ≤ a) (h1 : a ≤ 255) : bits .or .u8 a 128 = a % 128 + 128 := by
  have key : ∀ x : Fin 256, bits .or .u8 (x.1 : Int) 128 = ((x.1 : Int) % 128 + 128) := by decide +kernel
  have := key ⟨a.toNat, by omega⟩
  simp only [Int.toNat_of_nonneg h0] at this
  exact this

set_option maxRecDepth 100000 in
set_option maxHeartbeats 1000000 in
theorem appNum_any (n : Nat) (base : Nat) (a : Option Addr) (cap : Nat) (xs : List Int) (w : World) (hn : n < 18446744073709551616) (h : Outs w base a cap xs) (hlen : xs.length + (Sp.numB n).length ≤ 140737488355328) :
    Calls Try.prog 130 #[.slice a xs.length cap, .int .u64 n] w fun e w' => ∃ a' cap', e = .returned (.slice a' (xs.length + (Sp.numB n).length) cap') ∧ Outs w' base a' cap' (xs ++ Sp.numB n) ∧ Gr base a a' w w' := by
  obtain ⟨i0, hi, hz0, hz1, hz2⟩ := info_parts Try.infoB
  have H0 : Hid (Outs w base a cap (xs ++ []) ∧ Gr base a a w w) := ⟨by rw [List.append_nil]; exact h, Gr.refl _ _ _⟩
  clear h
  go_enter Try.func130, Try.ntmps130
  go_wp2_with fail
  go_loopw [0, 1] (fun u x wr => ∃ (m : Nat) (ys : List Int) (a' : Option Addr) (cap' : Nat), u = .slice a' (xs.length + ys.length) cap' ∧ x = .int .u64 m ∧ m < 18446744073709551616 ∧ Sp.numB n = ys ++ Sp.numB m ∧ Hid (Outs wr base a' cap' (xs ++ ys) ∧ Gr base a a' w wr)) (fun _ x _ => (intOf x).toNat)
  case atStart => exact ⟨n, [], a, cap, rfl, rfl, hn, rfl, H0.out⟩
  case round =>
    obtain ⟨m, ys, a', cap', rfl, rfl, hm, he, HO⟩ := hrel
    have hl : xs.length + ys.length + (Sp.numB m).length ≤ 140737488355328 := by rw [he, List.length_append] at hlen; omega
    have hp := Sp.numB_pos m
    have hown := HO.out.1.1
    have HOW : Hid (wr.ownsRow base 5 1 (.slice a' (xs.length + ys.length) cap') (xs.length + ys.length) (u8s (xs ++ ys))) := by rw [List.length_append] at hown; exact hown
    clear hown
    by_cases hm' : m < 128
    · have hi1 : ¬ ((128 : Int) ≤ (m : Int)) := by omega
      go_wp2_with (at_builtin; refine wpList_app _ rfl _ _ 23 rfl base 5 i0 (.int .u8 0) 1 1 Try.undB hi hz0 hz1 hz2 rfl (by decide) _ _ _ rfl (HOW.out.alloc _) ⟨wr.heap.size, 0, none⟩ 1 1 [.int .u8 (m : Int)] rfl rfl (cell_one_new _ _ _) (fun u hu => by simp at hu; subst hu; rfl) (by decide) (by unfold maxLen; omega) (by omega) (by have := HO.out.1.2; simp; omega) ?_; intro g' cap2 w3 hown' hgrow hor)
      go_wp2_with fail
      go_ret
      obtain ⟨h1, h2⟩ := HO.out.1.step (ys := [(m : Int)]) hown' rfl (by simp; omega) (by rw [List.length_append]; exact hgrow) (by rw [List.length_append]; exact hor)
      have e1 := Sp.numB_lt hm'
      refine ⟨some ⟨g', 0, none⟩, cap2, by rw [e1]; simp; omega, by rw [e1, ← List.append_assoc]; exact h1, HO.out.2.trans h2⟩
    · have hi1 : (128 : Int) ≤ (m : Int) := by omega
      have hor : bits .or .u8 ((m : Int) % 256) 128 = ((m % 128 + 128 : Nat) : Int) := by rw [or_128 _ (by omega) (by omega)]; omega
      go_wp2_with (at_builtin; refine wpList_app _ rfl _ _ 23 rfl base 5 i0 (.int .u8 0) 1 1 Try.undB hi hz0 hz1 hz2 rfl (by decide) _ _ _ rfl (HOW.out.alloc _) ⟨wr.heap.size, 0, none⟩ 1 1 [.int .u8 ((m % 128 + 128 : Nat) : Int)] rfl rfl (cell_one_new _ _ _) (fun u hu => by simp at hu; subst hu; rfl) (by decide) (by unfold maxLen; omega) (by omega) (by have := HO.out.1.2; simp; omega) ?_; intro g' cap2 w3 hown' hgrow hor')
      obtain ⟨h1, h2⟩ := HO.out.1.step (ys := [((m % 128 + 128 : Nat) : Int)]) hown' rfl (by simp; omega) (by rw [List.length_append]; exact hgrow) (by rw [List.length_append]; exact hor')
      refine ⟨⟨m / 128, ys ++ [((m % 128 + 128 : Nat) : Int)], some ⟨g', 0, none⟩, cap2, by simp; omega, by simp, by omega, ?_, by rw [← List.append_assoc]; exact h1, HO.out.2.trans h2⟩, by simp [intOf]; omega⟩
      rw [he, Sp.numB_ge hm', List.append_assoc]; rfl
end Go.Proofs.Ytadcbhdhgobknaa

