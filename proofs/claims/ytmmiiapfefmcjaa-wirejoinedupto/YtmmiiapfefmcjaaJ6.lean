/- The reader of package wire: its memory; endRule, take, byte where the bytes are there. -/
import Derived.Test.YtmmiiapfefmcjaaJ2
import Derived.Test.YtmmiiapfefmcjaaJ3
import Derived.Test.YtmmiiapfefmcjaaJ5
import Derived.Laws.Bits64
import Derived.Laws.Bits64b
namespace Go.Proofs.Ytmmiiapfefmcjaa
open Go.RowKit

/-- bytes that lie behind a slice's address, in blocks of B -/
def RdB (w : World) (B : Nat → Prop) (a : Option Addr) (xs : List Int) : Prop := ∀ j u, xs[j]? = some u → ∃ g o, a = some ⟨g, o, none⟩ ∧ B g ∧ w.cell? ⟨g, o + j, none⟩ = some (.int .u8 u)
theorem RdB.same {w w' : World} {B B' : Nat → Prop} {a : Option Addr} {xs : List Int} (h : RdB w B a xs) (hs : Same B w w') (hB : ∀ k, B k → B' k) : RdB w' B' a xs := fun j u hu => by
  obtain ⟨g, o, e, hg, hc⟩ := h j u hu
  exact ⟨g, o, e, hB _ hg, by rw [hs.cell (p := ⟨g, o + j, none⟩) hg]; exact hc⟩
/-- nothing but block b has turned, of what there was -/
structure But (b : Nat) (w w' : World) : Prop where
  lt : b < w.heap.size
  os : w'.os = w.os
  tape : w'.tape = w.tape
  output : w'.output = w.output
  size : w.heap.size ≤ w'.heap.size
  block : ∀ k, k < w.heap.size → k ≠ b → w'.heap[k]? = w.heap[k]?
theorem But.refl {b : Nat} {w : World} (h : b < w.heap.size) : But b w w := ⟨h, rfl, rfl, rfl, Nat.le_refl _, fun _ _ _ => rfl⟩
theorem But.of {b : Nat} {w w' : World} (h : b < w.heap.size) (k : Below w.heap.size w w') : But b w w' := ⟨h, k.os, k.tape, k.output, k.size, fun i hi _ => k.block i hi⟩
theorem But.trans {b : Nat} {w w1 w2 : World} (h : But b w w1) (k : But b w1 w2) : But b w w2 := ⟨h.lt, k.os.trans h.os, k.tape.trans h.tape, k.output.trans h.output, Nat.le_trans h.size k.size, fun i hi hn => (k.block i (Nat.lt_of_lt_of_le hi h.size) hn).trans (h.block i hi hn)⟩
theorem But.call {b : Nat} {w w1 w2 : World} (h : But b w w1) (k : Below w1.heap.size w1 w2) : But b w w2 := h.trans (.of (Nat.lt_of_lt_of_le h.lt h.size) k)
theorem But.set {b : Nat} {w : World} (h : b < w.heap.size) (j : Nat) (v : Value) : But b w (w.setCell ⟨b, j, none⟩ v) := by
  have e := (Below.refl b w).setCell (p := ⟨b, j, none⟩) (Nat.le_refl _) v
  exact ⟨h, e.os, e.tape, e.output, e.size, fun k _ hk => Below.heap_setCell w ⟨b, j, none⟩ _ k hk⟩
theorem But.same {b : Nat} {w w' : World} (h : But b w w') : Same (Lo b) w w' := fun k hk => h.block k (Nat.lt_trans hk h.lt) (Nat.ne_of_lt hk)
theorem But.below {b : Nat} {w w' : World} (h : But b w w') {c : Nat} (hc : c ≤ b) : Below c w w' := ⟨h.os, h.tape, h.output, h.size, fun k hk => h.same k (Nat.lt_of_lt_of_le hk hc)⟩
/-- the reader in block b: its bytes, how far it came, how many parts were begun -/
structure Rdr (w : World) (b : Nat) (a : Option Addr) (xs : List Int) (cap at' p : Nat) : Prop where
  c0 : w.cell? ⟨b, 0, none⟩ = some (.slice a xs.length cap)
  c1 : w.cell? ⟨b, 1, none⟩ = some (.int .i64 at')
  c2 : w.cell? ⟨b, 2, none⟩ = some (.int .i64 p)
  f1 : w.frozen? ⟨b, 1, none⟩ = false
  f2 : w.frozen? ⟨b, 2, none⟩ = false
  rd : RdB w (Lo b) a xs
  cp : xs.length ≤ cap
  ln : xs.length ≤ 281474976710656
  le : at' ≤ xs.length
  np : p ≤ 16384
theorem Rdr.lt {w : World} {b : Nat} {a : Option Addr} {xs : List Int} {cap at' p : Nat} (h : Rdr w b a xs cap at' p) : b < w.heap.size := World.block_lt_of_cell? _ _ h.c0
theorem Rdr.call {w w' : World} {b : Nat} {a : Option Addr} {xs : List Int} {cap at' p : Nat} (h : Rdr w b a xs cap at' p) (hb : Below w.heap.size w w') : Rdr w' b a xs cap at' p := by
  have hlt := h.lt
  have hf : ∀ i, w'.frozen? ⟨b, i, none⟩ = w.frozen? ⟨b, i, none⟩ := fun i => World.frozen?_of_block (w := w) (hb.block b hlt)
  exact ⟨by rw [hb.cell (p := ⟨b, 0, none⟩) hlt]; exact h.c0, by rw [hb.cell (p := ⟨b, 1, none⟩) hlt]; exact h.c1, by rw [hb.cell (p := ⟨b, 2, none⟩) hlt]; exact h.c2, by rw [hf]; exact h.f1, by rw [hf]; exact h.f2, h.rd.same (Same.of_below hb (Nat.le_of_lt hlt)) (fun _ h => h), h.cp, h.ln, h.le, h.np⟩
theorem Rdr.setAt {w : World} {b : Nat} {a : Option Addr} {xs : List Int} {cap at' p : Nat} (h : Rdr w b a xs cap at' p) (n : Nat) (hn : n ≤ xs.length) : Rdr (w.setCell ⟨b, 1, none⟩ (.int .i64 n)) b a xs cap n p ∧ But b w (w.setCell ⟨b, 1, none⟩ (.int .i64 n)) := by
  refine ⟨⟨by rw [sc_ne (by simp)]; exact h.c0, sc_eq h.c1, by rw [sc_ne (by simp)]; exact h.c2, by simpa using h.f1, by simpa using h.f2, h.rd.same (fun k hk => Below.heap_setCell w ⟨b, 1, none⟩ _ k (fun e => by have : k < b := hk; rw [e] at this; exact absurd this (Nat.lt_irrefl _))) (fun _ h => h), h.cp, h.ln, hn, h.np⟩, But.set h.lt 1 _⟩
theorem Rdr.setP {w : World} {b : Nat} {a : Option Addr} {xs : List Int} {cap at' p : Nat} (h : Rdr w b a xs cap at' p) (n : Nat) (hn : n ≤ 16384) : Rdr (w.setCell ⟨b, 2, none⟩ (.int .i64 n)) b a xs cap at' n ∧ But b w (w.setCell ⟨b, 2, none⟩ (.int .i64 n)) := by
  refine ⟨⟨by rw [sc_ne (by simp)]; exact h.c0, by rw [sc_ne (by simp)]; exact h.c1, sc_eq h.c2, by simpa using h.f1, by simpa using h.f2, h.rd.same (fun k hk => Below.heap_setCell w ⟨b, 2, none⟩ _ k (fun e => by have : k < b := hk; rw [e] at this; exact absurd this (Nat.lt_irrefl _))) (fun _ h => h), h.cp, h.ln, h.le, hn⟩, But.set h.lt 2 _⟩

set_option maxRecDepth 100000 in
set_option maxHeartbeats 1000000 in
theorem endRule_ok (n : Nat) (b : Nat) (a : Option Addr) (xs : List Int) (cap at' p : Nat) (w : World) (h : Rdr w b a xs cap at' p) (hn : at' + n ≤ xs.length) :
    Calls Try.prog 126 #[.pointer (some ⟨b, 0, none⟩), .int .i64 (n : Int)] w fun e w' => e = .returned (.tuple #[]) ∧ Rdr w' b a xs cap at' p ∧ Below w.heap.size w w' := by
  have HR : Hid (Rdr w b a xs cap at' p) := h
  obtain ⟨c0, c1, c2, f1, f2, _, _, ln, _, _⟩ := h
  go_enter Try.func126, Try.ntmps126
  go_wp2_with fail
  go_quiet (fail)
  go_wp2_with fail
  go_end0
  exact ⟨rfl, HR.out.call (below_drewN' _ _ _), below_drewN' _ _ _⟩

theorem add_at (b o n : Nat) : (⟨b, o, none⟩ : Addr).add n = ⟨b, o + n, none⟩ := by
  unfold Addr.add; split
  · rename_i h0; rw [h0]; rfl
  · simp
theorem take_get {xs : List Int} {k n j : Nat} {u : Int} (h : ((xs.drop k).take n)[j]? = some u) : xs[k + j]? = some u ∧ j < n ∧ k + j < xs.length := by
  have hj : j < ((xs.drop k).take n).length := (List.getElem?_eq_some_iff.1 h).1
  simp only [List.length_take, List.length_drop] at hj
  rw [List.getElem?_take, if_pos (by omega), List.getElem?_drop] at h
  exact ⟨h, by omega, by omega⟩
theorem RdB.none {w : World} {B : Nat → Prop} {xs : List Int} {k n : Nat} (h : RdB w B none xs) : RdB w B none ((xs.drop k).take n) := fun j u hu => by
  obtain ⟨g, o, e, _⟩ := h _ u (take_get hu).1
  simp at e
theorem RdB.part {w : World} {B : Nat → Prop} {q : Addr} {xs : List Int} {cap k n : Nat} (h : RdB w B (some q) xs) (hc : xs.length ≤ cap) : RdB w B (if cap = k then some q else some (q.add k)) ((xs.drop k).take n) := fun j u hu => by
  obtain ⟨h1, h2, h3⟩ := take_get hu
  obtain ⟨g, o, e, hg, hcell⟩ := h _ u h1
  injection e with e
  subst e
  rw [if_neg (by omega), add_at]
  exact ⟨g, o + k, rfl, hg, by rw [Nat.add_assoc]; exact hcell⟩
theorem ret_slice {a : Option Addr} {m n c : Nat} (h : m = n) : Ending.returned (.slice a m c) = .returned (.slice a n c) := by rw [h]
set_option maxRecDepth 100000 in
set_option maxHeartbeats 1000000 in
theorem take_ok (n : Nat) (b : Nat) (a : Option Addr) (xs : List Int) (cap at' p : Nat) (w : World) (h : Rdr w b a xs cap at' p) (hn : at' + n ≤ xs.length) :
    Calls Try.prog 112 #[.pointer (some ⟨b, 0, none⟩), .int .i64 (n : Int)] w fun e w' => ∃ a' cap', e = .returned (.slice a' n cap') ∧ RdB w' (Lo b) a' ((xs.drop at').take n) ∧ Rdr w' b a xs cap (at' + n) p ∧ But b w w' := by
  have HE : Hid (Calls Try.prog 126 #[.pointer (some ⟨b, 0, none⟩), .int .i64 (n : Int)] w fun e w' => e = .returned (.tuple #[]) ∧ Rdr w' b a xs cap at' p ∧ Below w.heap.size w w') := endRule_ok n b a xs cap at' p w h hn
  have hlt := h.lt
  clear h
  go_enter Try.func112, Try.ntmps112
  go_wp2_with fail
  refine HE.out.mono ?_
  rintro e w1 ⟨rfl, hr1, hb1⟩
  have HR : Hid (Rdr w1 b a xs cap at' p ∧ Below w.heap.size w w1) := ⟨hr1, hb1⟩
  have HS : Hid (Rdr (w1.setCell ⟨b, 1, none⟩ (.int .i64 ((at' : Int) + (n : Int)))) b a xs cap (at' + n) p ∧ But b w1 (w1.setCell ⟨b, 1, none⟩ (.int .i64 ((at' : Int) + (n : Int))))) := by
    have := hr1.setAt (at' + n) hn
    rw [show (((at' + n : Nat) : Int)) = (at' : Int) + (n : Int) by omega] at this
    exact this
  obtain ⟨c0, c1, c2, f1, f2, rd, cp, ln, le, np⟩ := hr1
  obtain ⟨d0, d1, d2, _, _, _, _, _, _, _⟩ := HS.out.1
  rw [show (((at' + n : Nat) : Int)) = (at' : Int) + (n : Int) by omega] at d1
  clear hb1 HE rd
  go_wp2_with fail
  have hz := HR.out.2.size
  cases a with
  | none =>
    go_quiet (fail)
    go_wp2_with fail
    go_ret
    refine ⟨_, _, ret_slice (show at' + n - at' = n by omega), ?_, HS.out.1.call (below_drewN' _ _ _), ((But.of hlt HR.out.2).trans HS.out.2).call (below_drewN' _ _ _)⟩
    exact (HS.out.1.call (below_drewN' _ _ _)).rd.none
  | some q =>
    by_cases hca : cap = at'
    · have hn0 : n = 0 := by omega
      subst hn0
      go_quiet (fail)
      go_wp2_with fail
      go_ret
      first
        | exact ⟨_, _, ret_slice (show at' + 0 - at' = 0 by omega), fun j u hu => by simp at hu, HS.out.1.call (below_drewN' _ _ _), ((But.of hlt HR.out.2).trans HS.out.2).call (below_drewN' _ _ _)⟩
        | exact ⟨_, _, rfl, fun j u hu => by simp at hu, HS.out.1.call (below_drewN' _ _ _), ((But.of hlt HR.out.2).trans HS.out.2).call (below_drewN' _ _ _)⟩
    · go_quiet (fail)
      go_wp2_with fail
      go_ret
      have hrd := (HS.out.1.call (below_drewN' _ _ nq)).rd.part (k := at') (n := n) cp
      rw [if_neg hca] at hrd
      refine ⟨_, _, ret_slice (show at' + n - at' = n by omega), hrd, HS.out.1.call (below_drewN' _ _ _), ((But.of hlt HR.out.2).trans HS.out.2).call (below_drewN' _ _ _)⟩

set_option maxRecDepth 100000 in
set_option maxHeartbeats 1000000 in
theorem rbyte_ok (x : Int) (b : Nat) (a : Option Addr) (xs : List Int) (cap at' p : Nat) (w : World) (h : Rdr w b a xs cap at' p) (hx : xs[at']? = some x) :
    Calls Try.prog 84 #[.pointer (some ⟨b, 0, none⟩)] w fun e w' => e = .returned (.int .u8 x) ∧ Rdr w' b a xs cap (at' + 1) p ∧ But b w w' := by
  have hl : at' < xs.length := (List.getElem?_eq_some_iff.1 hx).1
  have HT : Hid (Calls Try.prog 112 #[.pointer (some ⟨b, 0, none⟩), .int .i64 1] w fun e w' => ∃ a' cap', e = .returned (.slice a' 1 cap') ∧ RdB w' (Lo b) a' ((xs.drop at').take 1) ∧ Rdr w' b a xs cap (at' + 1) p ∧ But b w w') := take_ok 1 b a xs cap at' p w h (by omega)
  have HX : Hid (((xs.drop at').take 1)[0]? = some x) := by
    show _ = _
    rw [List.getElem?_take, if_pos (by omega), List.getElem?_drop]; exact hx
  clear h hx
  go_enter Try.func84, Try.ntmps84
  go_wp2_with fail
  refine HT.out.mono ?_
  rintro e w1 ⟨a1, cap1, rfl, hrd, hr1, hb1⟩
  obtain ⟨g, o, rfl, _, hc⟩ := hrd 0 x HX.out
  rw [Nat.add_zero] at hc
  have HR : Hid (Rdr w1 b a xs cap (at' + 1) p ∧ But b w w1) := ⟨hr1, hb1⟩
  clear hrd hr1 hb1 HT
  go_wp2_with fail
  go_ret
  exact ⟨rfl, HR.out.1, HR.out.2⟩
end Go.Proofs.Ytmmiiapfefmcjaa

/- Reading a number, plainly; the reader's number where it can be read. -/
namespace Go.Proofs.Ytmmiiapfefmcjaa
open Go.RowKit

/-- what reading comes to: a value and how far it came, or at which place it is wrong, and why -/
inductive Rs (α : Type) where
  | ok (v : α) (at' : Nat)
  | bad (place : Nat) (why : Int)
namespace Sp
/-- reads on in a number that begins at s, its byte number i being next, n being what came: at most k bytes more -/
def rn (xs : List Int) (s : Nat) : Nat → Nat → Nat → Rs Nat
  | 0, _, _ => .bad s 31
  | k + 1, i, n => match xs[s + i]? with
    | none => .bad xs.length 4
    | some c => if (i = 9 ∧ 1 < c) ∨ (0 < i ∧ c = 0) then .bad s 31 else if c < 128 then .ok (n + c.toNat * 128 ^ i) (s + i + 1) else rn xs s k (i + 1) (n + (c.toNat - 128) * 128 ^ i)
end Sp
/-- each is a byte -/
def By (xs : List Int) : Prop := ∀ x ∈ xs, 0 ≤ x ∧ x ≤ 255
theorem By.get {xs : List Int} (h : By xs) {j : Nat} {u : Int} (hu : xs[j]? = some u) : 0 ≤ u ∧ u ≤ 255 := h u (List.mem_of_getElem? hu)
theorem andNot_128 (a : Int) (h0 : 0 ≤ a) (h1 : a ≤ 255) : bits .andNot .u8 a 128 = a % 128 := by
  have key : ∀ x : Fin 256, bits .andNot .u8 (x.1 : Int) 128 = ((x.1 : Int) % 128) := by decide +kernel
  have := key ⟨a.toNat, by omega⟩
  simp only [Int.toNat_of_nonneg h0] at this
  exact this
theorem or_join (n m i : Nat) (hi : i ≤ 9) (hn : n < 128 ^ i) (hm : m * 128 ^ i < 18446744073709551616) : bits .or .u64 (n : Int) ((m * 128 ^ i : Nat) : Int) = ((n + m * 128 ^ i : Nat) : Int) := by
  have h9 : 128 ^ i ≤ 128 ^ 9 := Nat.pow_le_pow_right (by decide) hi
  rw [bits_or_u64_nat n (m * 128 ^ i) (by omega) hm]
  congr 1
  have e : (128 : Nat) ^ i = 2 ^ (7 * i) := by rw [Nat.pow_mul]
  rw [e] at hn ⊢
  have := Nat.shiftLeft_add_eq_or_of_lt hn m
  rw [Nat.shiftLeft_eq] at this
  rw [Nat.or_comm, ← this, Nat.add_comm]

set_option maxRecDepth 100000 in
set_option maxHeartbeats 2000000 in
theorem rnumber_ok (v at2 : Nat) (b : Nat) (a : Option Addr) (xs : List Int) (cap at' p : Nat) (w : World) (h : Rdr w b a xs cap at' p) (hby : By xs) (hr : Sp.rn xs at' 10 0 0 = .ok v at2) :
    Calls Try.prog 86 #[.pointer (some ⟨b, 0, none⟩)] w fun e w' => e = .returned (.int .u64 (v : Int)) ∧ Rdr w' b a xs cap at2 p ∧ But b w w' := by
  have HBY : Hid (By xs) := hby
  have H0 : Hid (Sp.rn xs at' 10 0 0 = .ok v at2 ∧ Rdr w b a xs cap (at' + 0) p ∧ But b w w) := ⟨hr, h, But.refl h.lt⟩
  obtain ⟨c0, c1, c2, f1, f2, rd, cp, ln, le, np⟩ := h
  clear hby hr rd
  go_enter Try.func86, Try.ntmps86
  go_wp2_with fail
  go_loopw [4, 11] (fun u x wr => ∃ (k i n : Nat), u = .int .u64 (n : Int) ∧ x = .int .i64 (i : Int) ∧ i + k = 10 ∧ Hid (n < 128 ^ i ∧ Sp.rn xs at' k i n = .ok v at2 ∧ Rdr wr b a xs cap (at' + i) p ∧ But b w wr)) (fun _ x _ => 10 - (intOf x).toNat)
  case atStart => exact ⟨10, 0, 0, rfl, rfl, rfl, by decide, H0.out⟩
  case round =>
    obtain ⟨k, i, n, rfl, rfl, hik, HR⟩ := hrel
    clear H0 c0 c1 c2 f1 f2
    cases k with
    | zero => have := HR.out.2.1; simp [Sp.rn] at this
    | succ k =>
      have hi10 : (i : Int) < 10 := by omega
      obtain ⟨hn, hrn, hrd, hbl⟩ := HR.out
      cases hx : xs[at' + i]? with
      | none => rw [Sp.rn, hx] at hrn; simp at hrn
      | some c =>
        have hcb := HBY.out.get hx
        rw [Sp.rn, hx] at hrn
        simp only at hrn
        by_cases hbad : (i = 9 ∧ 1 < c) ∨ (0 < i ∧ c = 0)
        · rw [if_pos hbad] at hrn; simp at hrn
        · rw [if_neg hbad] at hrn
          have HBT : Hid (Calls Try.prog 84 #[.pointer (some ⟨b, 0, none⟩)] wr fun e w' => e = .returned (.int .u8 c) ∧ Rdr w' b a xs cap (at' + i + 1) p ∧ But b wr w') := rbyte_ok c b a xs cap (at' + i) p wr hrd hx
          have hm : c.toNat % 128 * 128 ^ i < 18446744073709551616 := by
            by_cases h9 : i = 9
            · subst h9
              have : c.toNat % 128 ≤ 1 := by omega
              have h2 : c.toNat % 128 * 128 ^ 9 ≤ 1 * 128 ^ 9 := Nat.mul_le_mul_right _ this
              omega
            · have h8 : 128 ^ i ≤ 128 ^ 8 := Nat.pow_le_pow_right (by decide) (by omega)
              have h2 : c.toNat % 128 * 128 ^ i ≤ 127 * 128 ^ 8 := Nat.mul_le_mul (by omega) h8
              omega
          have han := andNot_128 c hcb.1 hcb.2
          have hor := or_join n (c.toNat % 128) i (by omega) hn hm
          have HHN : Hid (n < 128 ^ i) := hn
          have HBL : Hid (But b w wr) := hbl
          clear hn hrd hbl HR hx
          have HOR : Hid (bits BinOp.or IntKind.u64 (n : Int) (IntKind.u64.wrap (c % 128 * 2 ^ (7 * i))) = ((n + c.toNat % 128 * 128 ^ i : Nat) : Int)) := by
            show _ = _
            have e1 : (c % 128 * 2 ^ (7 * i) : Int) = ((c.toNat % 128 * 128 ^ i : Nat) : Int) := by
              have e2 : (128 : Nat) ^ i = 2 ^ (7 * i) := by rw [Nat.pow_mul]
              rw [e2]
              push_cast
              rw [Int.toNat_of_nonneg hcb.1]
            rw [e1, IntKind.wrap_u64, Int.emod_eq_of_lt (by omega) (by omega)]
            exact hor
          have HNX : Hid (n + c.toNat % 128 * 128 ^ i < 128 ^ (i + 1)) := by
            show _ < _
            have h2 : c.toNat % 128 * 128 ^ i ≤ 127 * 128 ^ i := Nat.mul_le_mul_right _ (by omega)
            have h3 := HHN.out
            rw [Nat.pow_succ]; omega
          clear hor hm
          have hcase : i = 0 ∨ (0 < i ∧ i < 9) ∨ i = 9 := by omega
          rcases hcase with hi0 | ⟨hi0, hi9⟩ | hi9
          · have b9 : ((i : Int) == 9) = false := by simp; omega
            have b0 : ¬ ((0 : Int) < (i : Int)) := by omega
            clear hi0
            by_cases hc : c < 128
            · have HV : Hid (v = n + c.toNat % 128 * 128 ^ i) := by
                show _ = _; rw [if_pos hc] at hrn; injection hrn with e1 e2; rw [← e1, Nat.mod_eq_of_lt (by omega)]
              have HA2 : Hid (at2 = at' + i + 1) := by
                show _ = _; rw [if_pos hc] at hrn; injection hrn with e1 e2; exact e2.symm
              clear hrn
              go_wp2_with (go_at_call 84; refine HBT.out.mono ?_; rintro e w1 ⟨rfl, hr1, hb1⟩; have HR1 : Hid (Rdr w1 b a xs cap (at' + i + 1) p ∧ But b wr w1) := ⟨hr1, hb1⟩; clear hr1 hb1)
              go_ret
              exact ⟨by rw [HV.out]; exact ret_int HOR.out, by rw [HA2.out]; exact HR1.out.1, HBL.out.trans HR1.out.2⟩
            · have HRN : Hid (Sp.rn xs at' k (i + 1) (n + c.toNat % 128 * 128 ^ i) = .ok v at2) := by
                show _ = _; rw [if_neg hc] at hrn; rw [show c.toNat % 128 = c.toNat - 128 by omega]; exact hrn
              clear hrn
              go_wp2_with (go_at_call 84; refine HBT.out.mono ?_; rintro e w1 ⟨rfl, hr1, hb1⟩; have HR1 : Hid (Rdr w1 b a xs cap (at' + i + 1) p ∧ But b wr w1) := ⟨hr1, hb1⟩; clear hr1 hb1)
              go_roundw
              case rel => exact ⟨k, i + 1, n + c.toNat % 128 * 128 ^ i, by rw [HOR.out], by go_num, by omega, HNX.out, HRN.out, HR1.out.1, HBL.out.trans HR1.out.2⟩
              case measure => simp [intOf]; omega
          · have b9 : ((i : Int) == 9) = false := by simp; omega
            have b0 : (0 : Int) < (i : Int) := by omega
            have bc : (c == 0) = false := by simp; omega
            by_cases hc : c < 128
            · have HV : Hid (v = n + c.toNat % 128 * 128 ^ i) := by
                show _ = _; rw [if_pos hc] at hrn; injection hrn with e1 e2; rw [← e1, Nat.mod_eq_of_lt (by omega)]
              have HA2 : Hid (at2 = at' + i + 1) := by
                show _ = _; rw [if_pos hc] at hrn; injection hrn with e1 e2; exact e2.symm
              clear hrn
              go_wp2_with (go_at_call 84; refine HBT.out.mono ?_; rintro e w1 ⟨rfl, hr1, hb1⟩; have HR1 : Hid (Rdr w1 b a xs cap (at' + i + 1) p ∧ But b wr w1) := ⟨hr1, hb1⟩; clear hr1 hb1)
              go_ret
              exact ⟨by rw [HV.out]; exact ret_int HOR.out, by rw [HA2.out]; exact HR1.out.1, HBL.out.trans HR1.out.2⟩
            · have HRN : Hid (Sp.rn xs at' k (i + 1) (n + c.toNat % 128 * 128 ^ i) = .ok v at2) := by
                show _ = _; rw [if_neg hc] at hrn; rw [show c.toNat % 128 = c.toNat - 128 by omega]; exact hrn
              clear hrn
              go_wp2_with (go_at_call 84; refine HBT.out.mono ?_; rintro e w1 ⟨rfl, hr1, hb1⟩; have HR1 : Hid (Rdr w1 b a xs cap (at' + i + 1) p ∧ But b wr w1) := ⟨hr1, hb1⟩; clear hr1 hb1)
              go_roundw
              case rel => exact ⟨k, i + 1, n + c.toNat % 128 * 128 ^ i, by rw [HOR.out], by go_num, by omega, HNX.out, HRN.out, HR1.out.1, HBL.out.trans HR1.out.2⟩
              case measure => simp [intOf]; omega
          · have b9 : ((i : Int) == 9) = true := by simp; omega
            have b0 : (0 : Int) < (i : Int) := by omega
            have bc : (c == 0) = false := by simp; omega
            have b1 : ¬ ((1 : Int) < c) := by omega
            clear hi9
            by_cases hc : c < 128
            · have HV : Hid (v = n + c.toNat % 128 * 128 ^ i) := by
                show _ = _; rw [if_pos hc] at hrn; injection hrn with e1 e2; rw [← e1, Nat.mod_eq_of_lt (by omega)]
              have HA2 : Hid (at2 = at' + i + 1) := by
                show _ = _; rw [if_pos hc] at hrn; injection hrn with e1 e2; exact e2.symm
              clear hrn
              go_wp2_with (go_at_call 84; refine HBT.out.mono ?_; rintro e w1 ⟨rfl, hr1, hb1⟩; have HR1 : Hid (Rdr w1 b a xs cap (at' + i + 1) p ∧ But b wr w1) := ⟨hr1, hb1⟩; clear hr1 hb1)
              go_ret
              exact ⟨by rw [HV.out]; exact ret_int HOR.out, by rw [HA2.out]; exact HR1.out.1, HBL.out.trans HR1.out.2⟩
            · omega
end Go.Proofs.Ytmmiiapfefmcjaa

