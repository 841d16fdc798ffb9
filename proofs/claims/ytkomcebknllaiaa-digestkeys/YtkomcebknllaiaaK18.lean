/- The reader's name where it is one. -/
import Derived.Test.YtkomcebknllaiaaK17
import Derived.Test.YtkomcebknllaiaaK2
import Derived.Lib.BytesEntry
import Derived.Test.YtkomcebknllaiaaK10
import Derived.Test.YtkomcebknllaiaaK6
import Derived.Laws.Bits64
import Derived.Deep.AppendSrc
import Derived.Deep.DeepAppendWide
namespace Go.Proofs.Ytkomcebknllaiaa
open Go.RowKit

theorem Try.undUd : Try.prog.underlying 5 = some (.int .u8) := by kernel_rfl
theorem Try.undSd : Try.prog.underlying 9 = some .string := by kernel_rfl
/-- bytes as a text -/
def Sp.txt (l : List Int) : ByteArray := strOfNums l
theorem txt_size (l : List Int) : (Sp.txt l).size = l.length := by simp [Sp.txt, strOfNums, ByteArray.size]
theorem conv_rd (l : List Int) (a : Option Addr) (c : Nat) (S : Nat → Prop) (w : World) (ha : RdB w S a l) : (convert 23 9 (.slice a l.length c)).run Try.prog w = .ok (.string (Sp.txt l)) w := by
  cases l with
  | nil =>
    cases a with
    | none => exact run_convert_bytes_nil w _ 5 Try.undB Try.undUd _ _ _ Try.undSd
    | some a =>
      rw [show ([] : List Int).length = 0 from rfl, run_convert_bytes_string w _ _ 5 _ _ _ Try.undB Try.undUd Try.undSd]
      exact run_bytesToString w a 0 c [] rfl
  | cons x l =>
    obtain ⟨g, o, rfl, _, _⟩ := ha 0 x rfl
    exact run_convert_bytes_arg (P := Try.prog) w 23 5 Try.undB Try.undUd g o (x :: l).length c (x :: l) rfl (fun i hi => by
      obtain ⟨g', o', e, _, hc⟩ := ha i ((x :: l)[i]) (List.getElem?_eq_getElem hi)
      simp only [Option.some.injEq, Addr.mk.injEq, and_true] at e
      obtain ⟨rfl, rfl⟩ := e
      rw [hc]; simp [List.getD, List.getElem?_eq_getElem hi]) 9 Try.undSd

set_option maxRecDepth 100000 in
set_option maxHeartbeats 1000000 in
theorem rname_ok (n at2 : Nat) (start : Int) (b : Nat) (a : Option Addr) (xs : List Int) (cap at' p : Nat) (w : World) (h : Rdr w b a xs cap at' p) (hby : By xs) (hr : Sp.rn xs at' 10 0 0 = .ok n at2) (hn : n ≤ 32) (hl : at2 + n ≤ xs.length) (hnm : Sp.isNm (Sp.txt ((xs.drop at2).take n)) = true) :
    Calls Try.prog 122 #[.pointer (some ⟨b, 0, none⟩), .int .i64 start] w fun e w' => ∃ a' cap', e = .returned (.slice a' n cap') ∧ RdB w' (Lo b) a' ((xs.drop at2).take n) ∧ Rdr w' b a xs cap (at2 + n) p ∧ But b w w' := by
  have HN : Hid (Calls Try.prog 101 #[.pointer (some ⟨b, 0, none⟩)] w fun e w' => e = .returned (.int .u64 (n : Int)) ∧ Rdr w' b a xs cap at2 p ∧ But b w w') := rnumber_ok n at2 b a xs cap at' p w h hby hr
  have h1 : ¬ ((32 : Int) < (n : Int)) := by omega
  have hlen : ((xs.drop at2).take n).length = n := by rw [List.length_take, List.length_drop]; omega
  have HIs : Hid (∀ W, Calls Try.prog 111 #[.string (Sp.txt ((xs.drop at2).take n))] W fun e w' => e = .returned (.bool true) ∧ W = w') := fun W => by
    have := isName_any (Sp.txt ((xs.drop at2).take n)) W (by rw [txt_size, hlen]; unfold maxLen; omega)
    rw [hnm] at this; exact this
  have HCV : Hid (∀ W a1 cap1, RdB W (Lo b) a1 ((xs.drop at2).take n) → (convert 23 9 (.slice a1 n cap1)).run Try.prog W = .ok (.string (Sp.txt ((xs.drop at2).take n))) W) := fun W a1 cap1 hW => by
    have := conv_rd _ a1 cap1 (Lo b) W hW
    rw [hlen] at this; exact this
  have HL : Hid (at2 + n ≤ xs.length) := hl
  clear h hr hby hnm hlen hl
  go_enter Try.func122, Try.ntmps122
  go_wp2_with fail
  refine HN.out.mono ?_
  rintro e w1 ⟨rfl, hr1, hb1⟩
  have HR1 : Hid (Rdr w1 b a xs cap at2 p ∧ But b w w1) := ⟨hr1, hb1⟩
  clear hr1 hb1
  go_wp2_with fail
  refine (take_ok n b a xs cap at2 p w1 HR1.out.1 HL.out).mono ?_
  rintro e w2 ⟨a2, cap2, rfl, hrd2, hr2, hb2⟩
  have hcv := HCV.out w2 a2 cap2 hrd2
  have HR2 : Hid (RdB w2 (Lo b) a2 ((xs.drop at2).take n) ∧ Rdr w2 b a xs cap (at2 + n) p ∧ But b w w2) := ⟨hrd2, hr2, HR1.out.2.trans hb2⟩
  clear hrd2 hr2 hb2
  go_wp2_with (go_at_call 111; refine (HIs.out _).mono ?_; rintro e w' ⟨rfl, rfl⟩)
  go_ret
  exact ⟨a2, cap2, rfl, HR2.out⟩
end Go.Proofs.Ytkomcebknllaiaa

/- Reading values, plainly: the term that bytes begin with, or at which place they are wrong, and why. -/
namespace Go.Proofs.Ytkomcebknllaiaa
open Go.RowKit

/-- a term that has no parts, of one kind -/
def lfT (k : Int) (b : Bool) (i : Int) (f : Nat) (tx by' : ByteArray) (rf : Int) : Tm := .mk k b i f tx by' rf .nil .nil ByteArray.empty 0
namespace Sp
/-- the number of which fold made this one -/
def unfold' (n : Nat) : Int := if n % 2 = 1 then -((n / 2 : Nat) : Int) - 1 else ((n / 2 : Nat) : Int)
/-- how many there are -/
def cnt (xs : List Int) (at' start most : Nat) : Rs Nat := match rn xs at' 10 0 0 with
  | .bad q e => .bad q e
  | .ok n a => if most < n then .bad start 2 else .ok n a
/-- so many bytes -/
def tk (xs : List Int) (at' n : Nat) : Rs (List Int) := if at' + n ≤ xs.length then .ok ((xs.drop at').take n) (at' + n) else .bad xs.length 4
/-- a name of the part that begins at start -/
def rdN (xs : List Int) (at' start : Nat) : Rs (List Int) := match rn xs at' 10 0 0 with
  | .bad q e => .bad q e
  | .ok n a => if 32 < n then .bad start 8 else match tk xs a n with
    | .bad q e => .bad q e
    | .ok l a2 => if isNm (txt l) then .ok l a2 else .bad start 8
/-- n values, one behind the other -/
def rdL (step : Nat → Nat → Rs (Tm × Nat)) : Nat → Nat → Nat → Rs (TmL × Nat)
  | 0, at', p => .ok (.nil, p) at'
  | n + 1, at', p => match step at' p with
    | .bad q e => .bad q e
    | .ok (t, p1) a1 => match rdL step n a1 p1 with
      | .bad q e => .bad q e
      | .ok (l, p2) a2 => .ok (.cons t l, p2) a2
/-- n fields of the part that begins at start, each name above the one ahead -/
def rdF (xs : List Int) (start : Nat) (step : Nat → Nat → Rs (Tm × Nat)) : Nat → List Int → Nat → Nat → Rs (TmF × Nat)
  | 0, _, at', p => .ok (.nil, p) at'
  | n + 1, ahead, at', p => match rdN xs at' start with
    | .bad q e => .bad q e
    | .ok nm a0 => if cmpS (txt nm) (txt ahead) ≤ 0 then .bad start 8 else match step a0 p with
      | .bad q e => .bad q e
      | .ok (t, p1) a1 => match rdF xs start step n nm a1 p1 with
        | .bad q e => .bad q e
        | .ok (l, p2) a2 => .ok (.cons (txt nm) t l, p2) a2
/-- fields with their number ahead -/
def rdD (xs : List Int) (start : Nat) (step : Nat → Nat → Rs (Tm × Nat)) (at' p : Nat) : Rs (TmF × Nat) := match cnt xs at' start 4096 with
  | .bad q e => .bad q e
  | .ok n a => rdF xs start step n [] a p
/-- what stands behind a value's first byte k, which stands at s -/
def rdB (xs : List Int) (step : Nat → Nat → Rs (Tm × Nat)) (k : Int) (s p : Nat) : Rs (Tm × Nat) :=
  if k = 1 then .ok (lfT 1 false 0 0 ByteArray.empty ByteArray.empty 0, p) (s + 1)
  else if k = 2 then match xs[s + 1]? with
    | none => .bad xs.length 4
    | some c => if 1 < c then .bad (s + 1) 30 else .ok (lfT 2 (c == 1) 0 0 ByteArray.empty ByteArray.empty 0, p) (s + 2)
  else if k = 3 then match rn xs (s + 1) 10 0 0 with
    | .bad q e => .bad q e
    | .ok n a => .ok (lfT 3 false (unfold' n) 0 ByteArray.empty ByteArray.empty 0, p) a
  else if k = 4 then match tk xs (s + 1) 8 with
    | .bad q e => .bad q e
    | .ok l a => .ok (lfT 4 false 0 (l.foldl (fun n x => n * 256 + x.toNat) 0) ByteArray.empty ByteArray.empty 0, p) a
  else if k = 5 ∨ k = 6 then match cnt xs (s + 1) s 65536 with
    | .bad q e => .bad q e
    | .ok n a => match tk xs a n with
      | .bad q e => .bad q e
      | .ok l a2 => .ok (lfT k false 0 0 (if k = 5 then txt l else ByteArray.empty) (if k = 6 then txt l else ByteArray.empty) 0, p) a2
  else if k = 7 then match rn xs (s + 1) 10 0 0 with
    | .bad q e => .bad q e
    | .ok n a => .ok (lfT 7 false 0 0 ByteArray.empty ByteArray.empty n, p) a
  else if k = 8 then match cnt xs (s + 1) s 4096 with
    | .bad q e => .bad q e
    | .ok n a => match rdL step n a p with
      | .bad q e => .bad q e
      | .ok (l, p2) a2 => .ok (.mk 8 false 0 0 ByteArray.empty ByteArray.empty 0 l .nil ByteArray.empty 0, p2) a2
  else if k = 9 then match rdD xs s step (s + 1) p with
    | .bad q e => .bad q e
    | .ok (l, p2) a2 => .ok (.mk 9 false 0 0 ByteArray.empty ByteArray.empty 0 .nil l ByteArray.empty 0, p2) a2
  else if k = 10 then match rdN xs (s + 1) s with
    | .bad q e => .bad q e
    | .ok c a => match rn xs a 10 0 0 with
      | .bad q e => .bad q e
      | .ok v a1 => if v < 1 ∨ 1000 < v then .bad s 1 else match rdD xs s step a1 p with
        | .bad q e => .bad q e
        | .ok (l, p2) a2 => .ok (.mk 10 false 0 0 ByteArray.empty ByteArray.empty 0 .nil l (txt c) v, p2) a2
  else .bad s 30
/-- the value that begins at at', p parts having begun; it may lie f deep from here on -/
def rdV (xs : List Int) : Nat → Nat → Nat → Rs (Tm × Nat)
  | 0, at', _ => if xs.length ≤ at' then .bad xs.length 4 else .bad at' 2
  | f + 1, at', p => match xs[at']? with
    | none => .bad xs.length 4
    | some k => if 16384 ≤ p then .bad at' 2 else rdB xs (rdV xs f) k at' (p + 1)
end Sp
end Go.Proofs.Ytkomcebknllaiaa

/- Numbers as bytes; wire.appendNumber. -/
namespace Go.Proofs.Ytkomcebknllaiaa
open Go.RowKit

namespace Sp
/-- a number's bytes, in their least form -/
def numB (n : Nat) : List Int := if n < 128 then [(n : Int)] else ((n % 128 + 128 : Nat) : Int) :: numB (n / 128)
termination_by n
decreasing_by omega
theorem numB_lt {n : Nat} (h : n < 128) : numB n = [(n : Int)] := by rw [numB, if_pos h]
theorem numB_ge {n : Nat} (h : ¬ n < 128) : numB n = ((n % 128 + 128 : Nat) : Int) :: numB (n / 128) := by rw [numB, if_neg h]
theorem numB_pos (n : Nat) : 0 < (numB n).length := by
  by_cases h : n < 128
  · rw [numB_lt h]; simp
  · rw [numB_ge h]; simp
end Sp
/-- bytes as cells -/
def u8s (l : List Int) : List Value := l.map fun x => .int .u8 x
theorem u8s_app (a b : List Int) : u8s (a ++ b) = u8s a ++ u8s b := by simp [u8s]
/-- the slice of bytes at a holds xs, in a row made since base -/
def Outs (w : World) (base : Nat) (a : Option Addr) (cap : Nat) (xs : List Int) : Prop := w.ownsRow base 5 1 (.slice a xs.length cap) xs.length (u8s xs) ∧ base ≤ w.heap.size
/-- from w to w' nothing turned but the row of a (and what lies at base or above), and a' is that row or new -/
def Gr (base : Nat) (a a' : Option Addr) (w w' : World) : Prop := Below base w w' ∧ (∀ k, k < w.heap.size → a.map Addr.block ≠ some k → w'.heap[k]? = w.heap[k]?) ∧ (∀ k, a'.map Addr.block = some k → a.map Addr.block = some k ∨ w.heap.size ≤ k)
theorem Gr.refl (base : Nat) (a : Option Addr) (w : World) : Gr base a a w w := ⟨Below.refl _ _, fun _ _ _ => rfl, fun _ h => .inl h⟩
theorem Gr.trans {base : Nat} {a a1 a2 : Option Addr} {w w1 w2 : World} (h : Gr base a a1 w w1) (k : Gr base a1 a2 w1 w2) : Gr base a a2 w w2 := by
  have hz := h.1.size
  refine ⟨h.1.trans k.1, fun i hi hn => ?_, fun i hi => ?_⟩
  · rw [k.2.1 i (by omega) (fun e => by rcases h.2.2 i e with e' | e'; exact hn e'; omega)]
    exact h.2.1 i hi hn
  · rcases k.2.2 i hi with e | e
    · exact h.2.2 i e
    · exact .inr (by omega)
theorem own_map (a : Option Addr) (n cap : Nat) : (Value.slice a n cap).ownBlock = a.map Addr.block := by cases a <;> rfl
theorem Gr.grown {base g g' : Nat} {w w3 : World} (hg : w.grownBy w3 (some g)) (hor : g' = g ∨ g' = w.heap.size) (hb : base ≤ w.heap.size) (hbg : base ≤ g) : Gr base (some ⟨g, 0, none⟩) (some ⟨g', 0, none⟩) w w3 := by
  refine ⟨(Below.refl base w).grown hg hb (fun k e => by injection e with e; omega), fun k hk hn => hg.block k hk (fun e => hn e.symm), fun k hk => ?_⟩
  simp only [Option.map_some, Option.some.injEq] at hk ⊢
  omega
theorem Outs.step {w w3 : World} {base : Nat} {a : Option Addr} {cap : Nat} {xs ys : List Int} {g cap' n m : Nat} {o : Obj} (h : Outs w base a cap xs) (ho : w3.ownsRow base 5 1 (.slice (some ⟨g, 0, none⟩) n cap') n (u8s xs ++ u8s ys)) (hn : n = m) (hm : m = (xs ++ ys).length) (hg : (w.alloc o).grownBy w3 (Value.slice a xs.length cap).ownBlock) (hor : (Value.slice a xs.length cap).ownBlock = some g ∨ g = (w.alloc o).heap.size) : Outs w3 base (some ⟨g, 0, none⟩) cap' (xs ++ ys) ∧ Gr base a (some ⟨g, 0, none⟩) w w3 := by
  have hz := hg.size
  simp at hz
  have hb := h.2
  refine ⟨⟨by rw [u8s_app, ← hm, ← hn]; exact ho, by omega⟩, ?_⟩
  have hB : Below base w w3 := ((Below.refl base w).alloc hb o).grown hg (by simp; omega) (fun k e => (h.1.lt k e).1)
  rw [own_map] at hg hor
  refine ⟨hB, fun k hk hne => ?_, fun k hk => ?_⟩
  · rw [hg.block k (by simp; omega) (fun e => hne e.symm)]; exact Below.heap_alloc _ _ _ hk
  · simp only [Option.map_some, Option.some.injEq] at hk
    subst hk
    rcases hor with e | e
    · exact .inl e
    · simp at e; exact .inr (by omega)
theorem or_128 (a : Int) (h0 : 0 ≤ a) (h1 : a ≤ 255) : bits .or .u8 a 128 = a % 128 + 128 := by
  have key : ∀ x : Fin 256, bits .or .u8 (x.1 : Int) 128 = ((x.1 : Int) % 128 + 128) := by decide +kernel
  have := key ⟨a.toNat, by omega⟩
  simp only [Int.toNat_of_nonneg h0] at this
  exact this

set_option maxRecDepth 100000 in
set_option maxHeartbeats 1000000 in
theorem appNum_any (n : Nat) (base : Nat) (a : Option Addr) (cap : Nat) (xs : List Int) (w : World) (hn : n < 18446744073709551616) (h : Outs w base a cap xs) (hlen : xs.length + (Sp.numB n).length ≤ 140737488355328) :
    Calls Try.prog 87 #[.slice a xs.length cap, .int .u64 n] w fun e w' => ∃ a' cap', e = .returned (.slice a' (xs.length + (Sp.numB n).length) cap') ∧ Outs w' base a' cap' (xs ++ Sp.numB n) ∧ Gr base a a' w w' := by
  obtain ⟨i0, hi, hz0, hz1, hz2⟩ := info_parts Try.infoB
  have H0 : Hid (Outs w base a cap (xs ++ []) ∧ Gr base a a w w) := ⟨by rw [List.append_nil]; exact h, Gr.refl _ _ _⟩
  clear h
  go_enter Try.func87, Try.ntmps87
  go_wp2_with fail
  go_loopw [0, 1] (fun u x wr => ∃ (m : Nat) (ys : List Int) (a' : Option Addr) (cap' : Nat), u = .slice a' (xs.length + ys.length) cap' ∧ x = .int .u64 m ∧ m < 18446744073709551616 ∧ Sp.numB n = ys ++ Sp.numB m ∧ Hid (Outs wr base a' cap' (xs ++ ys) ∧ Gr base a a' w wr)) (fun _ x _ => (intOf x).toNat)
  case atStart => exact ⟨n, [], a, cap, rfl, rfl, hn, rfl, H0.out⟩
  case round =>
    obtain ⟨m, ys, a', cap', rfl, rfl, hm, he, HO⟩ := hrel
    have hl : xs.length + ys.length + (Sp.numB m).length ≤ 140737488355328 := by rw [he, List.length_append] at hlen; omega
    have hp := Sp.numB_pos m
    have hown := HO.out.1.1
    have HOW : Hid (wr.ownsRow base 5 1 (.slice a' (xs.length + ys.length) cap') (xs.length + ys.length) (u8s (xs ++ ys))) := by rw [List.length_append] at hown; exact hown
    clear hown
    by_cases hm' : m < 128
    · have hi1 : ¬ ((128 : Int) ≤ (m : Int)) := by omega
      go_wp2_with (at_builtin; refine wpList_app _ rfl _ _ 23 rfl base 5 i0 (.int .u8 0) 1 1 Try.undB hi hz0 hz1 hz2 rfl (by decide) _ _ _ rfl (HOW.out.alloc _) ⟨wr.heap.size, 0, none⟩ 1 1 [.int .u8 (m : Int)] rfl rfl (cell_one_new _ _ _) (fun u hu => by simp at hu; subst hu; rfl) (by decide) (by unfold maxLen; omega) (by omega) (by have := HO.out.1.2; simp; omega) ?_; intro g' cap2 w3 hown' hgrow hor)
      go_wp2_with fail
      go_ret
      obtain ⟨h1, h2⟩ := HO.out.1.step (ys := [(m : Int)]) hown' rfl (by simp; omega) (by rw [List.length_append]; exact hgrow) (by rw [List.length_append]; exact hor)
      have e1 := Sp.numB_lt hm'
      refine ⟨some ⟨g', 0, none⟩, cap2, by rw [e1]; simp; omega, by rw [e1, ← List.append_assoc]; exact h1, HO.out.2.trans h2⟩
    · have hi1 : (128 : Int) ≤ (m : Int) := by omega
      have hor : bits .or .u8 ((m : Int) % 256) 128 = ((m % 128 + 128 : Nat) : Int) := by rw [or_128 _ (by omega) (by omega)]; omega
      go_wp2_with (at_builtin; refine wpList_app _ rfl _ _ 23 rfl base 5 i0 (.int .u8 0) 1 1 Try.undB hi hz0 hz1 hz2 rfl (by decide) _ _ _ rfl (HOW.out.alloc _) ⟨wr.heap.size, 0, none⟩ 1 1 [.int .u8 ((m % 128 + 128 : Nat) : Int)] rfl rfl (cell_one_new _ _ _) (fun u hu => by simp at hu; subst hu; rfl) (by decide) (by unfold maxLen; omega) (by omega) (by have := HO.out.1.2; simp; omega) ?_; intro g' cap2 w3 hown' hgrow hor')
      obtain ⟨h1, h2⟩ := HO.out.1.step (ys := [((m % 128 + 128 : Nat) : Int)]) hown' rfl (by simp; omega) (by rw [List.length_append]; exact hgrow) (by rw [List.length_append]; exact hor')
      refine ⟨⟨m / 128, ys ++ [((m % 128 + 128 : Nat) : Int)], some ⟨g', 0, none⟩, cap2, by simp; omega, by simp, by omega, ?_, by rw [← List.append_assoc]; exact h1, HO.out.2.trans h2⟩, by simp [intOf]; omega⟩
      rw [he, Sp.numB_ge hm', List.append_assoc]; rfl
end Go.Proofs.Ytkomcebknllaiaa

/- wire.bit, folded, appendBits. -/
namespace Go.Proofs.Ytkomcebknllaiaa
open Go.RowKit

namespace Sp
/-- the numbers below 0 laid between the others -/
def fold (i : Int) : Nat := if i < 0 then (-2 * i - 1).toNat else (2 * i).toNat
/-- the first k of the eight bytes of 64 bits, the highest first -/
def bitsTo (f : Nat) : Nat → List Int
  | 0 => []
  | k + 1 => bitsTo f k ++ [((f / 2 ^ (56 - 8 * k) % 256 : Nat) : Int)]
theorem bitsTo_len (f : Nat) : ∀ k, (bitsTo f k).length = k
  | 0 => rfl
  | k + 1 => by simp [bitsTo, bitsTo_len f k]
end Sp

set_option maxRecDepth 100000 in
set_option maxHeartbeats 400000 in
theorem bit_any (b : Bool) (w : World) : Calls Try.prog 86 #[.bool b] w fun e w' => e = .returned (.int .u8 (if b then 1 else 0)) ∧ w = w' := by
  cases b <;>
  · go_enter Try.func86, Try.ntmps86
    go_wp2_with fail
    go_ret
    exact ⟨rfl, rfl⟩

theorem xor_ones (x : Int) (h0 : 0 ≤ x) (h1 : x ≤ 18446744073709551615) : bits .xor .u64 IntKind.u64.max x = 18446744073709551615 - x := by
  obtain ⟨n, rfl⟩ := Int.eq_ofNat_of_zero_le h0
  have key : (18446744073709551615 ^^^ n : Nat) = 18446744073709551615 - n := by
    have h : (BitVec.allOnes 64 ^^^ BitVec.ofNat 64 n).toNat = (~~~ BitVec.ofNat 64 n).toNat := by rw [BitVec.allOnes_xor]
    rw [BitVec.toNat_xor, BitVec.toNat_not, BitVec.toNat_allOnes, BitVec.toNat_ofNat, Nat.mod_eq_of_lt (by omega)] at h
    simpa using h
  have := bits_xor_u64_nat 18446744073709551615 n (by decide) (by omega)
  rw [key] at this
  show bits .xor .u64 ((18446744073709551615 : Nat) : Int) _ = _
  rw [this]
  omega

set_option maxRecDepth 100000 in
set_option maxHeartbeats 400000 in
theorem folded_any (i : Int) (w : World) (h0 : -9223372036854775808 ≤ i) (h1 : i ≤ 9223372036854775807) : Calls Try.prog 88 #[.int .i64 i] w fun e w' => e = .returned (.int .u64 (Sp.fold i)) ∧ w = w' := by
  by_cases hi : i < 0
  · go_enter Try.func88, Try.ntmps88
    go_wp2_with fail
    go_ret
    refine ⟨?_, rfl⟩
    have e : bits .xor .u64 IntKind.u64.max (IntKind.u64.wrap (IntKind.u64.wrap i * 2)) = (Sp.fold i : Int) := by
      rw [xor_ones _ (by rw [IntKind.wrap_u64]; omega) (by rw [IntKind.wrap_u64]; omega)]
      unfold Sp.fold
      rw [if_pos hi]
      simp only [IntKind.wrap_u64]
      omega
    show Ending.returned (Value.int .u64 _) = _
    rw [e]
  · go_enter Try.func88, Try.ntmps88
    go_wp2_with fail
    go_ret
    refine ⟨?_, rfl⟩
    have e : i * 2 = (Sp.fold i : Int) := by unfold Sp.fold; rw [if_neg (by omega)]; omega
    show Ending.returned (Value.int .u64 (i * 2)) = _
    rw [e]

set_option maxRecDepth 100000 in
set_option maxHeartbeats 1000000 in
theorem appBits_any (f : Nat) (base : Nat) (a : Option Addr) (cap : Nat) (xs : List Int) (w : World) (h : Outs w base a cap xs) (hlen : xs.length + 8 ≤ 140737488355328) :
    Calls Try.prog 89 #[.slice a xs.length cap, .int .u64 f] w fun e w' => ∃ a' cap', e = .returned (.slice a' (xs.length + 8) cap') ∧ Outs w' base a' cap' (xs ++ Sp.bitsTo f 8) ∧ Gr base a a' w w' := by
  obtain ⟨i0, hi, hz0, hz1, hz2⟩ := info_parts Try.infoB
  have H0 : Hid (Outs w base a cap (xs ++ Sp.bitsTo f 0) ∧ Gr base a a w w) := ⟨by rw [Sp.bitsTo, List.append_nil]; exact h, Gr.refl _ _ _⟩
  clear h
  go_enter Try.func89, Try.ntmps89
  go_wp2_with fail
  go_loopw [0, 5] (fun u x wr => ∃ (k : Nat) (a' : Option Addr) (cap' : Nat), u = .slice a' (xs.length + k) cap' ∧ x = .int .i64 (56 - 8 * (k : Int)) ∧ k ≤ 8 ∧ Hid (Outs wr base a' cap' (xs ++ Sp.bitsTo f k) ∧ Gr base a a' w wr)) (fun _ x _ => (intOf x + 8).toNat)
  case atStart => exact ⟨0, a, cap, rfl, rfl, by omega, H0.out⟩
  case round =>
    obtain ⟨k, a', cap', rfl, rfl, hk, HO⟩ := hrel
    have hown := HO.out.1.1
    have HOW : Hid (wr.ownsRow base 5 1 (.slice a' (xs.length + k) cap') (xs.length + k) (u8s (xs ++ Sp.bitsTo f k))) := by rw [List.length_append, Sp.bitsTo_len] at hown; exact hown
    clear hown
    by_cases hk8 : k = 8
    · subst hk8
      go_wp2_with fail
      go_ret
      exact ⟨a', cap', rfl, HO.out.1, HO.out.2⟩
    · have hi1 : (0 : Int) ≤ 56 - 8 * (k : Int) := by omega
      have hi2 : 8 * (k : Int) ≤ 56 := by omega
      go_wp2_with (at_builtin; refine wpList_app _ rfl _ _ 23 rfl base 5 i0 (.int .u8 0) 1 1 Try.undB hi hz0 hz1 hz2 rfl (by decide) _ _ _ rfl (HOW.out.alloc _) ⟨wr.heap.size, 0, none⟩ 1 1 [.int .u8 ((f : Int) / 2 ^ (56 - 8 * k) % 256)] rfl rfl (cell_one_new _ _ _) (fun u hu => by simp at hu; subst hu; rfl) (by decide) (by unfold maxLen; omega) (by omega) (by have := HO.out.1.2; simp; omega) ?_; intro g' cap2 w3 hown' hgrow hor')
      have eb : (f : Int) / 2 ^ (56 - 8 * k) % 256 = ((f / 2 ^ (56 - 8 * k) % 256 : Nat) : Int) := by simp
      rw [eb] at hown'
      obtain ⟨h1, h2⟩ := HO.out.1.step (ys := [((f / 2 ^ (56 - 8 * k) % 256 : Nat) : Int)]) hown' rfl (by simp [Sp.bitsTo_len]; omega) (by rw [List.length_append, Sp.bitsTo_len]; exact hgrow) (by rw [List.length_append, Sp.bitsTo_len]; exact hor')
      go_roundw
      case rel => exact ⟨k + 1, some ⟨g', 0, none⟩, cap2, rfl, by simp; omega, by omega, by rw [Sp.bitsTo, ← List.append_assoc]; exact h1, HO.out.2.trans h2⟩
      case measure => simp [intOf]; omega
end Go.Proofs.Ytkomcebknllaiaa

/- 'append' of whatever source onto a row that the call itself made. -/
namespace Go.Proofs.Ytkomcebknllaiaa
open Go.RowKit

theorem run_app_src {P : Program} (w : World) (base : Nat) (t tx ty e : TypeId) (i : TypeInfo) (z : Value) (size bytes : Nat) (ht : P.underlying t = some (.slice e)) (hi : P.info? e = some i) (hz : i.zero = some z)
    (hsize : i.size = size) (hby : i.bytes = bytes) (hzs : z.cells.size = size) (g n cap : Nat) (xs : List Value) (hown : w.ownsRow base e size (.slice (some ⟨g, 0, none⟩) n cap) n xs)
    (x : Value) (m : Nat) (news : List Value) (hs : Src P size tx x m news w) (h63 : n + m ≤ maxLen) (hbytes : ((n + m) + (n + m) / 4 + 192) * bytes ≤ 281474976710656) (hbase : base ≤ w.heap.size) :
    ∃ g' cap' w', (Builtin.append_ #[t, tx] ty #[.slice (some ⟨g, 0, none⟩) n cap, x]).run P w = .ok (.slice (some ⟨g', 0, none⟩) (n + m) cap') w' ∧ w'.ownsRow base e size (.slice (some ⟨g', 0, none⟩) (n + m) cap') (n + m) (xs ++ news) ∧ w.grownBy w' (some g) ∧ (g' = g ∨ g' = w.heap.size) := by
  subst hsize
  subst hby
  have hlen : (xs ++ news).length = (n + m) * i.size := by rw [List.length_append, hown.1, hs.newsLen, Nat.add_mul]
  rcases hown.2 with ⟨e1, _⟩ | ⟨g1, cap1, cur, e1, hbg, hg, hnc, hcm, hcs, htake⟩
  · simp at e1
  simp only [Value.slice.injEq, Option.some.injEq, Addr.mk.injEq, and_true, true_and] at e1
  obtain ⟨rfl, rfl⟩ := e1
  by_cases hroom : n + m ≤ cap
  · have hfit : n * i.size + news.length ≤ cur.size := by rw [hs.newsLen, hcs, ← Nat.add_mul]; exact Nat.mul_le_mul_right _ hroom
    have hst := run_storeCells_at P g (n * i.size) e news 0 cur w hg (by simpa using hfit) hs.one
    simp only [Nat.add_zero] at hst
    have hr : (Builtin.append_ #[t, tx] ty #[.slice (some ⟨g, 0, none⟩) n cap, x]).run P w = .ok (.slice (some ⟨g, 0, none⟩) (n + m) cap) (w.setRow g (cur.toList.take (n * i.size) ++ news ++ cur.toList.drop (n * i.size + news.length)).toArray) := by
      rcases hs.kind with ⟨e', hk⟩ | hk <;> simp [Builtin.append_, run_underlying ht, run_underlying hk, sizeOf, typeInfo, hi, hs.len, hroom, hs.cells, Addr.add_lit, hst]
    refine ⟨g, cap, _, hr, ⟨hlen, .inr ⟨g, cap, _, rfl, hbg, setRow_heap w g cur _ e _ hg, hroom, hcm, ?_, ?_⟩⟩, ⟨rfl, rfl, rfl, by simp, fun k _ hk => setRow_other w g k _ (fun e => hk (by rw [e]))⟩, .inl rfl⟩
    · simp only [List.size_toArray, List.length_append, List.length_take, List.length_drop, Array.length_toList]
      omega
    · rw [htake, ← hlen]
      exact List.take_left
  · have holds : ∀ j u, xs[j]? = some u → w.cell? ((⟨g, 0, none⟩ : Addr).add j) = some u := hown.cells (g := g) rfl
    have hold : (Builtin.firstCells i.size n (.slice (some ⟨g, 0, none⟩) n cap)).run P w.drew = .ok xs.toArray w.drew := run_firstCells_some w.drew i.size n ⟨g, 0, none⟩ n cap xs hown.1 (by simpa using holds)
    have hr := run_append_grow_src (P := P) w t tx ty e i z ht hi hz (some ⟨g, 0, none⟩) n cap xs hold x m news hs (by omega) (by simp only [maxLen] at h63; omega) (growslice_fits_wide (by omega) hbytes)
    have hge := grownCap_ge w (n + m) cap e
    have hcm' : grownCap w (n + m) cap e ≤ maxLen := grownCap_le_maxLen w (n + m) cap e h63
    refine ⟨w.heap.size, _, _, hr, ⟨hlen, .inr ⟨w.heap.size, _, _, rfl, hbase, heap_alloc_new w.drew _, hge, hcm', ?_, ?_⟩⟩, ⟨rfl, rfl, rfl, by simp, fun k hk _ => heap_alloc_old w.drew _ hk⟩, .inr rfl⟩
    · simp only [Array.size_append, List.size_toArray, size_zeroCells, hzs, hlen, ← Nat.add_mul]
      congr 1
      omega
    · simp only [Array.toList_append]
      rw [← hlen]
      exact List.take_left
theorem wpList_app_src {P : Program} (w : World) {ops : Array Oper} {rest : List Oper} {o : Oper} {a : Act} {Q : Exit → Act → World → Prop} (hgd : o.guard = none) (s x : Operand) (t tx : TypeId)
    (ho : o.op = .call { callee := .builtin .append, args := #[s, x], argTypes := #[t, tx] })
    (base : Nat) (e : TypeId) (i : TypeInfo) (z : Value) (size bytes : Nat) (ht : P.underlying t = some (.slice e)) (hi : P.info? e = some i) (hz : i.zero = some z)
    (hsize : i.size = size) (hby : i.bytes = bytes) (hzs : z.cells.size = size) (g n cap : Nat) (xs : List Value) (hs : a.eval s = .slice (some ⟨g, 0, none⟩) n cap) (hown : w.ownsRow base e size (.slice (some ⟨g, 0, none⟩) n cap) n xs)
    (v : Value) (m : Nat) (news : List Value) (hx : a.eval x = v) (hsrc : Src P size tx v m news w) (h63 : n + m ≤ maxLen) (hbytes : ((n + m) + (n + m) / 4 + 192) * bytes ≤ 281474976710656) (hbase : base ≤ w.heap.size)
    (h : ∀ g' cap' w', w'.ownsRow base e size (.slice (some ⟨g', 0, none⟩) (n + m) cap') (n + m) (xs ++ news) → w.grownBy w' (some g) → (g' = g ∨ g' = w.heap.size) → wpList P ops Q rest (a.put o.dst (.slice (some ⟨g', 0, none⟩) (n + m) cap')) w') : wpList P ops Q (o :: rest) a w := by
  refine wpList_plain hgd fun K hK => ?_
  obtain ⟨g', cap', w', hr, h2, h3, h4⟩ := run_app_src (P := P) w base t tx o.type e i z size bytes ht hi hz hsize hby hzs g n cap xs hown v m news hsrc h63 hbytes hbase
  unfold Oper.wp execOp
  simp only [ho, resolve, invoke, builtin, Sem.run_bind, Sem.run_pure, Result.andThen_ok, List.map_toArray, List.map_cons, List.map_nil, hs, hx, hr]
  exact hK _ _ (h g' cap' w' h2 h3 h4)
end Go.Proofs.Ytkomcebknllaiaa
