/- Numbers as bytes; wire.appendNumber. -/
import Derived.Test.YtmmiiapfefmcjaaJ11
import Derived.Laws.Bits64
import Derived.Test.YtmmiiapfefmcjaaJ8
import Derived.Test.YtmmiiapfefmcjaaJ14
namespace Go.Proofs.Ytmmiiapfefmcjaa
open Go.RowKit

namespace Sp
/-- a number's bytes, in their least form -/
def numB (n : Nat) : List Int := if n < 128 then [(n : Int)] else ((n % 128 + 128 : Nat) : Int) :: numB (n / 128)
termination_by n
decreasing_by omega
theorem numB_lt {n : Nat} (h : n < 128) : numB n = [(n : Int)] := by rw [numB, if_pos h]
theorem numB_ge {n : Nat} (h : ¬ n < 128) : numB n = ((n % 128 + 128 : Nat) : Int) :: numB (n / 128) := by rw [numB, if_neg h]
theorem numB_pos (n : Nat) : 0 < (numB n).length := by
  by_cases h : n < 128
  · rw [numB_lt h]; simp
  · rw [numB_ge h]; simp
end Sp
/-- bytes as cells -/
def u8s (l : List Int) : List Value := l.map fun x => .int .u8 x
theorem u8s_app (a b : List Int) : u8s (a ++ b) = u8s a ++ u8s b := by simp [u8s]
/-- the slice of bytes at a holds xs, in a row made since base -/
def Outs (w : World) (base : Nat) (a : Option Addr) (cap : Nat) (xs : List Int) : Prop := w.ownsRow base 5 1 (.slice a xs.length cap) xs.length (u8s xs) ∧ base ≤ w.heap.size
/-- from w to w' nothing turned but the row of a (and what lies at base or above), and a' is that row or new -/
def Gr (base : Nat) (a a' : Option Addr) (w w' : World) : Prop := Below base w w' ∧ (∀ k, k < w.heap.size → a.map Addr.block ≠ some k → w'.heap[k]? = w.heap[k]?) ∧ (∀ k, a'.map Addr.block = some k → a.map Addr.block = some k ∨ w.heap.size ≤ k)
theorem Gr.refl (base : Nat) (a : Option Addr) (w : World) : Gr base a a w w := ⟨Below.refl _ _, fun _ _ _ => rfl, fun _ h => .inl h⟩
theorem Gr.trans {base : Nat} {a a1 a2 : Option Addr} {w w1 w2 : World} (h : Gr base a a1 w w1) (k : Gr base a1 a2 w1 w2) : Gr base a a2 w w2 := by
  have hz := h.1.size
  refine ⟨h.1.trans k.1, fun i hi hn => ?_, fun i hi => ?_⟩
  · rw [k.2.1 i (by omega) (fun e => by rcases h.2.2 i e with e' | e'; exact hn e'; omega)]
    exact h.2.1 i hi hn
  · rcases k.2.2 i hi with e | e
    · exact h.2.2 i e
    · exact .inr (by omega)
theorem own_map (a : Option Addr) (n cap : Nat) : (Value.slice a n cap).ownBlock = a.map Addr.block := by cases a <;> rfl
theorem Gr.grown {base g g' : Nat} {w w3 : World} (hg : w.grownBy w3 (some g)) (hor : g' = g ∨ g' = w.heap.size) (hb : base ≤ w.heap.size) (hbg : base ≤ g) : Gr base (some ⟨g, 0, none⟩) (some ⟨g', 0, none⟩) w w3 := by
  refine ⟨(Below.refl base w).grown hg hb (fun k e => by injection e with e; omega), fun k hk hn => hg.block k hk (fun e => hn e.symm), fun k hk => ?_⟩
  simp only [Option.map_some, Option.some.injEq] at hk ⊢
  omega
theorem Outs.step {w w3 : World} {base : Nat} {a : Option Addr} {cap : Nat} {xs ys : List Int} {g cap' n m : Nat} {o : Obj} (h : Outs w base a cap xs) (ho : w3.ownsRow base 5 1 (.slice (some ⟨g, 0, none⟩) n cap') n (u8s xs ++ u8s ys)) (hn : n = m) (hm : m = (xs ++ ys).length) (hg : (w.alloc o).grownBy w3 (Value.slice a xs.length cap).ownBlock) (hor : (Value.slice a xs.length cap).ownBlock = some g ∨ g = (w.alloc o).heap.size) : Outs w3 base (some ⟨g, 0, none⟩) cap' (xs ++ ys) ∧ Gr base a (some ⟨g, 0, none⟩) w w3 := by
  have hz := hg.size
  simp at hz
  have hb := h.2
  refine ⟨⟨by rw [u8s_app, ← hm, ← hn]; exact ho, by omega⟩, ?_⟩
  have hB : Below base w w3 := ((Below.refl base w).alloc hb o).grown hg (by simp; omega) (fun k e => (h.1.lt k e).1)
  rw [own_map] at hg hor
  refine ⟨hB, fun k hk hne => ?_, fun k hk => ?_⟩
  · rw [hg.block k (by simp; omega) (fun e => hne e.symm)]; exact Below.heap_alloc _ _ _ hk
  · simp only [Option.map_some, Option.some.injEq] at hk
    subst hk
    rcases hor with e | e
    · exact .inl e
    · simp at e; exact .inr (by omega)
theorem or_128 (a : Int) (h0 : 0 ≤ a) (h1 : a ≤ 255) : bits .or .u8 a 128 = a % 128 + 128 := by
  have key : ∀ x : Fin 256, bits .or .u8 (x.1 : Int) 128 = ((x.1 : Int) % 128 + 128) := by decide +kernel
  have := key ⟨a.toNat, by omega⟩
  simp only [Int.toNat_of_nonneg h0] at this
  exact this

set_option maxRecDepth 100000 in
set_option maxHeartbeats 1000000 in
theorem appNum_any (n : Nat) (base : Nat) (a : Option Addr) (cap : Nat) (xs : List Int) (w : World) (hn : n < 18446744073709551616) (h : Outs w base a cap xs) (hlen : xs.length + (Sp.numB n).length ≤ 140737488355328) :
    Calls Try.prog 95 #[.slice a xs.length cap, .int .u64 n] w fun e w' => ∃ a' cap', e = .returned (.slice a' (xs.length + (Sp.numB n).length) cap') ∧ Outs w' base a' cap' (xs ++ Sp.numB n) ∧ Gr base a a' w w' := by
  obtain ⟨i0, hi, hz0, hz1, hz2⟩ := info_parts Try.infoB
  have H0 : Hid (Outs w base a cap (xs ++ []) ∧ Gr base a a w w) := ⟨by rw [List.append_nil]; exact h, Gr.refl _ _ _⟩
  clear h
  go_enter Try.func95, Try.ntmps95
  go_wp2_with fail
  go_loopw [0, 1] (fun u x wr => ∃ (m : Nat) (ys : List Int) (a' : Option Addr) (cap' : Nat), u = .slice a' (xs.length + ys.length) cap' ∧ x = .int .u64 m ∧ m < 18446744073709551616 ∧ Sp.numB n = ys ++ Sp.numB m ∧ Hid (Outs wr base a' cap' (xs ++ ys) ∧ Gr base a a' w wr)) (fun _ x _ => (intOf x).toNat)
  case atStart => exact ⟨n, [], a, cap, rfl, rfl, hn, rfl, H0.out⟩
  case round =>
    obtain ⟨m, ys, a', cap', rfl, rfl, hm, he, HO⟩ := hrel
    have hl : xs.length + ys.length + (Sp.numB m).length ≤ 140737488355328 := by rw [he, List.length_append] at hlen; omega
    have hp := Sp.numB_pos m
    have hown := HO.out.1.1
    have HOW : Hid (wr.ownsRow base 5 1 (.slice a' (xs.length + ys.length) cap') (xs.length + ys.length) (u8s (xs ++ ys))) := by rw [List.length_append] at hown; exact hown
    clear hown
    by_cases hm' : m < 128
    · have hi1 : ¬ ((128 : Int) ≤ (m : Int)) := by omega
      go_wp2_with (at_builtin; refine wpList_app _ rfl _ _ 23 rfl base 5 i0 (.int .u8 0) 1 1 Try.undB hi hz0 hz1 hz2 rfl (by decide) _ _ _ rfl (HOW.out.alloc _) ⟨wr.heap.size, 0, none⟩ 1 1 [.int .u8 (m : Int)] rfl rfl (cell_one_new _ _ _) (fun u hu => by simp at hu; subst hu; rfl) (by decide) (by unfold maxLen; omega) (by omega) (by have := HO.out.1.2; simp; omega) ?_; intro g' cap2 w3 hown' hgrow hor)
      go_wp2_with fail
      go_ret
      obtain ⟨h1, h2⟩ := HO.out.1.step (ys := [(m : Int)]) hown' rfl (by simp; omega) (by rw [List.length_append]; exact hgrow) (by rw [List.length_append]; exact hor)
      have e1 := Sp.numB_lt hm'
      refine ⟨some ⟨g', 0, none⟩, cap2, by rw [e1]; simp; omega, by rw [e1, ← List.append_assoc]; exact h1, HO.out.2.trans h2⟩
    · have hi1 : (128 : Int) ≤ (m : Int) := by omega
      have hor : bits .or .u8 ((m : Int) % 256) 128 = ((m % 128 + 128 : Nat) : Int) := by rw [or_128 _ (by omega) (by omega)]; omega
      go_wp2_with (at_builtin; refine wpList_app _ rfl _ _ 23 rfl base 5 i0 (.int .u8 0) 1 1 Try.undB hi hz0 hz1 hz2 rfl (by decide) _ _ _ rfl (HOW.out.alloc _) ⟨wr.heap.size, 0, none⟩ 1 1 [.int .u8 ((m % 128 + 128 : Nat) : Int)] rfl rfl (cell_one_new _ _ _) (fun u hu => by simp at hu; subst hu; rfl) (by decide) (by unfold maxLen; omega) (by omega) (by have := HO.out.1.2; simp; omega) ?_; intro g' cap2 w3 hown' hgrow hor')
      obtain ⟨h1, h2⟩ := HO.out.1.step (ys := [((m % 128 + 128 : Nat) : Int)]) hown' rfl (by simp; omega) (by rw [List.length_append]; exact hgrow) (by rw [List.length_append]; exact hor')
      refine ⟨⟨m / 128, ys ++ [((m % 128 + 128 : Nat) : Int)], some ⟨g', 0, none⟩, cap2, by simp; omega, by simp, by omega, ?_, by rw [← List.append_assoc]; exact h1, HO.out.2.trans h2⟩, by simp [intOf]; omega⟩
      rw [he, Sp.numB_ge hm', List.append_assoc]; rfl
end Go.Proofs.Ytmmiiapfefmcjaa

/- wire.bit, folded, appendBits. -/
namespace Go.Proofs.Ytmmiiapfefmcjaa
open Go.RowKit

namespace Sp
/-- the numbers below 0 laid between the others -/
def fold (i : Int) : Nat := if i < 0 then (-2 * i - 1).toNat else (2 * i).toNat
/-- the first k of the eight bytes of 64 bits, the highest first -/
def bitsTo (f : Nat) : Nat → List Int
  | 0 => []
  | k + 1 => bitsTo f k ++ [((f / 2 ^ (56 - 8 * k) % 256 : Nat) : Int)]
theorem bitsTo_len (f : Nat) : ∀ k, (bitsTo f k).length = k
  | 0 => rfl
  | k + 1 => by simp [bitsTo, bitsTo_len f k]
end Sp

set_option maxRecDepth 100000 in
set_option maxHeartbeats 400000 in
theorem bit_any (b : Bool) (w : World) : Calls Try.prog 94 #[.bool b] w fun e w' => e = .returned (.int .u8 (if b then 1 else 0)) ∧ w = w' := by
  cases b <;>
  · go_enter Try.func94, Try.ntmps94
    go_wp2_with fail
    go_ret
    exact ⟨rfl, rfl⟩

theorem xor_ones (x : Int) (h0 : 0 ≤ x) (h1 : x ≤ 18446744073709551615) : bits .xor .u64 IntKind.u64.max x = 18446744073709551615 - x := by
  obtain ⟨n, rfl⟩ := Int.eq_ofNat_of_zero_le h0
  have key : (18446744073709551615 ^^^ n : Nat) = 18446744073709551615 - n := by
    have h : (BitVec.allOnes 64 ^^^ BitVec.ofNat 64 n).toNat = (~~~ BitVec.ofNat 64 n).toNat := by rw [BitVec.allOnes_xor]
    rw [BitVec.toNat_xor, BitVec.toNat_not, BitVec.toNat_allOnes, BitVec.toNat_ofNat, Nat.mod_eq_of_lt (by omega)] at h
    simpa using h
  have := bits_xor_u64_nat 18446744073709551615 n (by decide) (by omega)
  rw [key] at this
  show bits .xor .u64 ((18446744073709551615 : Nat) : Int) _ = _
  rw [this]
  omega

set_option maxRecDepth 100000 in
set_option maxHeartbeats 400000 in
theorem folded_any (i : Int) (w : World) (h0 : -9223372036854775808 ≤ i) (h1 : i ≤ 9223372036854775807) : Calls Try.prog 96 #[.int .i64 i] w fun e w' => e = .returned (.int .u64 (Sp.fold i)) ∧ w = w' := by
  by_cases hi : i < 0
  · go_enter Try.func96, Try.ntmps96
    go_wp2_with fail
    go_ret
    refine ⟨?_, rfl⟩
    have e : bits .xor .u64 IntKind.u64.max (IntKind.u64.wrap (IntKind.u64.wrap i * 2)) = (Sp.fold i : Int) := by
      rw [xor_ones _ (by rw [IntKind.wrap_u64]; omega) (by rw [IntKind.wrap_u64]; omega)]
      unfold Sp.fold
      rw [if_pos hi]
      simp only [IntKind.wrap_u64]
      omega
    show Ending.returned (Value.int .u64 _) = _
    rw [e]
  · go_enter Try.func96, Try.ntmps96
    go_wp2_with fail
    go_ret
    refine ⟨?_, rfl⟩
    have e : i * 2 = (Sp.fold i : Int) := by unfold Sp.fold; rw [if_neg (by omega)]; omega
    show Ending.returned (Value.int .u64 (i * 2)) = _
    rw [e]

set_option maxRecDepth 100000 in
set_option maxHeartbeats 1000000 in
theorem appBits_any (f : Nat) (base : Nat) (a : Option Addr) (cap : Nat) (xs : List Int) (w : World) (h : Outs w base a cap xs) (hlen : xs.length + 8 ≤ 140737488355328) :
    Calls Try.prog 97 #[.slice a xs.length cap, .int .u64 f] w fun e w' => ∃ a' cap', e = .returned (.slice a' (xs.length + 8) cap') ∧ Outs w' base a' cap' (xs ++ Sp.bitsTo f 8) ∧ Gr base a a' w w' := by
  obtain ⟨i0, hi, hz0, hz1, hz2⟩ := info_parts Try.infoB
  have H0 : Hid (Outs w base a cap (xs ++ Sp.bitsTo f 0) ∧ Gr base a a w w) := ⟨by rw [Sp.bitsTo, List.append_nil]; exact h, Gr.refl _ _ _⟩
  clear h
  go_enter Try.func97, Try.ntmps97
  go_wp2_with fail
  go_loopw [0, 5] (fun u x wr => ∃ (k : Nat) (a' : Option Addr) (cap' : Nat), u = .slice a' (xs.length + k) cap' ∧ x = .int .i64 (56 - 8 * (k : Int)) ∧ k ≤ 8 ∧ Hid (Outs wr base a' cap' (xs ++ Sp.bitsTo f k) ∧ Gr base a a' w wr)) (fun _ x _ => (intOf x + 8).toNat)
  case atStart => exact ⟨0, a, cap, rfl, rfl, by omega, H0.out⟩
  case round =>
    obtain ⟨k, a', cap', rfl, rfl, hk, HO⟩ := hrel
    have hown := HO.out.1.1
    have HOW : Hid (wr.ownsRow base 5 1 (.slice a' (xs.length + k) cap') (xs.length + k) (u8s (xs ++ Sp.bitsTo f k))) := by rw [List.length_append, Sp.bitsTo_len] at hown; exact hown
    clear hown
    by_cases hk8 : k = 8
    · subst hk8
      go_wp2_with fail
      go_ret
      exact ⟨a', cap', rfl, HO.out.1, HO.out.2⟩
    · have hi1 : (0 : Int) ≤ 56 - 8 * (k : Int) := by omega
      have hi2 : 8 * (k : Int) ≤ 56 := by omega
      go_wp2_with (at_builtin; refine wpList_app _ rfl _ _ 23 rfl base 5 i0 (.int .u8 0) 1 1 Try.undB hi hz0 hz1 hz2 rfl (by decide) _ _ _ rfl (HOW.out.alloc _) ⟨wr.heap.size, 0, none⟩ 1 1 [.int .u8 ((f : Int) / 2 ^ (56 - 8 * k) % 256)] rfl rfl (cell_one_new _ _ _) (fun u hu => by simp at hu; subst hu; rfl) (by decide) (by unfold maxLen; omega) (by omega) (by have := HO.out.1.2; simp; omega) ?_; intro g' cap2 w3 hown' hgrow hor')
      have eb : (f : Int) / 2 ^ (56 - 8 * k) % 256 = ((f / 2 ^ (56 - 8 * k) % 256 : Nat) : Int) := by simp
      rw [eb] at hown'
      obtain ⟨h1, h2⟩ := HO.out.1.step (ys := [((f / 2 ^ (56 - 8 * k) % 256 : Nat) : Int)]) hown' rfl (by simp [Sp.bitsTo_len]; omega) (by rw [List.length_append, Sp.bitsTo_len]; exact hgrow) (by rw [List.length_append, Sp.bitsTo_len]; exact hor')
      go_roundw
      case rel => exact ⟨k + 1, some ⟨g', 0, none⟩, cap2, rfl, by simp; omega, by omega, by rw [Sp.bitsTo, ← List.append_assoc]; exact h1, HO.out.2.trans h2⟩
      case measure => simp [intOf]; omega
end Go.Proofs.Ytmmiiapfefmcjaa

/- The reader's unfolded, bits and text; making a value of bytes that were looked at: the kinds without parts. -/
namespace Go.Proofs.Ytmmiiapfefmcjaa
open Go.RowKit

theorem frombits_run (n : Nat) (w : World) : (callFunc 87 #[.int .u64 (n : Int)]).run Try.prog w = .ok (.value (.float .f64 n)) w := by
  rw [run_callFunc_extern Try.func87 (by kernel_rfl) (by kernel_rfl) (by kernel_rfl) (e := Extern.MathFloatBits.float64frombits) (by kernel_rfl)]
  rfl

set_option maxRecDepth 100000 in
set_option maxHeartbeats 400000 in
theorem unfolded_any (n : Nat) (w : World) (h : n < 18446744073709551616) : Calls Try.prog 85 #[.int .u64 (n : Int)] w fun e w' => e = .returned (.int .i64 (Sp.unfold' n)) ∧ w = w' := by
  have hand : bits .and .u64 (n : Int) 1 = ((n % 2 : Nat) : Int) := by
    have := bits_and_u64_nat n 1 h (by decide)
    rw [Nat.and_one_is_mod] at this
    exact this
  by_cases hn : n % 2 = 1
  · have hb : ((bits .and .u64 (n : Int) 1) == 1) = true := by rw [hand, hn]; rfl
    clear hand
    go_enter Try.func85, Try.ntmps85
    go_wp2_with fail
    go_ret
    refine ⟨?_, rfl⟩
    have e : wrap64 (bits .xor .u64 IntKind.u64.max ((n : Int) / 2)) = Sp.unfold' n := by
      rw [xor_ones _ (by omega) (by omega)]
      unfold Sp.unfold'
      rw [if_pos hn]
      simp only [wrap64]
      omega
    exact ret_int e
  · have hb : ((bits .and .u64 (n : Int) 1) == 1) = false := by rw [hand, show n % 2 = 0 by omega]; rfl
    clear hand
    go_enter Try.func85, Try.ntmps85
    go_wp2_with fail
    go_ret
    refine ⟨?_, rfl⟩
    have e : (n : Int) / 2 = Sp.unfold' n := by
      unfold Sp.unfold'
      rw [if_neg hn]
      omega
    exact ret_int e

theorem By.part {xs : List Int} (h : By xs) (a n : Nat) : By ((xs.drop a).take n) := fun x hx => h x (List.mem_of_mem_drop (List.mem_of_mem_take hx))
theorem part_len {xs : List Int} {a n : Nat} (h : a + n ≤ xs.length) : ((xs.drop a).take n).length = n := by rw [List.length_take, List.length_drop]; omega

set_option maxRecDepth 100000 in
set_option maxHeartbeats 1000000 in
theorem rtext_ok (n a2 : Nat) (b : Nat) (a : Option Addr) (xs : List Int) (cap at' p : Nat) (w : World) (h : Rdr w b a xs cap at' p) (hby : By xs) (hr : Sp.rn xs at' 10 0 0 = .ok n a2) (hl : a2 + n ≤ xs.length) :
    Calls Try.prog 89 #[.pointer (some ⟨b, 0, none⟩)] w fun e w' => ∃ a' cap', e = .returned (.slice a' n cap') ∧ RdB w' (Lo b) a' ((xs.drop a2).take n) ∧ Rdr w' b a xs cap (a2 + n) p ∧ But b w w' := by
  have HN : Hid (Calls Try.prog 86 #[.pointer (some ⟨b, 0, none⟩)] w fun e w' => e = .returned (.int .u64 (n : Int)) ∧ Rdr w' b a xs cap a2 p ∧ But b w w') := rnumber_ok n a2 b a xs cap at' p w h hby hr
  have HL : Hid (a2 + n ≤ xs.length) := hl
  have hln := h.ln
  have hwn : IntKind.i64.wrap (n : Int) = (n : Int) := Go.wrap_small _ (by omega) (by omega)
  clear h hr hby hl
  go_enter Try.func89, Try.ntmps89
  go_wp2_with fail
  refine HN.out.mono ?_
  rintro e w1 ⟨rfl, hr1, hb1⟩
  have HR1 : Hid (Rdr w1 b a xs cap a2 p ∧ But b w w1) := ⟨hr1, hb1⟩
  clear hr1 hb1 HN
  go_wp2_with fail
  refine (take_ok n b a xs cap a2 p w1 HR1.out.1 HL.out).mono ?_
  rintro e w2 ⟨a7, cap7, rfl, hrd2, hr2, hb2⟩
  have HR2 : Hid (RdB w2 (Lo b) a7 ((xs.drop a2).take n) ∧ Rdr w2 b a xs cap (a2 + n) p ∧ But b w1 w2) := ⟨hrd2, hr2, hb2⟩
  clear hrd2 hr2 hb2
  go_wp2_with fail
  go_ret
  exact ⟨a7, cap7, rfl, HR2.out.1, HR2.out.2.1, HR1.out.2.trans HR2.out.2.2⟩

/-- eight bytes as one number, as far as they came -/
def Sp.cat (l : List Int) : Nat := l.foldl (fun n x => n * 256 + x.toNat) 0
theorem cat_snoc (l : List Int) (x : Int) : Sp.cat (l ++ [x]) = Sp.cat l * 256 + x.toNat := by simp [Sp.cat]
theorem cat_go : ∀ (l : List Int) (acc m : Nat), By l → acc < m → l.foldl (fun n x => n * 256 + x.toNat) acc < m * 256 ^ l.length
  | [], acc, m, _, h => by simpa using h
  | x :: l, acc, m, hb, h => by
    have h2 := hb x (by simp)
    have := cat_go l (acc * 256 + x.toNat) (m * 256) (fun y hy => hb y (by simp [hy])) (by omega)
    simp only [List.foldl_cons, List.length_cons]
    rw [Nat.pow_succ, Nat.mul_comm (256 ^ _) 256, ← Nat.mul_assoc]
    exact this
theorem cat_lt (l : List Int) (h : By l) : Sp.cat l < 256 ^ l.length := by
  have := cat_go l 0 1 h (by omega)
  simpa [Sp.cat] using this
theorem or_byte (n x : Nat) (hn : n < 72057594037927936) (hx : x < 256) : bits .or .u64 ((n * 256 : Nat) : Int) (x : Int) = ((n * 256 + x : Nat) : Int) := by
  rw [bits_or_u64_nat (n * 256) x (by omega) (by omega)]
  congr 1
  have := Nat.shiftLeft_add_eq_or_of_lt (i := 8) (b := x) (by omega) n
  rw [Nat.shiftLeft_eq] at this
  exact this.symm
theorem take_succ_get {l : List Int} {k : Nat} {u : Int} (h : l[k]? = some u) : l.take (k + 1) = l.take k ++ [u] := by
  rw [List.take_add_one, h]; rfl

set_option maxRecDepth 100000 in
set_option maxHeartbeats 1000000 in
theorem rbits_ok (b : Nat) (a : Option Addr) (xs : List Int) (cap at' p : Nat) (w : World) (h : Rdr w b a xs cap at' p) (hby : By xs) (hl : at' + 8 ≤ xs.length) :
    Calls Try.prog 88 #[.pointer (some ⟨b, 0, none⟩)] w fun e w' => e = .returned (.int .u64 (Sp.cat ((xs.drop at').take 8) : Nat)) ∧ Rdr w' b a xs cap (at' + 8) p ∧ But b w w' := by
  have HT : Hid (Calls Try.prog 112 #[.pointer (some ⟨b, 0, none⟩), .int .i64 8] w fun e w' => ∃ a' cap', e = .returned (.slice a' 8 cap') ∧ RdB w' (Lo b) a' ((xs.drop at').take 8) ∧ Rdr w' b a xs cap (at' + 8) p ∧ But b w w') := take_ok 8 b a xs cap at' p w h hl
  obtain ⟨l, hll⟩ : ∃ l, l = (xs.drop at').take 8 := ⟨_, rfl⟩
  have HB : Hid (By l ∧ l.length = 8) := by show _ ∧ _; rw [hll]; exact ⟨hby.part _ _, part_len hl⟩
  rw [← hll] at HT ⊢
  clear h hby hl hll
  go_enter Try.func88, Try.ntmps88
  go_wp2_with fail
  refine HT.out.mono ?_
  rintro e w1 ⟨a7, cap7, rfl, hrd, hr1, hb1⟩
  have HR1 : Hid (RdB w1 (Lo b) a7 l ∧ Rdr w1 b a xs cap (at' + 8) p ∧ But b w w1) := ⟨hrd, hr1, hb1⟩
  clear hrd hr1 hb1 HT
  go_wp2_with fail
  go_loopw [3, 9] (fun u x wr => ∃ (k n : Nat), u = .int .u64 (n : Int) ∧ x = .int .i64 (k : Int) ∧ k ≤ 8 ∧ Hid (n = Sp.cat (l.take k) ∧ wr = w1)) (fun _ x _ => 8 - (intOf x).toNat)
  case atStart => exact ⟨0, 0, rfl, rfl, by omega, rfl, rfl⟩
  case round =>
    obtain ⟨k, n, rfl, rfl, hk, HI⟩ := hrel
    obtain ⟨hn, rfl⟩ := HI.out
    clear HI
    by_cases hk8 : k = 8
    · have h1 : ¬ ((k : Int) < 8) := by omega
      have HN : Hid (n = Sp.cat l) := by show _ = _; rw [hn, List.take_of_length_le (by rw [HB.out.2]; omega)]
      clear hn
      go_wp2_with fail
      go_ret
      exact ⟨by rw [HN.out]; rfl, HR1.out.2⟩
    · have h1 : (k : Int) < 8 := by omega
      have hkl : k < l.length := by rw [HB.out.2]; omega
      have hu := List.getElem?_eq_getElem hkl
      have hbu := HB.out.1.get hu
      have hlt := cat_lt (l.take k) (fun y hy => HB.out.1 y (List.mem_of_mem_take hy))
      rw [List.length_take, Nat.min_eq_left (by omega), ← hn] at hlt
      have hlt7 : n < 72057594037927936 := Nat.lt_of_lt_of_le hlt (Nat.pow_le_pow_right (n := 256) (by decide) (show k ≤ 7 by omega))
      have HNX : Hid (n * 256 + (l[k]).toNat = Sp.cat (l.take (k + 1))) := by show _ = _; rw [take_succ_get hu, cat_snoc, hn]
      obtain ⟨g, o, rfl, _, hc⟩ := HR1.out.1 k _ hu
      have hor := or_byte n (l[k]).toNat hlt7 (by omega)
      generalize l[k] = u at *
      have HOR : Hid (bits BinOp.or IntKind.u64 ((n : Int) * 256) u = ((n * 256 + u.toNat : Nat) : Int)) := by
        show _ = _
        have : ((u.toNat : Nat) : Int) = u := by omega
        rw [this] at hor
        exact_mod_cast hor
      clear hlt hn hor hu
      go_wp2_with fail
      go_roundw
      case rel => exact ⟨k + 1, n * 256 + u.toNat, by rw [HOR.out], by go_num, by omega, HNX.out, trivial⟩
      case measure => simp [intOf]; omega
end Go.Proofs.Ytmmiiapfefmcjaa

