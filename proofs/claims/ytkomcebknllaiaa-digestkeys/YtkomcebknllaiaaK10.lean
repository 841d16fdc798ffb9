/- Plain mathematics: the order of terms, and that it is an order. Nothing of the program stands here. -/
import Derived.Test.YtkomcebknllaiaaK1
import Derived.Lib.Bytealg
import Derived.Test.YtkomcebknllaiaaK5
import Derived.Lib.BytesEntry
namespace Go.Proofs.Ytkomcebknllaiaa

namespace Sp
def cmpI (a b : Int) : Int := if a < b then -1 else if b < a then 1 else 0
def cmpS (a b : ByteArray) : Int := Lib.compareBytes a.data.toList b.data.toList
def rank (b : Bool) : Int := if b then 1 else 0
/-- where a float stands, by its bits -/
def frank (f : Nat) : Int := if 9223372036854775808 ≤ f then 18446744073709551615 - f else f + 9223372036854775808
end Sp

mutual
def Tm.cmp : Tm → Tm → Int
  | .mk k b i f tx by' rf l fs c v, .mk k2 b2 i2 f2 tx2 by2 rf2 l2 fs2 c2 v2 =>
    if Sp.cmpI k k2 ≠ 0 then Sp.cmpI k k2
    else if k = 2 then Sp.cmpI (Sp.rank b) (Sp.rank b2)
    else if k = 3 then Sp.cmpI i i2
    else if k = 4 then Sp.cmpI (Sp.frank f) (Sp.frank f2)
    else if k = 5 then Sp.cmpS tx tx2
    else if k = 6 then Sp.cmpS by' by2
    else if k = 7 then Sp.cmpI rf rf2
    else if k = 8 then l.cmp l2
    else if k = 9 then fs.cmp fs2
    else if k = 10 then (if Sp.cmpS c c2 ≠ 0 then Sp.cmpS c c2 else if Sp.cmpI v v2 ≠ 0 then Sp.cmpI v v2 else fs.cmp fs2)
    else 0
def TmL.cmp : TmL → TmL → Int
  | .nil, .nil => 0
  | .nil, .cons _ _ => -1
  | .cons _ _, .nil => 1
  | .cons t l, .cons t2 l2 => if t.cmp t2 ≠ 0 then t.cmp t2 else l.cmp l2
def TmF.cmp : TmF → TmF → Int
  | .nil, .nil => 0
  | .nil, .cons _ _ _ => -1
  | .cons _ _ _, .nil => 1
  | .cons n t l, .cons n2 t2 l2 => if Sp.cmpS n n2 ≠ 0 then Sp.cmpS n n2 else if t.cmp t2 ≠ 0 then t.cmp t2 else l.cmp l2
end

theorem ba_empty {s : ByteArray} (h : s.size = 0) : s = ByteArray.empty := by
  cases s with | mk d => simp [ByteArray.size] at h; subst h; rfl
theorem ba_len (s : ByteArray) : s.data.toList.length = s.size := Array.length_toList
theorem bytesLess_cmp : ∀ (a b : List UInt8), Op.bytesLess a b = decide (Lib.compareBytes a b = -1)
  | [], [] => by simp [Op.bytesLess, Lib.compareBytes]
  | [], _ :: _ => by simp [Op.bytesLess, Lib.compareBytes]
  | _ :: _, [] => by simp [Op.bytesLess, Lib.compareBytes]
  | x :: a, y :: b => by
    simp only [Op.bytesLess, Lib.compareBytes, bytesLess_cmp a b]
    by_cases h1 : x < y
    · simp [h1]
    · by_cases h2 : y < x
      · have : ¬ x = y := by intro e; subst e; exact absurd h2 (UInt8.lt_irrefl _)
        simp [h1, h2, this]
      · have : x = y := UInt8.le_antisymm (UInt8.not_lt.1 h2) (UInt8.not_lt.1 h1)
        simp [this]
theorem cmp_eq_zero : ∀ (a b : List UInt8), Lib.compareBytes a b = 0 ↔ a = b
  | [], [] => by simp [Lib.compareBytes]
  | [], _ :: _ => by simp [Lib.compareBytes]
  | _ :: _, [] => by simp [Lib.compareBytes]
  | x :: a, y :: b => by
    simp only [Lib.compareBytes]
    by_cases h1 : x < y
    · have : ¬ x = y := by intro e; subst e; exact absurd h1 (UInt8.lt_irrefl _)
      simp [h1, this]
    · by_cases h2 : y < x
      · have : ¬ x = y := by intro e; subst e; exact absurd h2 (UInt8.lt_irrefl _)
        simp [h1, h2, this]
      · have : x = y := UInt8.le_antisymm (UInt8.not_lt.1 h2) (UInt8.not_lt.1 h1)
        simp [this, cmp_eq_zero a b]
theorem cmp_vals : ∀ (a b : List UInt8), Lib.compareBytes a b = -1 ∨ Lib.compareBytes a b = 0 ∨ Lib.compareBytes a b = 1
  | [], [] => by simp [Lib.compareBytes]
  | [], _ :: _ => by simp [Lib.compareBytes]
  | _ :: _, [] => by simp [Lib.compareBytes]
  | x :: a, y :: b => by
    simp only [Lib.compareBytes]
    split
    · simp
    · split
      · simp
      · exact cmp_vals a b

theorem cmpI_zero {a b : Int} (h : Sp.cmpI a b = 0) : a = b := by
  unfold Sp.cmpI at h; split at h
  · omega
  · split at h <;> omega
theorem cmpI_self (a : Int) : Sp.cmpI a a = 0 := by unfold Sp.cmpI; rw [if_neg (by omega), if_neg (by omega)]

section
variable {b b2 : Bool} {i i2 : Int} {f f2 : Nat} {tx tx2 : ByteArray} {by' by2 : ByteArray} {rf rf2 : Int} {l l2 : TmL} {fs fs2 : TmF} {c c2 : ByteArray} {v v2 : Int}
theorem Tm.cmp_ne {k k2 : Int} (h : Sp.cmpI k k2 ≠ 0) : (Tm.mk k b i f tx by' rf l fs c v).cmp (.mk k2 b2 i2 f2 tx2 by2 rf2 l2 fs2 c2 v2) = Sp.cmpI k k2 := by rw [Tm.cmp, if_pos h]
theorem Tm.cmp_1 : (Tm.mk 1 b i f tx by' rf l fs c v).cmp (.mk 1 b2 i2 f2 tx2 by2 rf2 l2 fs2 c2 v2) = 0 := by simp [Tm.cmp, cmpI_self]
theorem Tm.cmp_2 : (Tm.mk 2 b i f tx by' rf l fs c v).cmp (.mk 2 b2 i2 f2 tx2 by2 rf2 l2 fs2 c2 v2) = Sp.cmpI (Sp.rank b) (Sp.rank b2) := by simp [Tm.cmp, cmpI_self]
theorem Tm.cmp_3 : (Tm.mk 3 b i f tx by' rf l fs c v).cmp (.mk 3 b2 i2 f2 tx2 by2 rf2 l2 fs2 c2 v2) = Sp.cmpI i i2 := by simp [Tm.cmp, cmpI_self]
theorem Tm.cmp_4 : (Tm.mk 4 b i f tx by' rf l fs c v).cmp (.mk 4 b2 i2 f2 tx2 by2 rf2 l2 fs2 c2 v2) = Sp.cmpI (Sp.frank f) (Sp.frank f2) := by simp [Tm.cmp, cmpI_self]
theorem Tm.cmp_5 : (Tm.mk 5 b i f tx by' rf l fs c v).cmp (.mk 5 b2 i2 f2 tx2 by2 rf2 l2 fs2 c2 v2) = Sp.cmpS tx tx2 := by simp [Tm.cmp, cmpI_self]
theorem Tm.cmp_6 : (Tm.mk 6 b i f tx by' rf l fs c v).cmp (.mk 6 b2 i2 f2 tx2 by2 rf2 l2 fs2 c2 v2) = Sp.cmpS by' by2 := by simp [Tm.cmp, cmpI_self]
theorem Tm.cmp_7 : (Tm.mk 7 b i f tx by' rf l fs c v).cmp (.mk 7 b2 i2 f2 tx2 by2 rf2 l2 fs2 c2 v2) = Sp.cmpI rf rf2 := by simp [Tm.cmp, cmpI_self]
theorem Tm.cmp_8 : (Tm.mk 8 b i f tx by' rf l fs c v).cmp (.mk 8 b2 i2 f2 tx2 by2 rf2 l2 fs2 c2 v2) = l.cmp l2 := by simp [Tm.cmp, cmpI_self]
theorem Tm.cmp_9 : (Tm.mk 9 b i f tx by' rf l fs c v).cmp (.mk 9 b2 i2 f2 tx2 by2 rf2 l2 fs2 c2 v2) = fs.cmp fs2 := by simp [Tm.cmp, cmpI_self]
theorem Tm.cmp_10 : (Tm.mk 10 b i f tx by' rf l fs c v).cmp (.mk 10 b2 i2 f2 tx2 by2 rf2 l2 fs2 c2 v2) = (if Sp.cmpS c c2 ≠ 0 then Sp.cmpS c c2 else if Sp.cmpI v v2 ≠ 0 then Sp.cmpI v v2 else fs.cmp fs2) := by simp [Tm.cmp, cmpI_self]
end

/-- a term, a list of terms, fields that can be -/
def Tm.Ok (t : Tm) : Prop := ∃ n p d, (t.wk n p d).e = 0
def TmL.Ok (l : TmL) : Prop := ∃ n p d, (l.wk n p d).e = 0
def TmF.Ok (l : TmF) : Prop := ∃ n p d, (l.wk n p d).e = 0
theorem TmL.Ok.head {t : Tm} {l : TmL} (h : TmL.Ok (.cons t l)) : t.Ok ∧ l.Ok := by
  obtain ⟨n, p, d, h⟩ := h
  rw [TmL.wk] at h
  by_cases e : (t.wk n p d).e ≠ 0
  · rw [if_pos e] at h; exact absurd h e
  · rw [if_neg e] at h; exact ⟨⟨n, p, d, Decidable.not_not.1 e⟩, ⟨_, _, _, h⟩⟩
theorem TmF.Ok.head {m : ByteArray} {t : Tm} {l : TmF} (h : TmF.Ok (.cons m t l)) : t.Ok ∧ l.Ok := by
  obtain ⟨n, p, d, h⟩ := h
  rw [TmF.wk] at h
  by_cases e : (t.wk n p d).e ≠ 0
  · rw [if_pos e] at h; exact absurd h e
  · rw [if_neg e] at h; exact ⟨⟨n, p, d, Decidable.not_not.1 e⟩, ⟨_, _, _, h⟩⟩
theorem Tm.Ok.parts {k : Int} {b : Bool} {i : Int} {f : Nat} {tx : ByteArray} {by' : ByteArray} {rf : Int} {l : TmL} {fs : TmF} {c : ByteArray} {v : Int} (h : Tm.Ok (.mk k b i f tx by' rf l fs c v)) :
    1 ≤ k ∧ k ≤ 10 ∧ (k = 8 → l.Ok) ∧ (k = 9 ∨ k = 10 → fs.Ok) := by
  obtain ⟨n, p, d, h⟩ := h
  rw [Tm.wk] at h
  by_cases e : (Tm.mk k b i f tx by' rf l fs c v).own p n ≠ 0
  · rw [if_pos e] at h; exact absurd h e
  · rw [if_neg e] at h
    have hz := Sp.ent_zero (Tm.own_ent _ _ _ (Decidable.not_not.1 e))
    refine ⟨hz.1, hz.2.1, fun h8 => ?_, fun h9 => ?_⟩
    · rw [if_pos h8] at h; exact ⟨_, _, _, h⟩
    · rw [if_neg (by omega), if_pos h9] at h; exact ⟨_, _, _, h⟩
end Go.Proofs.Ytkomcebknllaiaa

/- The leaves of package value's order: numbers, texts, bools, floats, bytes. -/
namespace Go.Proofs.Ytkomcebknllaiaa
open Go.RowKit

set_option maxRecDepth 100000 in
set_option maxHeartbeats 400000 in
theorem cmpInt_any (a b : Int) (w : World) :
    Calls Try.prog 70 #[.int .i64 a, .int .i64 b] w fun e w' => e = .returned (.int .i64 (Sp.cmpI a b)) ∧ w = w' := by
  by_cases h1 : a < b
  · have H : Hid (Sp.cmpI a b = -1) := by show _ = _; simp [Sp.cmpI, h1]
    go_enter Try.func70, Try.ntmps70
    go_wp2
    go_ret
    exact ⟨ret_int H.out.symm, rfl⟩
  · by_cases h2 : b < a
    · have H : Hid (Sp.cmpI a b = 1) := by show _ = _; simp [Sp.cmpI, h1, h2]
      go_enter Try.func70, Try.ntmps70
      go_wp2
      go_ret
      exact ⟨ret_int H.out.symm, rfl⟩
    · have H : Hid (Sp.cmpI a b = 0) := by show _ = _; simp [Sp.cmpI, h1, h2]
      go_enter Try.func70, Try.ntmps70
      go_wp2
      go_ret
      exact ⟨ret_int H.out.symm, rfl⟩
set_option maxRecDepth 100000 in
set_option maxHeartbeats 400000 in
theorem cmpI64_any (a b : Int) (w : World) :
    Calls Try.prog 72 #[.int .i64 a, .int .i64 b] w fun e w' => e = .returned (.int .i64 (Sp.cmpI a b)) ∧ w = w' := by
  by_cases h1 : a < b
  · have H : Hid (Sp.cmpI a b = -1) := by show _ = _; simp [Sp.cmpI, h1]
    go_enter Try.func72, Try.ntmps72
    go_wp2
    go_ret
    exact ⟨ret_int H.out.symm, rfl⟩
  · by_cases h2 : b < a
    · have H : Hid (Sp.cmpI a b = 1) := by show _ = _; simp [Sp.cmpI, h1, h2]
      go_enter Try.func72, Try.ntmps72
      go_wp2
      go_ret
      exact ⟨ret_int H.out.symm, rfl⟩
    · have H : Hid (Sp.cmpI a b = 0) := by show _ = _; simp [Sp.cmpI, h1, h2]
      go_enter Try.func72, Try.ntmps72
      go_wp2
      go_ret
      exact ⟨ret_int H.out.symm, rfl⟩
set_option maxRecDepth 100000 in
set_option maxHeartbeats 400000 in
theorem cmpU64_any (a b : Int) (w : World) :
    Calls Try.prog 73 #[.int .u64 a, .int .u64 b] w fun e w' => e = .returned (.int .i64 (Sp.cmpI a b)) ∧ w = w' := by
  by_cases h1 : a < b
  · have H : Hid (Sp.cmpI a b = -1) := by show _ = _; simp [Sp.cmpI, h1]
    go_enter Try.func73, Try.ntmps73
    go_wp2
    go_ret
    exact ⟨ret_int H.out.symm, rfl⟩
  · by_cases h2 : b < a
    · have H : Hid (Sp.cmpI a b = 1) := by show _ = _; simp [Sp.cmpI, h1, h2]
      go_enter Try.func73, Try.ntmps73
      go_wp2
      go_ret
      exact ⟨ret_int H.out.symm, rfl⟩
    · have H : Hid (Sp.cmpI a b = 0) := by show _ = _; simp [Sp.cmpI, h1, h2]
      go_enter Try.func73, Try.ntmps73
      go_wp2
      go_ret
      exact ⟨ret_int H.out.symm, rfl⟩
set_option maxRecDepth 100000 in
set_option maxHeartbeats 400000 in
theorem cmpRef_any (a b : Int) (w : World) :
    Calls Try.prog 77 #[.int .u64 a, .int .u64 b] w fun e w' => e = .returned (.int .i64 (Sp.cmpI a b)) ∧ w = w' := by
  by_cases h1 : a < b
  · have H : Hid (Sp.cmpI a b = -1) := by show _ = _; simp [Sp.cmpI, h1]
    go_enter Try.func77, Try.ntmps77
    go_wp2
    go_ret
    exact ⟨ret_int H.out.symm, rfl⟩
  · by_cases h2 : b < a
    · have H : Hid (Sp.cmpI a b = 1) := by show _ = _; simp [Sp.cmpI, h1, h2]
      go_enter Try.func77, Try.ntmps77
      go_wp2
      go_ret
      exact ⟨ret_int H.out.symm, rfl⟩
    · have H : Hid (Sp.cmpI a b = 0) := by show _ = _; simp [Sp.cmpI, h1, h2]
      go_enter Try.func77, Try.ntmps77
      go_wp2
      go_ret
      exact ⟨ret_int H.out.symm, rfl⟩

theorem less_of (a b : ByteArray) : Op.bytesLess a.toList b.toList = decide (Sp.cmpS a b = -1) := by
  rw [ByteArray.toList_eq, ByteArray.toList_eq]; exact bytesLess_cmp _ _
theorem same_of (a b : ByteArray) : (a.toList == b.toList) = decide (Sp.cmpS a b = 0) := by
  rw [ByteArray.toList_eq, ByteArray.toList_eq, Bool.eq_iff_iff]
  simp [Sp.cmpS, cmp_eq_zero]

set_option maxRecDepth 100000 in
set_option maxHeartbeats 400000 in
theorem cmpStr_any (a b : ByteArray) (w : World) :
    Calls Try.prog 75 #[.string a, .string b] w fun e w' => e = .returned (.int .i64 (Sp.cmpS a b)) ∧ w = w' := by
  have hl := less_of a b
  have he := same_of a b
  rcases cmp_vals a.data.toList b.data.toList with h | h | h
  · have H : Hid (Sp.cmpS a b = -1) := h
    rw [H.out] at hl he; simp at hl he
    go_enter Try.func75, Try.ntmps75
    go_wp2
    go_ret
    exact ⟨ret_int H.out.symm, rfl⟩
  · have H : Hid (Sp.cmpS a b = 0) := h
    rw [H.out] at hl he; simp at hl he
    have he' : (a.toList == b.toList) = true := by simp [he]
    clear he
    go_enter Try.func75, Try.ntmps75
    go_wp2
    go_ret
    exact ⟨ret_int H.out.symm, rfl⟩
  · have H : Hid (Sp.cmpS a b = 1) := h
    rw [H.out] at hl he; simp at hl he
    have he' : (a.toList == b.toList) = false := by simp [he]
    clear he
    go_enter Try.func75, Try.ntmps75
    go_wp2
    go_ret
    exact ⟨ret_int H.out.symm, rfl⟩

set_option maxRecDepth 100000 in
set_option maxHeartbeats 400000 in
theorem boolRank_any (b : Bool) (w : World) :
    Calls Try.prog 71 #[.bool b] w fun e w' => e = .returned (.int .i64 (Sp.rank b)) ∧ w = w' := by
  cases b
  · go_enter Try.func71, Try.ntmps71
    go_wp2
    go_ret
    exact ⟨rfl, rfl⟩
  · go_enter Try.func71, Try.ntmps71
    go_wp2
    go_ret
    exact ⟨rfl, rfl⟩

theorem fr_and (f : Nat) (hf : f < 18446744073709551616) : bits BinOp.and IntKind.u64 (f : Int) 9223372036854775808 = if 9223372036854775808 ≤ f then 9223372036854775808 else 0 := by
  have h := bits_and_u64_nat f 9223372036854775808 hf (by decide)
  have h' : bits BinOp.and IntKind.u64 (f : Int) 9223372036854775808 = ((f &&& 9223372036854775808 : Nat) : Int) := h
  rw [h', nat_bit63]
  split <;> omega
theorem fr_or (f : Nat) (hf : f < 9223372036854775808) : bits BinOp.or IntKind.u64 (f : Int) 9223372036854775808 = (f : Int) + 9223372036854775808 := by
  have h := bits_or_u64_nat f 9223372036854775808 (by omega) (by decide)
  have h' : bits BinOp.or IntKind.u64 (f : Int) 9223372036854775808 = ((f ||| 9223372036854775808 : Nat) : Int) := h
  rw [h', nat_join63' 9223372036854775808 f (by decide) hf]
  omega
theorem xor_max (f : Nat) (hf : f < 18446744073709551616) : 18446744073709551615 ^^^ f = 18446744073709551615 - f := by
  have h := congrArg BitVec.toNat (BitVec.allOnes_xor (x := BitVec.ofNat 64 f))
  rw [BitVec.toNat_xor, BitVec.toNat_not, BitVec.toNat_allOnes, BitVec.toNat_ofNat, Nat.mod_eq_of_lt (by simpa using hf)] at h
  simpa using h
theorem fr_xor (f : Nat) (hf : f < 18446744073709551616) : bits BinOp.xor IntKind.u64 IntKind.u64.max (f : Int) = 18446744073709551615 - (f : Int) := by
  have h := bits_xor_u64_nat 18446744073709551615 f (by decide) hf
  have h' : bits BinOp.xor IntKind.u64 IntKind.u64.max (f : Int) = ((18446744073709551615 ^^^ f : Nat) : Int) := h
  rw [h', xor_max f hf]
  omega
theorem bits_run (f : Nat) (w : World) : (callFunc 47 #[.float .f64 f]).run Try.prog w = .ok (.value (.int .u64 f)) w := by
  rw [run_callFunc_extern Try.func47 (by kernel_rfl) (by kernel_rfl) (by kernel_rfl) (e := Extern.MathFloatBits.float64bits) (by kernel_rfl)]
  rfl

set_option maxRecDepth 100000 in
set_option maxHeartbeats 400000 in
theorem floatRank_any (f : Nat) (w : World) (hf : f < 18446744073709551616) :
    Calls Try.prog 74 #[.float .f64 f] w fun e w' => e = .returned (.int .u64 (Sp.frank f)) ∧ w = w' := by
  have hb := bits_run f
  by_cases h : 9223372036854775808 ≤ f
  · have ha : (bits BinOp.and IntKind.u64 (f : Int) 9223372036854775808 != 0) = true := by rw [fr_and f hf, if_pos h]; decide
    have H : Hid (Sp.frank f = bits BinOp.xor IntKind.u64 IntKind.u64.max (f : Int)) := by show _ = _; rw [fr_xor f hf]; unfold Sp.frank; rw [if_pos h]
    go_enter Try.func74, Try.ntmps74
    go_wp2
    go_ret
    exact ⟨ret_int H.out.symm, rfl⟩
  · have ha : (bits BinOp.and IntKind.u64 (f : Int) 9223372036854775808 != 0) = false := by rw [fr_and f hf, if_neg h]; decide
    have H : Hid (Sp.frank f = bits BinOp.or IntKind.u64 (f : Int) 9223372036854775808) := by show _ = _; rw [fr_or f (by omega)]; unfold Sp.frank; rw [if_neg h]
    go_enter Try.func74, Try.ntmps74
    go_wp2
    go_ret
    exact ⟨ret_int H.out.symm, rfl⟩

theorem load_run (x : ByteArray) (a : Option Addr) (c : Nat) (S : Nat → Prop) (w : World) (ha : BytesAt w S a x) : (Extern.Bytes.bytesOf (.slice a x.size c)).run Try.prog w = .ok x w := by
  by_cases h0 : x.size = 0
  · obtain rfl := ba_empty h0
    cases a <;> rfl
  · obtain ⟨g, o, rfl, _, _⟩ := ha 0 (by omega)
    have h := Lib.run_loadBytesX (P := Try.prog) w (x.data.toList.map fun u => (u.toNat : Int)) ⟨g, o, none⟩ ByteArray.empty (fun j z hj => by
      rw [List.getElem?_map] at hj
      cases hu : x.data.toList[j]? with
      | none => rw [hu] at hj; simp at hj
      | some u =>
        rw [hu] at hj
        have hz : (u.toNat : Int) = z := by simpa using hj
        subst hz
        have hjl : j < x.size := by
          rw [← ba_len]
          exact (List.getElem?_eq_some_iff.1 hu).1
        obtain ⟨g', o', e, _, hc⟩ := ha j hjl
        simp only [Option.some.injEq, Addr.mk.injEq, and_true] at e
        obtain ⟨rfl, rfl⟩ := e
        have ea : (⟨g, o, none⟩ : Addr).add j = ⟨g, o + j, none⟩ := by
          unfold Addr.add; split
          · rename_i h; rw [h]; rfl
          · rfl
        rw [ea, hc]
        have : Sp.byte x j = (u.toNat : Int) := by
          unfold Sp.byte
          have hu' : x.data[j]? = some u := by simpa using hu
          simp [hu']
        rw [this])
    rw [List.length_map, ba_len] at h
    show (Extern.Bytes.loadBytes ⟨g, o, none⟩ x.size ByteArray.empty).run Try.prog w = _
    rw [h]
    have e2 : Lib.bytesOf (x.data.toList.map fun u => (u.toNat : Int)) = x.data.toList := by
      unfold Lib.bytesOf
      rw [List.map_map]
      conv => rhs; rw [← List.map_id x.data.toList]
      refine List.map_congr_left fun u _ => ?_
      simp
    rw [e2]
    cases x with | mk d => simp
theorem bcmp_run (x y : ByteArray) (a b : Option Addr) (c d : Nat) (S : Nat → Prop) (w : World) (ha : BytesAt w S a x) (hb : BytesAt w S b y) :
    (callFunc 116 #[.slice a x.size c, .slice b y.size d]).run Try.prog w = .ok (.value (.int .i64 (Sp.cmpS x y))) w := by
  rw [run_callFunc_extern Try.func116 (by kernel_rfl) (by kernel_rfl) (by kernel_rfl) (e := Extern.BytealgCompare.compare) (by kernel_rfl)]
  have e : (Extern.BytealgCompare.compare #[.slice a x.size c, .slice b y.size d]).run Try.prog w = .ok (.int .i64 (Sp.cmpS x y)) w := by
    change Sem.run Try.prog (do pure (goInt (Extern.BytealgCompare.cmp (← Extern.Bytes.bytesOf (.slice a x.size c)) (← Extern.Bytes.bytesOf (.slice b y.size d))))) w = _
    simp only [Sem.run_bind, load_run x a c S w ha, load_run y b d S w hb, Result.andThen_ok, Sem.run_pure, Lib.cmp_eq]
    rfl
  rw [e]; rfl

set_option maxRecDepth 100000 in
set_option maxHeartbeats 400000 in
theorem bytesCmp_any (x y : ByteArray) (a b : Option Addr) (c d : Nat) (S : Nat → Prop) (w : World) (ha : BytesAt w S a x) (hb : BytesAt w S b y) :
    Calls Try.prog 76 #[.slice a x.size c, .slice b y.size d] w fun e w' => e = .returned (.int .i64 (Sp.cmpS x y)) ∧ w = w' := by
  have hr := bcmp_run x y a b c d S w ha hb
  clear ha hb
  go_enter Try.func76, Try.ntmps76
  go_wp2
  go_ret
  exact ⟨rfl, rfl⟩
end Go.Proofs.Ytkomcebknllaiaa

/- Package value's order of two values is the plain order of their terms. -/
namespace Go.Proofs.Ytkomcebknllaiaa
open Go.RowKit

def OrderC (N : Nat) : Prop := ∀ (s t : Tm), s.sz ≤ N → ∀ (va vb : Value) (S : Nat → Prop) (w : World), s.V w S va → t.V w S vb → s.Ok → t.Ok →
  Calls Try.prog 45 #[va, vb] w fun e w' => e = .returned (.int .i64 (s.cmp t)) ∧ ∃ m, w' = w.drewN m

theorem same_drewN (S : Nat → Prop) (w : World) (n : Nat) : Same S w (w.drewN n) := fun _ _ => rfl

set_option maxRecDepth 100000 in
set_option maxHeartbeats 1000000 in
theorem orderLists_any (N : Nat) (HC : OrderC N) (A B : TmL) (hN : A.sz ≤ N) (a b : Option Addr) (ca cb : Nat) (S : Nat → Prop) (w : World) (ha : A.V w S a 0) (hb : B.V w S b 0) (oa : A.Ok) (ob : B.Ok) (la : A.len ≤ maxLen) (lb : B.len ≤ maxLen) :
    Calls Try.prog 78 #[.slice a A.len ca, .slice b B.len cb] w fun e w' => e = .returned (.int .i64 (A.cmp B)) ∧ ∃ m, w' = w.drewN m := by
  unfold maxLen at la lb
  have HCH : Hid (OrderC N) := HC
  have H0 : Hid (A.V w S a 0 ∧ B.V w S b 0 ∧ A.Ok ∧ B.Ok) := ⟨ha, hb, oa, ob⟩
  clear HC ha hb oa ob
  by_cases hm : A.len ≤ B.len
  all_goals
    go_enter Try.func78, Try.ntmps78
    go_wp2_with fail
    go_loopw [12] (fun x wr => ∃ (k m : Nat) (l r : TmL), x = .int .i64 k ∧ l.len + k = A.len ∧ r.len + k = B.len ∧ l.sz ≤ N ∧ Hid (l.V w S a k ∧ r.V w S b k ∧ l.Ok ∧ r.Ok ∧ A.cmp B = l.cmp r) ∧ Hid (wr = w.drewN m)) (fun x _ => A.len - (intOf x).toNat)
    case atStart => exact ⟨0, 0, A, B, rfl, rfl, rfl, hN, ⟨H0.out.1, H0.out.2.1, H0.out.2.2.1, H0.out.2.2.2, rfl⟩, rfl⟩
    case round =>
      obtain ⟨k, m, l, r, rfl, hl, hr, hlN, HI, HW⟩ := hrel
      cases l with
      | nil =>
        have h1 : A.len ≤ k := by simp [TmL.len] at hl; omega
        have H : Hid (A.cmp B = Sp.cmpI A.len B.len) := by
          show _ = _
          rw [HI.out.2.2.2.2]
          cases r with
          | nil => simp only [TmL.len] at hl hr; simp only [TmL.cmp]; unfold Sp.cmpI; rw [if_neg (by omega), if_neg (by omega)]
          | cons u r => simp only [TmL.len] at hl hr; simp only [TmL.cmp]; unfold Sp.cmpI; rw [if_pos (by omega)]
        have h2 : k ≤ B.len := by omega
        have h3 : A.len ≤ B.len := by simp only [TmL.len] at hl; omega
        clear hl hr
        first
        | (exfalso; omega)
        | (go_wp2_with (go_at_call 70; refine (cmpInt_any _ _ _).mono ?_; rintro e w' ⟨rfl, rfl⟩)
           go_ret
           exact ⟨ret_int H.out.symm, m, HW.out⟩)
      | cons t l =>
        cases r with
        | nil =>
          have h1 : B.len ≤ k := by simp [TmL.len] at hr; omega
          have H : Hid (A.cmp B = Sp.cmpI A.len B.len) := by
            show _ = _
            rw [HI.out.2.2.2.2]
            simp only [TmL.len] at hl hr; simp only [TmL.cmp]; unfold Sp.cmpI; rw [if_neg (by omega), if_pos (by omega)]
          have h3 : B.len < A.len := by simp only [TmL.len] at hl hr; omega
          clear hl hr
          first
          | (exfalso; omega)
          | (go_wp2_with (go_at_call 70; refine (cmpInt_any _ _ _).mono ?_; rintro e w' ⟨rfl, rfl⟩)
             go_ret
             exact ⟨ret_int H.out.symm, m, HW.out⟩)
        | cons u r =>
          obtain ⟨hv1, hv2, ho1, ho2, hc⟩ := HI.out
          simp only [TmL.V] at hv1 hv2
          obtain ⟨g1, o1, v1, rfl, _, c1, ht, hl'⟩ := hv1
          obtain ⟨g2, o2, v2, rfl, _, c2, hu, hr'⟩ := hv2
          have hk1 : k < A.len := by simp only [TmL.len] at hl; omega
          have hk2 : k < B.len := by simp only [TmL.len] at hr; omega
          have hi0 : (0 : Int) ≤ (k : Int) := Int.natCast_nonneg _
          have hi1 : (k : Int) < (A.len : Int) := by omega
          have hi2 : (k : Int) < (B.len : Int) := by omega
          have HL : Hid (l.len + (k + 1) = A.len ∧ r.len + (k + 1) = B.len) := by show _ ∧ _; simp only [TmL.len] at hl hr; omega
          have htN : t.sz ≤ N ∧ l.sz ≤ N := by simp [TmL.sz] at hlN; omega
          have HO : Hid (∀ n, Calls Try.prog 45 #[v1, v2] (wr.drewN n) fun e w' => e = .returned (.int .i64 (t.cmp u)) ∧ ∃ m, w' = (wr.drewN n).drewN m) := fun n => by
            have hs : Same S w (wr.drewN n) := fun k _ => by rw [HW.out]; rfl
            exact HCH.out t u htN.1 v1 v2 S (wr.drewN n) (t.V_same hs (fun _ h => h) v1 ht) (u.V_same hs (fun _ h => h) v2 hu) ho1.head.1 ho2.head.1
          have c1 : wr.cell? ⟨g1, o1 + k, none⟩ = some v1 := by rw [HW.out]; exact c1
          have c2 : wr.cell? ⟨g2, o2 + k, none⟩ = some v2 := by rw [HW.out]; exact c2
          have HWN : Hid (∀ q, ∃ m', wr.drewN q = w.drewN m') := fun q => ⟨m + q, by rw [HW.out]; simp⟩
          have HN : Hid (l.V w S (some ⟨g1, o1, none⟩) (k + 1) ∧ r.V w S (some ⟨g2, o2, none⟩) (k + 1) ∧ l.Ok ∧ r.Ok) := ⟨hl', hr', ho1.head.2, ho2.head.2⟩
          have HCC : Hid (A.cmp B = if t.cmp u ≠ 0 then t.cmp u else l.cmp r) := by show _ = _; rw [hc, TmL.cmp]
          clear hl hr hlN HI hl' hr' ho1 ho2 hc ht hu H0
          go_wp2_with fail
          go_quiet ((go_at_call 45; exact Calls.quiet_of (HO.out _)))
          by_cases he : t.cmp u ≠ 0
          · have he' := ne_bool he
            have H : Hid (A.cmp B = t.cmp u) := by show _ = _; rw [HCC.out, if_pos he]
            clear he
            go_wp2_with fail
            go_ret
            exact ⟨ret_int H.out.symm, HWN.out _⟩
          · have he0 : t.cmp u = 0 := Decidable.not_not.1 he
            have H : Hid (A.cmp B = l.cmp r) := by show _ = _; rw [HCC.out, if_neg he]
            clear he
            go_wp2_with fail
            go_roundw
            case rel =>
              obtain ⟨m', hm'⟩ := HWN.out nq
              exact ⟨k + 1, m', l, r, by go_num, HL.out.1, HL.out.2, htN.2, ⟨HN.out.1, HN.out.2.1, HN.out.2.2.1, HN.out.2.2.2, H.out⟩, hm'⟩
            case measure => simp [intOf]; omega
end Go.Proofs.Ytkomcebknllaiaa
