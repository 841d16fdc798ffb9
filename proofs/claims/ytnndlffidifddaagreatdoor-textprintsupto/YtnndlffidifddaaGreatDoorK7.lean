/- Plain mathematics: the order of terms, and that it is an order. Nothing of the program stands here. -/
import Derived.Test.YtnndlffidifddaaGreatDoorK1
import Derived.Lib.Bytealg
import Derived.Lib.ItoaNum
import Derived.Test.YtnndlffidifddaaGreatDoorK6
import Derived.Test.YtnndlffidifddaaGreatDoorK5
import Derived.Laws.BytesArg
import Derived.Laws.Concat
import Derived.Lib.AppendStr
import Derived.Deep.QuietTactic
import Derived.BigQuiet
import Derived.Deep.RegionLaw
import Derived.Deep.AppendLies
import Derived.Lib.OthersKept
namespace Go.Proofs.YtnndlffidifddaaGreatDoor

namespace Sp
def cmpI (a b : Int) : Int := if a < b then -1 else if b < a then 1 else 0
def cmpS (a b : ByteArray) : Int := Lib.compareBytes a.data.toList b.data.toList
def rank (b : Bool) : Int := if b then 1 else 0
/-- where a float stands, by its bits -/
def frank (f : Nat) : Int := if 9223372036854775808 ≤ f then 18446744073709551615 - f else f + 9223372036854775808
end Sp

mutual
def Tm.cmp : Tm → Tm → Int
  | .mk k b i f tx by' rf l fs c v, .mk k2 b2 i2 f2 tx2 by2 rf2 l2 fs2 c2 v2 =>
    if Sp.cmpI k k2 ≠ 0 then Sp.cmpI k k2
    else if k = 2 then Sp.cmpI (Sp.rank b) (Sp.rank b2)
    else if k = 3 then Sp.cmpI i i2
    else if k = 4 then Sp.cmpI (Sp.frank f) (Sp.frank f2)
    else if k = 5 then Sp.cmpS tx tx2
    else if k = 6 then Sp.cmpS by' by2
    else if k = 7 then Sp.cmpI rf rf2
    else if k = 8 then l.cmp l2
    else if k = 9 then fs.cmp fs2
    else if k = 10 then (if Sp.cmpS c c2 ≠ 0 then Sp.cmpS c c2 else if Sp.cmpI v v2 ≠ 0 then Sp.cmpI v v2 else fs.cmp fs2)
    else 0
def TmL.cmp : TmL → TmL → Int
  | .nil, .nil => 0
  | .nil, .cons _ _ => -1
  | .cons _ _, .nil => 1
  | .cons t l, .cons t2 l2 => if t.cmp t2 ≠ 0 then t.cmp t2 else l.cmp l2
def TmF.cmp : TmF → TmF → Int
  | .nil, .nil => 0
  | .nil, .cons _ _ _ => -1
  | .cons _ _ _, .nil => 1
  | .cons n t l, .cons n2 t2 l2 => if Sp.cmpS n n2 ≠ 0 then Sp.cmpS n n2 else if t.cmp t2 ≠ 0 then t.cmp t2 else l.cmp l2
end

theorem ba_empty {s : ByteArray} (h : s.size = 0) : s = ByteArray.empty := by
  cases s with | mk d => simp [ByteArray.size] at h; subst h; rfl
theorem cmp_vals : ∀ (a b : List UInt8), Lib.compareBytes a b = -1 ∨ Lib.compareBytes a b = 0 ∨ Lib.compareBytes a b = 1
  | [], [] => by simp [Lib.compareBytes]
  | [], _ :: _ => by simp [Lib.compareBytes]
  | _ :: _, [] => by simp [Lib.compareBytes]
  | x :: a, y :: b => by
    simp only [Lib.compareBytes]
    split
    · simp
    · split
      · simp
      · exact cmp_vals a b

theorem cmpI_zero {a b : Int} (h : Sp.cmpI a b = 0) : a = b := by
  unfold Sp.cmpI at h; split at h
  · omega
  · split at h <;> omega
section
variable {b b2 : Bool} {i i2 : Int} {f f2 : Nat} {tx tx2 : ByteArray} {by' by2 : ByteArray} {rf rf2 : Int} {l l2 : TmL} {fs fs2 : TmF} {c c2 : ByteArray} {v v2 : Int}
end

/-- a term, a list of terms, fields that can be -/
def Tm.Ok (t : Tm) : Prop := ∃ n p d, (t.wk n p d).e = 0
def TmL.Ok (l : TmL) : Prop := ∃ n p d, (l.wk n p d).e = 0
def TmF.Ok (l : TmF) : Prop := ∃ n p d, (l.wk n p d).e = 0
theorem TmL.Ok.head {t : Tm} {l : TmL} (h : TmL.Ok (.cons t l)) : t.Ok ∧ l.Ok := by
  obtain ⟨n, p, d, h⟩ := h
  rw [TmL.wk] at h
  by_cases e : (t.wk n p d).e ≠ 0
  · rw [if_pos e] at h; exact absurd h e
  · rw [if_neg e] at h; exact ⟨⟨n, p, d, Decidable.not_not.1 e⟩, ⟨_, _, _, h⟩⟩
theorem TmF.Ok.head {m : ByteArray} {t : Tm} {l : TmF} (h : TmF.Ok (.cons m t l)) : t.Ok ∧ l.Ok := by
  obtain ⟨n, p, d, h⟩ := h
  rw [TmF.wk] at h
  by_cases e : (t.wk n p d).e ≠ 0
  · rw [if_pos e] at h; exact absurd h e
  · rw [if_neg e] at h; exact ⟨⟨n, p, d, Decidable.not_not.1 e⟩, ⟨_, _, _, h⟩⟩
theorem Tm.Ok.parts {k : Int} {b : Bool} {i : Int} {f : Nat} {tx : ByteArray} {by' : ByteArray} {rf : Int} {l : TmL} {fs : TmF} {c : ByteArray} {v : Int} (h : Tm.Ok (.mk k b i f tx by' rf l fs c v)) :
    1 ≤ k ∧ k ≤ 10 ∧ (k = 8 → l.Ok) ∧ (k = 9 ∨ k = 10 → fs.Ok) := by
  obtain ⟨n, p, d, h⟩ := h
  rw [Tm.wk] at h
  by_cases e : (Tm.mk k b i f tx by' rf l fs c v).own p n ≠ 0
  · rw [if_pos e] at h; exact absurd h e
  · rw [if_neg e] at h
    have hz := Sp.ent_zero (Tm.own_ent _ _ _ (Decidable.not_not.1 e))
    refine ⟨hz.1, hz.2.1, fun h8 => ?_, fun h9 => ?_⟩
    · rw [if_pos h8] at h; exact ⟨_, _, _, h⟩
    · rw [if_neg (by omega), if_pos h9] at h; exact ⟨_, _, _, h⟩
end Go.Proofs.YtnndlffidifddaaGreatDoor

/- Plain mathematics of texts: quoted bytes, floats by their bits. Nothing of the program stands here. -/
namespace Go.Proofs.YtnndlffidifddaaGreatDoor

/-- a digit to the base 16 -/
def Sp.hexd (n : Nat) : UInt8 := UInt8.ofNat (if n < 10 then 48 + n else 87 + n)
/-- how a byte stands in a quoted text -/
def Sp.esc (c : UInt8) : List UInt8 :=
  if c = 34 ∨ c = 92 then [92, c] else if c = 10 then [92, 110] else if c = 9 then [92, 116] else if c = 13 then [92, 114]
  else if c.toNat < 32 ∨ 126 < c.toNat then [92, 120, Sp.hexd (c.toNat / 16), Sp.hexd (c.toNat % 16)] else [c]
def Sp.escs (s : ByteArray) (k : Nat) : List UInt8 := (s.data.toList.take k).flatMap Sp.esc
def Sp.quote (s : ByteArray) : List UInt8 := 34 :: (Sp.escs s s.size ++ [34])
theorem Sp.escs_succ (s : ByteArray) (k : Nat) (h : k < s.size) : Sp.escs s (k + 1) = Sp.escs s k ++ Sp.esc s[k] := by
  have h' : k < s.data.toList.length := by rw [Array.length_toList]; exact h
  unfold Sp.escs
  rw [List.take_succ_eq_append_getElem h', List.flatMap_append]
  simp
  rfl
theorem Sp.esc_len (c : UInt8) : (Sp.esc c).length ≤ 4 := by
  unfold Sp.esc
  repeat' split
  all_goals simp
theorem Sp.escs_len (s : ByteArray) : ∀ k, k ≤ s.size → (Sp.escs s k).length ≤ 4 * k
  | 0, _ => by simp [Sp.escs]
  | k + 1, h => by
    rw [Sp.escs_succ s k (by omega), List.length_append]
    have := Sp.escs_len s k (by omega)
    have := Sp.esc_len s[k]
    omega

/-- so many digits to the base 16, the first ahead -/
def Sp.hexN (n : Nat) : Nat → List UInt8
  | 0 => []
  | c + 1 => Sp.hexd (n / 16 ^ c % 16) :: Sp.hexN n c
theorem Sp.hexN_len (n : Nat) : ∀ c, (Sp.hexN n c).length = c
  | 0 => rfl
  | c + 1 => by simp [Sp.hexN, Sp.hexN_len n c]
theorem Sp.hexN_at (n : Nat) : ∀ (c j : Nat) (_ : j < c), (Sp.hexN n c)[j]? = some (Sp.hexd (n / 16 ^ (c - 1 - j) % 16))
  | 0, j, h => by omega
  | c + 1, 0, _ => by simp [Sp.hexN]
  | c + 1, j + 1, h => by
    simp only [Sp.hexN, List.getElem?_cons_succ]
    rw [Sp.hexN_at n c j (by omega)]
    congr 5
    omega
theorem Sp.hexd_zero {n : Nat} (h : n < 16) : Sp.hexd n = 48 ↔ n = 0 := by
  constructor
  · intro e
    have : (Sp.hexd n).toNat = 48 := by rw [e]; rfl
    unfold Sp.hexd at this
    by_cases c : n < 10
    · rw [if_pos c] at this
      have e2 : (UInt8.ofNat (48 + n)).toNat = (48 + n) % 256 := rfl
      rw [e2] at this; omega
    · rw [if_neg c] at this
      have e2 : (UInt8.ofNat (87 + n)).toNat = (87 + n) % 256 := rfl
      rw [e2] at this; omega
  · intro e; subst e; rfl
/-- without the noughts at the end -/
def Sp.trim (l : List UInt8) : List UInt8 := (l.reverse.dropWhile (· == 48)).reverse
theorem Sp.trim_snoc0 (l : List UInt8) : Sp.trim (l ++ [48]) = Sp.trim l := by simp [Sp.trim]
theorem Sp.trim_snoc (l : List UInt8) (c : UInt8) (h : c ≠ 48) : Sp.trim (l ++ [c]) = l ++ [c] := by
  simp [Sp.trim, h]
theorem Sp.trim_take {l : List UInt8} : ∀ (d j : Nat), l.length = j + d → (∀ i, j ≤ i → i < l.length → l[i]? = some 48) → Sp.trim l = Sp.trim (l.take j)
  | 0, j, hl, _ => by rw [List.take_of_length_le (by omega)]
  | d + 1, j, hl, h => by
    rw [Sp.trim_take d (j + 1) (by omega) (fun i h1 h2 => h i (by omega) h2)]
    have hj : j < l.length := by omega
    rw [List.take_succ_eq_append_getElem hj]
    have := h j (Nat.le_refl _) hj
    rw [List.getElem?_eq_getElem hj] at this
    injection this with this
    rw [this, Sp.trim_snoc0]

/-- a float's parts -/
def Sp.fexp (b : Nat) : Nat := b / 2 ^ 52 % 2048
def Sp.fman (b : Nat) : Nat := b % 2 ^ 52
def Sp.fneg (b : Nat) : Bool := decide (b / 2 ^ 63 = 1)
/-- the text of a fraction of 52 bits -/
def Sp.fracT (fr : Nat) : List UInt8 := if fr = 0 then [] else 46 :: Sp.trim (Sp.hexN fr 13)
/-- the text of an exponent -/
def Sp.expT (e : Int) : List UInt8 := (if e < 0 then 45 else 43) :: ((if e.natAbs < 10 then [48] else []) ++ Lib.decDigits e.natAbs)
/-- how many places a number below 2^52 is away from its first digit's place -/
def Sp.up (m : Nat) : Nat := 52 - Nat.log2 m
def Sp.signT (b : Nat) : List UInt8 := if Sp.fneg b then [45] else []
def Sp.floatT (b : Nat) : List UInt8 :=
  if Sp.fexp b = 2047 then
    (if Sp.fman b = 0 then (if Sp.fneg b then [45, 105, 110, 102] else [43, 105, 110, 102]) else [110, 97, 110, 40] ++ Sp.hexN b 16 ++ [41])
  else if Sp.fexp b = 0 then
    (if Sp.fman b = 0 then Sp.signT b ++ [48, 120, 48, 112, 43, 48, 48]
     else Sp.signT b ++ [48, 120, 49] ++ Sp.fracT (Sp.fman b * 2 ^ Sp.up (Sp.fman b) - 2 ^ 52) ++ [112] ++ Sp.expT (-1022 - (Sp.up (Sp.fman b) : Int)))
  else Sp.signT b ++ [48, 120, 49] ++ Sp.fracT (Sp.fman b) ++ [112] ++ Sp.expT ((Sp.fexp b : Int) - 1023)

theorem Sp.fman_lt (b : Nat) : Sp.fman b < 4503599627370496 := Nat.mod_lt _ (by decide)
theorem Sp.fexp_lt (b : Nat) : Sp.fexp b < 2048 := Nat.mod_lt _ (by decide)
/-- brought to its place a number has its first digit there -/
theorem Sp.up_bd {m : Nat} (h0 : m ≠ 0) (h : m < 4503599627370496) : 4503599627370496 ≤ m * 2 ^ Sp.up m ∧ m * 2 ^ Sp.up m < 9007199254740992 ∧ Sp.up m ≤ 52 ∧ (∀ c, c < Sp.up m → m * 2 ^ c < 4503599627370496) := by
  have h1 : 2 ^ Nat.log2 m ≤ m := Nat.log2_self_le h0
  have h2 : m < 2 ^ (Nat.log2 m + 1) := Nat.lt_log2_self
  have h3 : Nat.log2 m < 52 := (Nat.log2_lt h0).2 h
  have e : Nat.log2 m + Sp.up m = 52 := by unfold Sp.up; omega
  have hp : 2 ^ Nat.log2 m * 2 ^ Sp.up m = 4503599627370496 := by rw [← Nat.pow_add, e]
  have hq : 2 ^ (Nat.log2 m + 1) * 2 ^ Sp.up m = 9007199254740992 := by rw [← Nat.pow_add, show Nat.log2 m + 1 + Sp.up m = 53 by omega]
  refine ⟨?_, ?_, by unfold Sp.up; omega, fun c hc => ?_⟩
  · rw [← hp]; exact Nat.mul_le_mul_right _ h1
  · rw [← hq]; exact (Nat.mul_lt_mul_right (Nat.two_pow_pos _)).2 h2
  · have h4 : m * 2 ^ c < 2 ^ (Nat.log2 m + 1) * 2 ^ c := (Nat.mul_lt_mul_right (Nat.two_pow_pos _)).2 h2
    have h5 : 2 ^ (Nat.log2 m + 1) * 2 ^ c ≤ 4503599627370496 := by
      rw [← Nat.pow_add, show (4503599627370496 : Nat) = 2 ^ 52 by decide]
      exact Nat.pow_le_pow_right (by decide) (by omega)
    omega

/-- the digits that a loop puts out which takes four bits a round from the top of 64 -/
theorem Sp.emit_step (fr j : Nat) (hf : fr < 4503599627370496) (hj : j < 13) : (fr * 4096 * 16 ^ j) % 18446744073709551616 / 1152921504606846976 = fr / 16 ^ (12 - j) % 16 := by
  have : j = 0 ∨ j = 1 ∨ j = 2 ∨ j = 3 ∨ j = 4 ∨ j = 5 ∨ j = 6 ∨ j = 7 ∨ j = 8 ∨ j = 9 ∨ j = 10 ∨ j = 11 ∨ j = 12 := by omega
  rcases this with rfl | rfl | rfl | rfl | rfl | rfl | rfl | rfl | rfl | rfl | rfl | rfl | rfl <;> simp only [Nat.reducePow, Nat.reduceSub] <;> omega
theorem Sp.emit_next (fr j : Nat) : (fr * 4096 * 16 ^ j) % 18446744073709551616 * 16 % 18446744073709551616 = (fr * 4096 * 16 ^ (j + 1)) % 18446744073709551616 := by
  rw [Nat.pow_succ, ← Nat.mul_assoc, Nat.mul_mod, Nat.mod_mod, ← Nat.mul_mod]
theorem Sp.emit_end (fr : Nat) : (fr * 4096 * 16 ^ 13) % 18446744073709551616 = 0 := by
  have : fr * 4096 * 16 ^ 13 = fr * 18446744073709551616 := by rw [Nat.mul_assoc]
  rw [this, Nat.mul_mod_left]
/-- where what is left is nought, all further digits are -/
theorem Sp.emit_zero (fr : Nat) : ∀ (d j : Nat), (fr * 4096 * 16 ^ j) % 18446744073709551616 = 0 → (fr * 4096 * 16 ^ (j + d)) % 18446744073709551616 = 0
  | 0, j, h => h
  | d + 1, j, h => by
    rw [show j + (d + 1) = (j + d) + 1 by omega, ← Sp.emit_next, Sp.emit_zero fr d j h]
/-- when the loop ends it has put out the fraction without the noughts at its end -/
theorem Sp.emit_trim {fr j : Nat} (hf : fr < 4503599627370496) (h0 : (fr * 4096 * 16 ^ (j + 1)) % 18446744073709551616 = 0) (h1 : (fr * 4096 * 16 ^ j) % 18446744073709551616 ≠ 0) (hj : j < 13) : Sp.trim (Sp.hexN fr 13) = (Sp.hexN fr 13).take (j + 1) := by
  rw [Sp.trim_take (12 - j) (j + 1) (by rw [Sp.hexN_len]; omega) (fun i hi1 hi2 => by
    rw [Sp.hexN_len] at hi2
    rw [Sp.hexN_at fr 13 i hi2]
    have hz := Sp.emit_zero fr (i - (j + 1)) (j + 1) h0
    rw [show j + 1 + (i - (j + 1)) = i by omega] at hz
    have hs := Sp.emit_step fr i hf hi2
    rw [hz] at hs
    rw [show 13 - 1 - i = 12 - i by omega, ← hs]
    rfl)]
  have hjl : j < (Sp.hexN fr 13).length := by rw [Sp.hexN_len]; exact hj
  rw [List.take_succ_eq_append_getElem hjl]
  apply Sp.trim_snoc
  have hat := Sp.hexN_at fr 13 j hj
  rw [List.getElem?_eq_getElem hjl] at hat
  injection hat with hat
  rw [hat]
  intro e
  have hd := (Sp.hexd_zero (Nat.mod_lt _ (by decide))).1 e
  have hs := Sp.emit_step fr j hf hj
  rw [show 13 - 1 - j = 12 - j by omega] at hd
  rw [hd] at hs
  have hn := Sp.emit_next fr j
  rw [h0] at hn
  have hlt : (fr * 4096 * 16 ^ j) % 18446744073709551616 < 18446744073709551616 := Nat.mod_lt _ (by decide)
  omega
/-- digits, one more -/
theorem Sp.hexN_take {fr j : Nat} (hj : j < 13) : (Sp.hexN fr 13).take (j + 1) = (Sp.hexN fr 13).take j ++ [Sp.hexd (fr / 16 ^ (12 - j) % 16)] := by
  have hjl : j < (Sp.hexN fr 13).length := by rw [Sp.hexN_len]; exact hj
  rw [List.take_succ_eq_append_getElem hjl]
  have hat := Sp.hexN_at fr 13 j hj
  rw [List.getElem?_eq_getElem hjl] at hat
  injection hat with hat
  rw [hat]

/-- two digits and more of a number below 10000 -/
theorem Sp.dec2 {n : Nat} (h : n < 100) : (if n < 10 then [48] else []) ++ Lib.decDigits n = [UInt8.ofNat (48 + n / 10), UInt8.ofNat (48 + n % 10)] := by
  by_cases c : n < 10
  · rw [if_pos c, Lib.decDigits_one c, show n / 10 = 0 by omega, show n % 10 = n by omega]; rfl
  · rw [if_neg c, Lib.decDigits_two c h]; rfl
theorem Sp.dec3 {n : Nat} (h1 : ¬ n < 100) (h : n < 1000) : (if n < 10 then [48] else []) ++ Lib.decDigits n = [UInt8.ofNat (48 + n / 100), UInt8.ofNat (48 + n / 10 % 10), UInt8.ofNat (48 + n % 10)] := by
  rw [if_neg (by omega), Lib.decDigits, dif_neg (by omega), Lib.decDigits_two (by omega) (by omega), show n / 10 / 10 = n / 100 by omega]; rfl
theorem Sp.dec4 {n : Nat} (h1 : ¬ n < 1000) (h : n < 10000) : (if n < 10 then [48] else []) ++ Lib.decDigits n = [UInt8.ofNat (48 + n / 1000), UInt8.ofNat (48 + n / 100 % 10), UInt8.ofNat (48 + n / 10 % 10), UInt8.ofNat (48 + n % 10)] := by
  rw [if_neg (by omega), Lib.decDigits, dif_neg (by omega), Lib.decDigits, dif_neg (by omega), Lib.decDigits_two (by omega) (by omega), show n / 10 / 10 / 10 = n / 1000 by omega, show n / 10 / 10 % 10 = n / 100 % 10 by omega]; rfl
end Go.Proofs.YtnndlffidifddaaGreatDoor

/- What the texts on printing share: rows of bytes of one's own, turned to a text, grown by bytes and texts. -/
namespace Go.Proofs.YtnndlffidifddaaGreatDoor
open Go.RowKit

theorem Tryz.undUd : Tryz.prog.underlying 5 = some (.int .u8) := by kernel_rfl
theorem Tryz.undSd : Tryz.prog.underlying 9 = some .string := by kernel_rfl
theorem nums_list (l : List UInt8) : strOfNums (l.map fun b => (b.toNat : Int)) = ⟨l.toArray⟩ := by
  unfold strOfNums
  rw [List.map_map]
  congr 2
  conv => rhs; rw [← List.map_id l]
  apply List.map_congr_left
  intro b _
  simp
/-- bytes that lie in a row, as a text -/
theorem conv_row (l : List UInt8) (g o c : Nat) (w : World) (h : ∀ j u, l[j]? = some u → w.cell? ⟨g, o + j, none⟩ = some (.int .u8 (u.toNat : Int))) :
    (convert 23 9 (.slice (some ⟨g, o, none⟩) l.length c)).run Tryz.prog w = .ok (.string ⟨l.toArray⟩) w := by
  rw [← nums_list]
  refine run_convert_bytes_arg (P := Tryz.prog) w 23 5 Tryz.undB Tryz.undUd g o l.length c _ (by simp) (fun i hi => ?_) 9 Tryz.undSd
  rw [h i l[i] (List.getElem?_eq_getElem hi)]
  simp [List.getD, List.getElem?_eq_getElem hi]
theorem conv_none (w : World) : (convert 23 9 (.slice none 0 0)).run Tryz.prog w = .ok (.string ⟨([] : List UInt8).toArray⟩) w :=
  run_convert_bytes_nil w _ 5 Tryz.undB Tryz.undUd _ _ _ Tryz.undSd
theorem ofL (l : List UInt8) : (⟨l.toArray⟩ : ByteArray).data.toList = l := by simp
theorem ba_app (a b : List UInt8) : (⟨a.toArray⟩ : ByteArray) ++ ⟨b.toArray⟩ = ⟨(a ++ b).toArray⟩ := by
  apply ByteArray.ext
  simp
/-- bytes as cells -/
def Sp.u8c (l : List UInt8) : List Value := l.map fun b => Value.int .u8 (b.toNat : Int)
theorem u8c_at (l : List UInt8) (j : Nat) (u : UInt8) (h : l[j]? = some u) : (Sp.u8c l)[j]? = some (.int .u8 (u.toNat : Int)) := by simp [Sp.u8c, h]
theorem u8c_len (l : List UInt8) : (Sp.u8c l).length = l.length := by simp [Sp.u8c]
theorem u8c_one (l : List UInt8) : ∀ u ∈ Sp.u8c l, u.oneCell' = true := by
  intro u hu
  obtain ⟨b, _, rfl⟩ := List.mem_map.1 hu
  rfl
theorem u8c_app (a b : List UInt8) : Sp.u8c (a ++ b) = Sp.u8c a ++ Sp.u8c b := by simp [Sp.u8c]

theorem own_on {w w' : World} {B : Nat} {e : TypeId} {size n : Nat} {v : Value} {xs : List Value} (h : w.ownsRow B e size v n xs) (hw : Below w.heap.size w w') : w'.ownsRow B e size v n xs := by
  refine h.kept (row := none) ⟨hw.os, hw.tape, hw.output, hw.size, fun k hk _ => hw.block k hk⟩ ?_
  cases hv : v.ownBlock with
  | none => exact .inl rfl
  | some k => exact .inr (by simp)
theorem own_ge {w : World} {B : Nat} {e : TypeId} {size n : Nat} {v : Value} {xs : List Value} {k : Nat} (h : w.ownsRow B e size v n xs) (hk : v.ownBlock = some k) : B ≤ k := by
  rcases h.2 with ⟨e, _⟩ | ⟨g, c, cur, e, hg, _⟩
  · rw [e] at hk; simp [Value.ownBlock] at hk
  · rw [e] at hk; simp [Value.ownBlock] at hk; omega
theorem own_slice_n {w : World} {B : Nat} {e : TypeId} {size n : Nat} {v : Value} {xs : List Value} (h : w.ownsRow B e size v n xs) : ∃ a c, v = .slice a n c := by
  rcases h.2 with ⟨e, e0⟩ | ⟨g, c, cur, e, _⟩
  · exact ⟨none, 0, by rw [e, e0]⟩
  · exact ⟨_, _, e⟩
/-- a row of bytes of one's own -/
def Byts (w : World) (base : Nat) (a : Option Addr) (m cap : Nat) (l : List UInt8) : Prop := m = l.length ∧ w.ownsRow base 5 1 (.slice a m cap) m (Sp.u8c l)
theorem Byts.grow {w w' : World} {base : Nat} {a : Option Addr} {m cap g cap' : Nat} {l : List UInt8} {c : UInt8} (h : Byts w base a m cap l) (h' : w'.ownsRow base 5 1 (.slice (some ⟨g, 0, none⟩) (m + 1) cap') (m + 1) (Sp.u8c l ++ Sp.u8c [c])) : Byts w' base (some ⟨g, 0, none⟩) (m + 1) cap' (l ++ [c]) :=
  ⟨by rw [List.length_append, h.1]; rfl, by rw [u8c_app]; exact h'⟩
theorem Byts.str {w w' : World} {base : Nat} {a a' : Option Addr} {m cap cap' : Nat} {l : List UInt8} {s : ByteArray} (h : Byts w base a m cap l) (h' : w'.ownsRow base 5 1 (.slice a' (m + s.size) cap') (m + s.size) (Sp.u8c l ++ Lib.strCells s)) : Byts w' base a' (m + s.size) cap' (l ++ s.data.toList) :=
  ⟨by rw [List.length_append, h.1, Array.length_toList]; rfl, by rw [u8c_app]; exact h'⟩
set_option maxRecDepth 100000 in
theorem Byts.conv {w w' : World} {base : Nat} {a : Option Addr} {m cap : Nat} {l : List UInt8} (h : Byts w base a m cap l) (hw : Below w.heap.size w w') : (convert 23 9 (.slice a m cap)).run Tryz.prog w' = .ok (.string ⟨l.toArray⟩) w' := by
  obtain ⟨h1, h2⟩ := h
  have h2' := own_on h2 hw
  rcases h2'.2 with ⟨e, e0⟩ | ⟨g, c, cur, e, _⟩
  · injection e with e1 e2 e3
    subst e1 e3 e0
    have : l = [] := List.length_eq_zero_iff.1 h1.symm
    subst this
    exact conv_none w'
  · injection e with e1 e2 e3
    subst e1
    rw [h1]
    refine conv_row l g 0 cap w' (fun j u hu => ?_)
    have := h2'.cells (g := g) rfl j _ (u8c_at l j u hu)
    rw [addr_add] at this
    exact this

theorem ret_str {a b : ByteArray} (h : a = b) : Ending.returned (.string a) = .returned (.string b) := by rw [h]
/-- several bytes laid side by side -/
theorem bytes_new (W : World) (l : List UInt8) {n : Nat} (hn : n = W.heap.size) {cs : Array Value} (hc : cs.toList = Sp.u8c l) {T : TypeId} : ∀ j u, (Sp.u8c l)[j]? = some u → (W.alloc (.cells cs T)).cell? ((⟨n, 0, none⟩ : Addr).add j) = some u := by
  subst hn
  intro j u hu
  rw [addr_add, Nat.zero_add]
  rw [← hc, Array.getElem?_toList] at hu
  unfold World.cell?
  rw [heap_alloc_new]
  exact hu
end Go.Proofs.YtnndlffidifddaaGreatDoor

/- text.appendByte, appendEscaped, appendQuoted and Quote. -/
namespace Go.Proofs.YtnndlffidifddaaGreatDoor
open Go.RowKit

/-- bytes put behind a row of one's own -/
def AppE (base : Nat) (xs ys : List UInt8) (w : World) (e : Ending) (w' : World) : Prop := ∃ a' cap', e = .returned (.slice a' (xs.length + ys.length) cap') ∧ Byts w' base a' (xs.length + ys.length) cap' (xs ++ ys) ∧ Below base w w'

/-- what lies below base, and what is no row of bytes, stays -/
structure Kp (base : Nat) (w w' : World) : Prop where
  below : Below base w w'
  kept : Lib.OthersKept 5 none w w'
theorem Kp.refl (base : Nat) (w : World) : Kp base w w := ⟨Below.refl _ _, Lib.OthersKept.refl _ _ _⟩
theorem Kp.size {base : Nat} {w w' : World} (h : Kp base w w') : w.heap.size ≤ w'.heap.size := h.below.size
theorem Kp.alloc {base : Nat} {w w' : World} (h : Kp base w w') (hb : base ≤ w'.heap.size) (o : Obj) : Kp base w (w'.alloc o) := ⟨h.below.alloc hb o, h.kept.alloc o⟩
theorem Kp.drew {base : Nat} {w w' : World} (h : Kp base w w') : Kp base w w'.drew := ⟨h.below.drew, h.kept.drew⟩
theorem Kp.trans {base : Nat} {a b c : World} (h : Kp base a b) (k : Kp base b c) : Kp base a c := ⟨h.below.trans k.below, h.kept.trans k.kept⟩
theorem own_at {w : World} {B : Nat} {e : TypeId} {size n : Nat} {v : Value} {xs : List Value} {k : Nat} (h : w.ownsRow B e size v n xs) (hk : v.ownBlock = some k) : ∃ c fz, w.heap[k]? = some (.cells c e fz) := by
  rcases h.2 with ⟨e, _⟩ | ⟨g, c, cur, e, hg, hh, _⟩
  · rw [e] at hk; simp [Value.ownBlock] at hk
  · rw [e] at hk; simp [Value.ownBlock] at hk; subst hk; exact ⟨_, _, hh⟩
theorem Kp.grown {base : Nat} {a w w' : World} {n : Nat} {v : Value} {xs : List Value} (h : Kp base a w) (hg : w.grownBy w' v.ownBlock) (hz : base ≤ w.heap.size) (ho : w.ownsRow base 5 1 v n xs) : Kp base a w' :=
  ⟨h.below.grown hg hz (fun _ hq => own_ge ho hq), h.kept.grown hg (fun _ hk => own_at ho hk)⟩
/-- bytes put behind a row of one's own, and whatever is no row of bytes stays -/
def AppK (base : Nat) (xs ys : List UInt8) (w : World) (e : Ending) (w' : World) : Prop := ∃ a' cap', e = .returned (.slice a' (xs.length + ys.length) cap') ∧ Byts w' base a' (xs.length + ys.length) cap' (xs ++ ys) ∧ Kp base w w'

def hex16 : ByteArray := ⟨#[48, 49, 50, 51, 52, 53, 54, 55, 56, 57, 97, 98, 99, 100, 101, 102]⟩
theorem hex_fin : ∀ i : Fin 16, hex16.data.toList.getD i.val 0 = Sp.hexd i.val := by decide +kernel
theorem and15 : ∀ c : Fin 256, bits .and .u8 (c.val : Int) 15 = ((c.val % 16 : Nat) : Int) := by decide +kernel
set_option maxRecDepth 100000 in
/-- a digit, read out of the sixteen -/
theorem idx_hex (k : IntKind) (z : Int) (i : Nat) (hz : z = (i : Int)) (hi : i < 16) (W : World) : (Instr.index 9 (.string ⟨#[48, 49, 50, 51, 52, 53, 54, 55, 56, 57, 97, 98, 99, 100, 101, 102]⟩) (.int k z)).run Tryz.prog W = .ok (.int .u8 ((Sp.hexd i).toNat : Int)) W := by
  subst hz
  have hs : hex16.size = 16 := rfl
  have := run_index_string (P := Tryz.prog) W 9 hex16 k (i : Int) Tryz.undSd
  rw [dif_pos ⟨by omega, by rw [hs]; omega⟩] at this
  refine this.trans ?_
  congr 3
  have e : ((i : Int)).toNat = i := by omega
  simp only [e]
  rw [← hex_fin ⟨i, hi⟩]
  have hi' : i < hex16.data.toList.length := hi
  simp only [List.getD, List.getElem?_eq_getElem hi', Option.getD_some]
  rfl

set_option maxRecDepth 100000 in
set_option maxHeartbeats 2000000 in
theorem appendByte_any (c : Nat) (hc : c < 256) (xs : List UInt8) (a : Option Addr) (cap base : Nat) (w : World) (h : Byts w base a xs.length cap xs) (hb : base ≤ w.heap.size) (hl : xs.length ≤ 70368744177664) :
    Calls Tryz.prog 58 #[.slice a xs.length cap, .int .u8 (c : Int)] w (AppK base xs [Sp.hexd (c / 16), Sp.hexd (c % 16)] w) := by
  obtain ⟨i0, hi, hz0, hz1, hz2⟩ := info_parts Tryz.infoB
  have hx1 := idx_hex .u8 ((c : Int) / 16) (c / 16) (by omega) (by omega)
  have hx2 := idx_hex .u8 (bits .and .u8 (c : Int) 15) (c % 16) (and15 ⟨c, hc⟩) (by omega)
  generalize Sp.hexd (c / 16) = u at hx1 ⊢
  generalize Sp.hexd (c % 16) = v at hx2 ⊢
  have HO : Hid (w.ownsRow base 5 1 (.slice a xs.length cap) xs.length (Sp.u8c xs)) := h.2
  clear h
  go_enter Tryz.func58, Tryz.ntmps58
  go_wp2_with fail
  go_region_law ((refine step_append_lies _ (by rfl) _ _ 23 (by rfl) base 5 i0 _ 1 1 Tryz.undB hi hz0 hz1 hz2 rfl (by omega) _ xs.length (Sp.u8c xs) (by rfl) (HO.out.alloc _) ⟨w.heap.size, 0, none⟩ 2 2 (Sp.u8c [u, v]) (by rfl) (by rfl) (bytes_new w [u, v] rfl rfl) (u8c_one _) (by omega) (by unfold maxLen; omega) (by omega) (by simp; omega) (w.heap.size + 1) (by simp) ?_; intro g' cap' w3 hown' hgrow hor hlt3; have HB3 : Hid (Kp base w w3) := ((Kp.refl base w).alloc hb _).drew.grown hgrow (by simp; omega) (HO.out.alloc _); have HN3 : Hid (Byts w3 base (some ⟨g', 0, none⟩) (xs.length + 2) cap' (xs ++ [u, v])) := ⟨by simp, by rw [u8c_app]; exact hown'⟩; clear hown' hgrow hor))
  all_goals
    go_wp2_with fail
    go_ret
    exact ⟨_, cap', rfl, HN3.out, HB3.out⟩
end Go.Proofs.YtnndlffidifddaaGreatDoor

