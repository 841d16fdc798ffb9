/- Plain mathematics of texts: quoted bytes, floats by their bits. Nothing of the program stands here. -/
import Derived.Test.YtnndlffidifddaaGreatDoorK1
import Derived.Lib.ItoaNum
namespace Go.Proofs.YtnndlffidifddaaGreatDoor

/-- a digit to the base 16 -/
def Sp.hexd (n : Nat) : UInt8 := UInt8.ofNat (if n < 10 then 48 + n else 87 + n)
/-- how a byte stands in a quoted text -/
def Sp.esc (c : UInt8) : List UInt8 :=
  if c = 34 ∨ c = 92 then [92, c] else if c = 10 then [92, 110] else if c = 9 then [92, 116] else if c = 13 then [92, 114]
  else if c.toNat < 32 ∨ 126 < c.toNat then [92, 120, Sp.hexd (c.toNat / 16), Sp.hexd (c.toNat % 16)] else [c]
def Sp.escs (s : ByteArray) (k : Nat) : List UInt8 := (s.data.toList.take k).flatMap Sp.esc
def Sp.quote (s : ByteArray) : List UInt8 := 34 :: (Sp.escs s s.size ++ [34])
theorem Sp.escs_succ (s : ByteArray) (k : Nat) (h : k < s.size) : Sp.escs s (k + 1) = Sp.escs s k ++ Sp.esc s[k] := by
  have h' : k < s.data.toList.length := by rw [Array.length_toList]; exact h
  unfold Sp.escs
  rw [List.take_succ_eq_append_getElem h', List.flatMap_append]
  simp
  rfl
theorem Sp.esc_len (c : UInt8) : (Sp.esc c).length ≤ 4 := by
  unfold Sp.esc
  repeat' split
  all_goals simp
theorem Sp.escs_len (s : ByteArray) : ∀ k, k ≤ s.size → (Sp.escs s k).length ≤ 4 * k
  | 0, _ => by simp [Sp.escs]
  | k + 1, h => by
    rw [Sp.escs_succ s k (by omega), List.length_append]
    have := Sp.escs_len s k (by omega)
    have := Sp.esc_len s[k]
    omega

/-- so many digits to the base 16, the first ahead -/
def Sp.hexN (n : Nat) : Nat → List UInt8
  | 0 => []
  | c + 1 => Sp.hexd (n / 16 ^ c % 16) :: Sp.hexN n c
theorem Sp.hexN_len (n : Nat) : ∀ c, (Sp.hexN n c).length = c
  | 0 => rfl
  | c + 1 => by simp [Sp.hexN, Sp.hexN_len n c]
theorem Sp.hexN_at (n : Nat) : ∀ (c j : Nat) (_ : j < c), (Sp.hexN n c)[j]? = some (Sp.hexd (n / 16 ^ (c - 1 - j) % 16))
  | 0, j, h => by omega
  | c + 1, 0, _ => by simp [Sp.hexN]
  | c + 1, j + 1, h => by
    simp only [Sp.hexN, List.getElem?_cons_succ]
    rw [Sp.hexN_at n c j (by omega)]
    congr 5
    omega
theorem Sp.hexd_zero {n : Nat} (h : n < 16) : Sp.hexd n = 48 ↔ n = 0 := by
  constructor
  · intro e
    have : (Sp.hexd n).toNat = 48 := by rw [e]; rfl
    unfold Sp.hexd at this
    by_cases c : n < 10
    · rw [if_pos c] at this
      have e2 : (UInt8.ofNat (48 + n)).toNat = (48 + n) % 256 := rfl
      rw [e2] at this; omega
    · rw [if_neg c] at this
      have e2 : (UInt8.ofNat (87 + n)).toNat = (87 + n) % 256 := rfl
      rw [e2] at this; omega
  · intro e; subst e; rfl
/-- without the noughts at the end -/
def Sp.trim (l : List UInt8) : List UInt8 := (l.reverse.dropWhile (· == 48)).reverse
theorem Sp.trim_snoc0 (l : List UInt8) : Sp.trim (l ++ [48]) = Sp.trim l := by simp [Sp.trim]
theorem Sp.trim_snoc (l : List UInt8) (c : UInt8) (h : c ≠ 48) : Sp.trim (l ++ [c]) = l ++ [c] := by
  simp [Sp.trim, h]
theorem Sp.trim_take {l : List UInt8} : ∀ (d j : Nat), l.length = j + d → (∀ i, j ≤ i → i < l.length → l[i]? = some 48) → Sp.trim l = Sp.trim (l.take j)
  | 0, j, hl, _ => by rw [List.take_of_length_le (by omega)]
  | d + 1, j, hl, h => by
    rw [Sp.trim_take d (j + 1) (by omega) (fun i h1 h2 => h i (by omega) h2)]
    have hj : j < l.length := by omega
    rw [List.take_succ_eq_append_getElem hj]
    have := h j (Nat.le_refl _) hj
    rw [List.getElem?_eq_getElem hj] at this
    injection this with this
    rw [this, Sp.trim_snoc0]

/-- a float's parts -/
def Sp.fexp (b : Nat) : Nat := b / 2 ^ 52 % 2048
def Sp.fman (b : Nat) : Nat := b % 2 ^ 52
def Sp.fneg (b : Nat) : Bool := decide (b / 2 ^ 63 = 1)
/-- the text of a fraction of 52 bits -/
def Sp.fracT (fr : Nat) : List UInt8 := if fr = 0 then [] else 46 :: Sp.trim (Sp.hexN fr 13)
/-- the text of an exponent -/
def Sp.expT (e : Int) : List UInt8 := (if e < 0 then 45 else 43) :: ((if e.natAbs < 10 then [48] else []) ++ Lib.decDigits e.natAbs)
/-- how many places a number below 2^52 is away from its first digit's place -/
def Sp.up (m : Nat) : Nat := 52 - Nat.log2 m
def Sp.signT (b : Nat) : List UInt8 := if Sp.fneg b then [45] else []
def Sp.floatT (b : Nat) : List UInt8 :=
  if Sp.fexp b = 2047 then
    (if Sp.fman b = 0 then (if Sp.fneg b then [45, 105, 110, 102] else [43, 105, 110, 102]) else [110, 97, 110, 40] ++ Sp.hexN b 16 ++ [41])
  else if Sp.fexp b = 0 then
    (if Sp.fman b = 0 then Sp.signT b ++ [48, 120, 48, 112, 43, 48, 48]
     else Sp.signT b ++ [48, 120, 49] ++ Sp.fracT (Sp.fman b * 2 ^ Sp.up (Sp.fman b) - 2 ^ 52) ++ [112] ++ Sp.expT (-1022 - (Sp.up (Sp.fman b) : Int)))
  else Sp.signT b ++ [48, 120, 49] ++ Sp.fracT (Sp.fman b) ++ [112] ++ Sp.expT ((Sp.fexp b : Int) - 1023)

theorem Sp.fman_lt (b : Nat) : Sp.fman b < 4503599627370496 := Nat.mod_lt _ (by decide)
theorem Sp.fexp_lt (b : Nat) : Sp.fexp b < 2048 := Nat.mod_lt _ (by decide)
/-- brought to its place a number has its first digit there -/
theorem Sp.up_bd {m : Nat} (h0 : m ≠ 0) (h : m < 4503599627370496) : 4503599627370496 ≤ m * 2 ^ Sp.up m ∧ m * 2 ^ Sp.up m < 9007199254740992 ∧ Sp.up m ≤ 52 ∧ (∀ c, c < Sp.up m → m * 2 ^ c < 4503599627370496) := by
  have h1 : 2 ^ Nat.log2 m ≤ m := Nat.log2_self_le h0
  have h2 : m < 2 ^ (Nat.log2 m + 1) := Nat.lt_log2_self
  have h3 : Nat.log2 m < 52 := (Nat.log2_lt h0).2 h
  have e : Nat.log2 m + Sp.up m = 52 := by unfold Sp.up; omega
  have hp : 2 ^ Nat.log2 m * 2 ^ Sp.up m = 4503599627370496 := by rw [← Nat.pow_add, e]
  have hq : 2 ^ (Nat.log2 m + 1) * 2 ^ Sp.up m = 9007199254740992 := by rw [← Nat.pow_add, show Nat.log2 m + 1 + Sp.up m = 53 by omega]
  refine ⟨?_, ?_, by unfold Sp.up; omega, fun c hc => ?_⟩
  · rw [← hp]; exact Nat.mul_le_mul_right _ h1
  · rw [← hq]; exact (Nat.mul_lt_mul_right (Nat.two_pow_pos _)).2 h2
  · have h4 : m * 2 ^ c < 2 ^ (Nat.log2 m + 1) * 2 ^ c := (Nat.mul_lt_mul_right (Nat.two_pow_pos _)).2 h2
    have h5 : 2 ^ (Nat.log2 m + 1) * 2 ^ c ≤ 4503599627370496 := by
      rw [← Nat.pow_add, show (4503599627370496 : Nat) = 2 ^ 52 by decide]
      exact Nat.pow_le_pow_right (by decide) (by omega)
    omega

/-- the digits that a loop puts out which takes four bits a round from the top of 64 -/
theorem Sp.emit_step (fr j : Nat) (hf : fr < 4503599627370496) (hj : j < 13) : (fr * 4096 * 16 ^ j) % 18446744073709551616 / 1152921504606846976 = fr / 16 ^ (12 - j) % 16 := by
  have : j = 0 ∨ j = 1 ∨ j = 2 ∨ j = 3 ∨ j = 4 ∨ j = 5 ∨ j = 6 ∨ j = 7 ∨ j = 8 ∨ j = 9 ∨ j = 10 ∨ j = 11 ∨ j = 12 := by omega
  rcases this with rfl | rfl | rfl | rfl | rfl | rfl | rfl | rfl | rfl | rfl | rfl | rfl | rfl <;> simp only [Nat.reducePow, Nat.reduceSub] <;> omega
theorem Sp.emit_next (fr j : Nat) : (fr * 4096 * 16 ^ j) % 18446744073709551616 * 16 % 18446744073709551616 = (fr * 4096 * 16 ^ (j + 1)) % 18446744073709551616 := by
  rw [Nat.pow_succ, ← Nat.mul_assoc, Nat.mul_mod, Nat.mod_mod, ← Nat.mul_mod]
theorem Sp.emit_end (fr : Nat) : (fr * 4096 * 16 ^ 13) % 18446744073709551616 = 0 := by
  have : fr * 4096 * 16 ^ 13 = fr * 18446744073709551616 := by rw [Nat.mul_assoc]
  rw [this, Nat.mul_mod_left]
/-- where what is left is nought, all further digits are -/
theorem Sp.emit_zero (fr : Nat) : ∀ (d j : Nat), (fr * 4096 * 16 ^ j) % 18446744073709551616 = 0 → (fr * 4096 * 16 ^ (j + d)) % 18446744073709551616 = 0
  | 0, j, h => h
  | d + 1, j, h => by
    rw [show j + (d + 1) = (j + d) + 1 by omega, ← Sp.emit_next, Sp.emit_zero fr d j h]
/-- when the loop ends it has put out the fraction without the noughts at its end -/
theorem Sp.emit_trim {fr j : Nat} (hf : fr < 4503599627370496) (h0 : (fr * 4096 * 16 ^ (j + 1)) % 18446744073709551616 = 0) (h1 : (fr * 4096 * 16 ^ j) % 18446744073709551616 ≠ 0) (hj : j < 13) : Sp.trim (Sp.hexN fr 13) = (Sp.hexN fr 13).take (j + 1) := by
  rw [Sp.trim_take (12 - j) (j + 1) (by rw [Sp.hexN_len]; omega) (fun i hi1 hi2 => by
    rw [Sp.hexN_len] at hi2
    rw [Sp.hexN_at fr 13 i hi2]
    have hz := Sp.emit_zero fr (i - (j + 1)) (j + 1) h0
    rw [show j + 1 + (i - (j + 1)) = i by omega] at hz
    have hs := Sp.emit_step fr i hf hi2
    rw [hz] at hs
    rw [show 13 - 1 - i = 12 - i by omega, ← hs]
    rfl)]
  have hjl : j < (Sp.hexN fr 13).length := by rw [Sp.hexN_len]; exact hj
  rw [List.take_succ_eq_append_getElem hjl]
  apply Sp.trim_snoc
  have hat := Sp.hexN_at fr 13 j hj
  rw [List.getElem?_eq_getElem hjl] at hat
  injection hat with hat
  rw [hat]
  intro e
  have hd := (Sp.hexd_zero (Nat.mod_lt _ (by decide))).1 e
  have hs := Sp.emit_step fr j hf hj
  rw [show 13 - 1 - j = 12 - j by omega] at hd
  rw [hd] at hs
  have hn := Sp.emit_next fr j
  rw [h0] at hn
  have hlt : (fr * 4096 * 16 ^ j) % 18446744073709551616 < 18446744073709551616 := Nat.mod_lt _ (by decide)
  omega
/-- digits, one more -/
theorem Sp.hexN_take {fr j : Nat} (hj : j < 13) : (Sp.hexN fr 13).take (j + 1) = (Sp.hexN fr 13).take j ++ [Sp.hexd (fr / 16 ^ (12 - j) % 16)] := by
  have hjl : j < (Sp.hexN fr 13).length := by rw [Sp.hexN_len]; exact hj
  rw [List.take_succ_eq_append_getElem hjl]
  have hat := Sp.hexN_at fr 13 j hj
  rw [List.getElem?_eq_getElem hjl] at hat
  injection hat with hat
  rw [hat]

/-- two digits and more of a number below 10000 -/
theorem Sp.dec2 {n : Nat} (h : n < 100) : (if n < 10 then [48] else []) ++ Lib.decDigits n = [UInt8.ofNat (48 + n / 10), UInt8.ofNat (48 + n % 10)] := by
  by_cases c : n < 10
  · rw [if_pos c, Lib.decDigits_one c, show n / 10 = 0 by omega, show n % 10 = n by omega]; rfl
  · rw [if_neg c, Lib.decDigits_two c h]; rfl
theorem Sp.dec3 {n : Nat} (h1 : ¬ n < 100) (h : n < 1000) : (if n < 10 then [48] else []) ++ Lib.decDigits n = [UInt8.ofNat (48 + n / 100), UInt8.ofNat (48 + n / 10 % 10), UInt8.ofNat (48 + n % 10)] := by
  rw [if_neg (by omega), Lib.decDigits, dif_neg (by omega), Lib.decDigits_two (by omega) (by omega), show n / 10 / 10 = n / 100 by omega]; rfl
theorem Sp.dec4 {n : Nat} (h1 : ¬ n < 1000) (h : n < 10000) : (if n < 10 then [48] else []) ++ Lib.decDigits n = [UInt8.ofNat (48 + n / 1000), UInt8.ofNat (48 + n / 100 % 10), UInt8.ofNat (48 + n / 10 % 10), UInt8.ofNat (48 + n % 10)] := by
  rw [if_neg (by omega), Lib.decDigits, dif_neg (by omega), Lib.decDigits, dif_neg (by omega), Lib.decDigits_two (by omega) (by omega), show n / 10 / 10 / 10 = n / 1000 by omega, show n / 10 / 10 % 10 = n / 100 % 10 by omega]; rfl
end Go.Proofs.YtnndlffidifddaaGreatDoor

