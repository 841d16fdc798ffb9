/- tenonlaw10.ObjectGiven returns true at every description and every text. -/
import Derived.Test.YtbjjeleoimcboaaQ29
import Derived.Laws.Bits64b
namespace Go.Proofs.Ytbjjeleoimcboaa
open Go.RowKit

theorem fitM_emod (m h : Int) (hm : 0 < m) (hm2 : m ≤ 16) : fitM m h = h % m := by
  have h1 : h.tmod m < m := Int.tmod_lt_of_pos h hm
  have h2 : -m < h.tmod m := Int.lt_tmod_of_pos h hm
  have h3 : wrap64 (h.tmod m + m) = h.tmod m + m := by unfold wrap64; omega
  unfold fitM
  rw [h3, Int.tmod_eq_emod_of_nonneg (by omega), Int.add_emod_right, Int.tmod_def, Int.sub_mul_emod_self_left]

/-- an ability's bit is there when it was put there -/
theorem fit_or (n : Int) (k : Nat) (hk : k = 2 ∨ k = 3) (n' : Nat) (h : fitM 16 (bits .or .i64 n ((2 ^ k : Nat) : Int)) = (n' : Int)) : n'.testBit k = true := by
  rw [fitM_emod _ _ (by decide) (by decide)] at h
  have e : bits .or .i64 n ((2 ^ k : Nat) : Int) = IntKind.i64.wrap ((BitVec.ofInt 64 n ||| BitVec.ofInt 64 ((2 ^ k : Nat) : Int)).toNat : Nat) := rfl
  rw [e, IntKind.wrap_i64] at h
  have e2 : n' = (BitVec.ofInt 64 n ||| BitVec.ofInt 64 ((2 ^ k : Nat) : Int)).toNat % 2 ^ 4 := by
    generalize (BitVec.ofInt 64 n ||| BitVec.ofInt 64 ((2 ^ k : Nat) : Int)).toNat = q at h
    omega
  rw [e2, Nat.testBit_mod_two_pow, BitVec.toNat_or, Nat.testBit_or]
  rcases hk with rfl | rfl <;> simp <;> right <;> decide

end Go.Proofs.Ytbjjeleoimcboaa

