/- The document's own order of two terms (tenonref01.Compare), kind by kind. -/
import Derived.Test.YtjlhmgopmdcopaaGreatKI40
import Derived.Laws.BytesArg
namespace Go.Proofs.YtjlhmgopmdcopaaGreat
open Go.RowKit

theorem two_below (w : World) (o p : Obj) : Below w.heap.size w ((w.alloc o).alloc p) := ((Below.refl _ _).alloc (Nat.le_refl _) _).alloc (by simp) _
theorem Tryz.undU : Tryz.prog.underlying 5 = some (.int .u8) := by kernel_rfl
theorem Tryz.undS : Tryz.prog.underlying 9 = some .string := by kernel_rfl
theorem nums_at (x : ByteArray) (i : Nat) (h : i < x.size) : (x.data.toList.map fun u => (u.toNat : Int)).getD i 0 = Sp.byte x i := by
  have h' : i < x.data.size := h
  unfold Sp.byte
  have e : x.data[i]? = some x.data[i] := Array.getElem?_eq_getElem h'
  simp only [List.getD, List.getElem?_map, Array.getElem?_toList, e, Option.map_some, Option.getD_some, Array.getD, dif_pos h']
  rfl
theorem str_of (x : ByteArray) : strOfNums (x.data.toList.map fun u => (u.toNat : Int)) = x := by
  unfold strOfNums
  rw [List.map_map]
  have : ((fun n : Int => UInt8.ofNat n.toNat) ∘ fun u : UInt8 => (u.toNat : Int)) = id := by funext u; simp
  rw [this, List.map_id]
theorem conv_run (x : ByteArray) (a : Option Addr) (c : Nat) (S : Nat → Prop) (w : World) (ha : BytesAt w S a x) : (convert 23 9 (.slice a x.size c)).run Tryz.prog w = .ok (.string x) w := by
  by_cases h0 : x.size = 0
  · obtain rfl := ba_empty h0
    cases a with
    | none => exact run_convert_bytes_nil w _ 5 Tryz.undB Tryz.undU _ _ _ Tryz.undS
    | some a =>
      rw [run_convert_bytes_string w _ _ 5 _ _ _ Tryz.undB Tryz.undU Tryz.undS]
      exact run_bytesToString w a 0 c [] rfl
  · obtain ⟨g, o, rfl, _, _⟩ := ha 0 (by omega)
    have := run_convert_bytes_arg (P := Tryz.prog) w 23 5 Tryz.undB Tryz.undU g o x.size c (x.data.toList.map fun u => (u.toNat : Int)) (by simp) (fun i hi => by
      obtain ⟨g', o', e, _, hc⟩ := ha i hi
      simp only [Option.some.injEq, Addr.mk.injEq, and_true] at e
      obtain ⟨rfl, rfl⟩ := e
      rw [hc, nums_at x i hi]) 9 Tryz.undS
    rw [this, str_of]

section
variable (b : Bool) (i : Int) (f : Nat) (tx : ByteArray) (vb : Value) (rf : Int) (vl vf : Value) (c : ByteArray) (vr : Int)
variable (b2 : Bool) (i2 : Int) (f2 : Nat) (tx2 : ByteArray) (vb2 : Value) (rf2 : Int) (vl2 vf2 : Value) (c2 : ByteArray) (vr2 : Int) (w : World)
end
end Go.Proofs.YtjlhmgopmdcopaaGreat

