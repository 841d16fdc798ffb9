/- The leaves of package value's order: numbers, texts, bools, floats, bytes. -/
import Derived.Test.YtflcchemkbkinaaWalk3
import Derived.Test.YtflcchemkbkinaaCmp
import Derived.Lib.BytesEntry
namespace Go.Proofs.Ytflcchemkbkinaa
open Go.RowKit

set_option maxRecDepth 100000 in
set_option maxHeartbeats 400000 in
theorem cmpInt_any (a b : Int) (w : World) :
    Calls Try.prog 56 #[.int .i64 a, .int .i64 b] w fun e w' => e = .returned (.int .i64 (Sp.cmpI a b)) ∧ w = w' := by
  by_cases h1 : a < b
  · have H : Hid (Sp.cmpI a b = -1) := by show _ = _; simp [Sp.cmpI, h1]
    go_enter Try.func56, Try.ntmps56
    go_wp2
    go_ret
    exact ⟨ret_int H.out.symm, rfl⟩
  · by_cases h2 : b < a
    · have H : Hid (Sp.cmpI a b = 1) := by show _ = _; simp [Sp.cmpI, h1, h2]
      go_enter Try.func56, Try.ntmps56
      go_wp2
      go_ret
      exact ⟨ret_int H.out.symm, rfl⟩
    · have H : Hid (Sp.cmpI a b = 0) := by show _ = _; simp [Sp.cmpI, h1, h2]
      go_enter Try.func56, Try.ntmps56
      go_wp2
      go_ret
      exact ⟨ret_int H.out.symm, rfl⟩
set_option maxRecDepth 100000 in
set_option maxHeartbeats 400000 in
theorem cmpI64_any (a b : Int) (w : World) :
    Calls Try.prog 58 #[.int .i64 a, .int .i64 b] w fun e w' => e = .returned (.int .i64 (Sp.cmpI a b)) ∧ w = w' := by
  by_cases h1 : a < b
  · have H : Hid (Sp.cmpI a b = -1) := by show _ = _; simp [Sp.cmpI, h1]
    go_enter Try.func58, Try.ntmps58
    go_wp2
    go_ret
    exact ⟨ret_int H.out.symm, rfl⟩
  · by_cases h2 : b < a
    · have H : Hid (Sp.cmpI a b = 1) := by show _ = _; simp [Sp.cmpI, h1, h2]
      go_enter Try.func58, Try.ntmps58
      go_wp2
      go_ret
      exact ⟨ret_int H.out.symm, rfl⟩
    · have H : Hid (Sp.cmpI a b = 0) := by show _ = _; simp [Sp.cmpI, h1, h2]
      go_enter Try.func58, Try.ntmps58
      go_wp2
      go_ret
      exact ⟨ret_int H.out.symm, rfl⟩
set_option maxRecDepth 100000 in
set_option maxHeartbeats 400000 in
theorem cmpU64_any (a b : Int) (w : World) :
    Calls Try.prog 59 #[.int .u64 a, .int .u64 b] w fun e w' => e = .returned (.int .i64 (Sp.cmpI a b)) ∧ w = w' := by
  by_cases h1 : a < b
  · have H : Hid (Sp.cmpI a b = -1) := by show _ = _; simp [Sp.cmpI, h1]
    go_enter Try.func59, Try.ntmps59
    go_wp2
    go_ret
    exact ⟨ret_int H.out.symm, rfl⟩
  · by_cases h2 : b < a
    · have H : Hid (Sp.cmpI a b = 1) := by show _ = _; simp [Sp.cmpI, h1, h2]
      go_enter Try.func59, Try.ntmps59
      go_wp2
      go_ret
      exact ⟨ret_int H.out.symm, rfl⟩
    · have H : Hid (Sp.cmpI a b = 0) := by show _ = _; simp [Sp.cmpI, h1, h2]
      go_enter Try.func59, Try.ntmps59
      go_wp2
      go_ret
      exact ⟨ret_int H.out.symm, rfl⟩
set_option maxRecDepth 100000 in
set_option maxHeartbeats 400000 in
theorem cmpRef_any (a b : Int) (w : World) :
    Calls Try.prog 63 #[.int .u64 a, .int .u64 b] w fun e w' => e = .returned (.int .i64 (Sp.cmpI a b)) ∧ w = w' := by
  by_cases h1 : a < b
  · have H : Hid (Sp.cmpI a b = -1) := by show _ = _; simp [Sp.cmpI, h1]
    go_enter Try.func63, Try.ntmps63
    go_wp2
    go_ret
    exact ⟨ret_int H.out.symm, rfl⟩
  · by_cases h2 : b < a
    · have H : Hid (Sp.cmpI a b = 1) := by show _ = _; simp [Sp.cmpI, h1, h2]
      go_enter Try.func63, Try.ntmps63
      go_wp2
      go_ret
      exact ⟨ret_int H.out.symm, rfl⟩
    · have H : Hid (Sp.cmpI a b = 0) := by show _ = _; simp [Sp.cmpI, h1, h2]
      go_enter Try.func63, Try.ntmps63
      go_wp2
      go_ret
      exact ⟨ret_int H.out.symm, rfl⟩

theorem less_of (a b : ByteArray) : Op.bytesLess a.toList b.toList = decide (Sp.cmpS a b = -1) := by
  rw [ByteArray.toList_eq, ByteArray.toList_eq]; exact bytesLess_cmp _ _
theorem same_of (a b : ByteArray) : (a.toList == b.toList) = decide (Sp.cmpS a b = 0) := by
  rw [ByteArray.toList_eq, ByteArray.toList_eq, Bool.eq_iff_iff]
  simp [Sp.cmpS, cmp_eq_zero]

set_option maxRecDepth 100000 in
set_option maxHeartbeats 400000 in
theorem cmpStr_any (a b : ByteArray) (w : World) :
    Calls Try.prog 61 #[.string a, .string b] w fun e w' => e = .returned (.int .i64 (Sp.cmpS a b)) ∧ w = w' := by
  have hl := less_of a b
  have he := same_of a b
  rcases cmp_vals a.data.toList b.data.toList with h | h | h
  · have H : Hid (Sp.cmpS a b = -1) := h
    rw [H.out] at hl he; simp at hl he
    go_enter Try.func61, Try.ntmps61
    go_wp2
    go_ret
    exact ⟨ret_int H.out.symm, rfl⟩
  · have H : Hid (Sp.cmpS a b = 0) := h
    rw [H.out] at hl he; simp at hl he
    have he' : (a.toList == b.toList) = true := by simp [he]
    clear he
    go_enter Try.func61, Try.ntmps61
    go_wp2
    go_ret
    exact ⟨ret_int H.out.symm, rfl⟩
  · have H : Hid (Sp.cmpS a b = 1) := h
    rw [H.out] at hl he; simp at hl he
    have he' : (a.toList == b.toList) = false := by simp [he]
    clear he
    go_enter Try.func61, Try.ntmps61
    go_wp2
    go_ret
    exact ⟨ret_int H.out.symm, rfl⟩

set_option maxRecDepth 100000 in
set_option maxHeartbeats 400000 in
theorem boolRank_any (b : Bool) (w : World) :
    Calls Try.prog 57 #[.bool b] w fun e w' => e = .returned (.int .i64 (Sp.rank b)) ∧ w = w' := by
  cases b
  · go_enter Try.func57, Try.ntmps57
    go_wp2
    go_ret
    exact ⟨rfl, rfl⟩
  · go_enter Try.func57, Try.ntmps57
    go_wp2
    go_ret
    exact ⟨rfl, rfl⟩

theorem fr_and (f : Nat) (hf : f < 18446744073709551616) : bits BinOp.and IntKind.u64 (f : Int) 9223372036854775808 = if 9223372036854775808 ≤ f then 9223372036854775808 else 0 := by
  have h := bits_and_u64_nat f 9223372036854775808 hf (by decide)
  have h' : bits BinOp.and IntKind.u64 (f : Int) 9223372036854775808 = ((f &&& 9223372036854775808 : Nat) : Int) := h
  rw [h', nat_bit63]
  split <;> omega
theorem fr_or (f : Nat) (hf : f < 9223372036854775808) : bits BinOp.or IntKind.u64 (f : Int) 9223372036854775808 = (f : Int) + 9223372036854775808 := by
  have h := bits_or_u64_nat f 9223372036854775808 (by omega) (by decide)
  have h' : bits BinOp.or IntKind.u64 (f : Int) 9223372036854775808 = ((f ||| 9223372036854775808 : Nat) : Int) := h
  rw [h', nat_join63' 9223372036854775808 f (by decide) hf]
  omega
theorem xor_max (f : Nat) (hf : f < 18446744073709551616) : 18446744073709551615 ^^^ f = 18446744073709551615 - f := by
  have h := congrArg BitVec.toNat (BitVec.allOnes_xor (x := BitVec.ofNat 64 f))
  rw [BitVec.toNat_xor, BitVec.toNat_not, BitVec.toNat_allOnes, BitVec.toNat_ofNat, Nat.mod_eq_of_lt (by simpa using hf)] at h
  simpa using h
theorem fr_xor (f : Nat) (hf : f < 18446744073709551616) : bits BinOp.xor IntKind.u64 IntKind.u64.max (f : Int) = 18446744073709551615 - (f : Int) := by
  have h := bits_xor_u64_nat 18446744073709551615 f (by decide) hf
  have h' : bits BinOp.xor IntKind.u64 IntKind.u64.max (f : Int) = ((18446744073709551615 ^^^ f : Nat) : Int) := h
  rw [h', xor_max f hf]
  omega
theorem bits_run (f : Nat) (w : World) : (callFunc 41 #[.float .f64 f]).run Try.prog w = .ok (.value (.int .u64 f)) w := by
  rw [run_callFunc_extern Try.func41 (by kernel_rfl) (by kernel_rfl) (by kernel_rfl) (e := Extern.MathFloatBits.float64bits) (by kernel_rfl)]
  rfl

set_option maxRecDepth 100000 in
set_option maxHeartbeats 400000 in
theorem floatRank_any (f : Nat) (w : World) (hf : f < 18446744073709551616) :
    Calls Try.prog 60 #[.float .f64 f] w fun e w' => e = .returned (.int .u64 (Sp.frank f)) ∧ w = w' := by
  have hb := bits_run f
  by_cases h : 9223372036854775808 ≤ f
  · have ha : (bits BinOp.and IntKind.u64 (f : Int) 9223372036854775808 != 0) = true := by rw [fr_and f hf, if_pos h]; decide
    have H : Hid (Sp.frank f = bits BinOp.xor IntKind.u64 IntKind.u64.max (f : Int)) := by show _ = _; rw [fr_xor f hf]; unfold Sp.frank; rw [if_pos h]
    go_enter Try.func60, Try.ntmps60
    go_wp2
    go_ret
    exact ⟨ret_int H.out.symm, rfl⟩
  · have ha : (bits BinOp.and IntKind.u64 (f : Int) 9223372036854775808 != 0) = false := by rw [fr_and f hf, if_neg h]; decide
    have H : Hid (Sp.frank f = bits BinOp.or IntKind.u64 (f : Int) 9223372036854775808) := by show _ = _; rw [fr_or f (by omega)]; unfold Sp.frank; rw [if_neg h]
    go_enter Try.func60, Try.ntmps60
    go_wp2
    go_ret
    exact ⟨ret_int H.out.symm, rfl⟩

theorem load_run (x : ByteArray) (a : Option Addr) (c : Nat) (S : Nat → Prop) (w : World) (ha : BytesAt w S a x) : (Extern.Bytes.bytesOf (.slice a x.size c)).run Try.prog w = .ok x w := by
  by_cases h0 : x.size = 0
  · obtain rfl := ba_empty h0
    cases a <;> rfl
  · obtain ⟨g, o, rfl, _, _⟩ := ha 0 (by omega)
    have h := Lib.run_loadBytesX (P := Try.prog) w (x.data.toList.map fun u => (u.toNat : Int)) ⟨g, o, none⟩ ByteArray.empty (fun j z hj => by
      rw [List.getElem?_map] at hj
      cases hu : x.data.toList[j]? with
      | none => rw [hu] at hj; simp at hj
      | some u =>
        rw [hu] at hj
        have hz : (u.toNat : Int) = z := by simpa using hj
        subst hz
        have hjl : j < x.size := by
          rw [← ba_len]
          exact (List.getElem?_eq_some_iff.1 hu).1
        obtain ⟨g', o', e, _, hc⟩ := ha j hjl
        simp only [Option.some.injEq, Addr.mk.injEq, and_true] at e
        obtain ⟨rfl, rfl⟩ := e
        have ea : (⟨g, o, none⟩ : Addr).add j = ⟨g, o + j, none⟩ := by
          unfold Addr.add; split
          · rename_i h; rw [h]; rfl
          · rfl
        rw [ea, hc]
        have : Sp.byte x j = (u.toNat : Int) := by
          unfold Sp.byte
          have hu' : x.data[j]? = some u := by simpa using hu
          simp [hu']
        rw [this])
    rw [List.length_map, ba_len] at h
    show (Extern.Bytes.loadBytes ⟨g, o, none⟩ x.size ByteArray.empty).run Try.prog w = _
    rw [h]
    have e2 : Lib.bytesOf (x.data.toList.map fun u => (u.toNat : Int)) = x.data.toList := by
      unfold Lib.bytesOf
      rw [List.map_map]
      conv => rhs; rw [← List.map_id x.data.toList]
      refine List.map_congr_left fun u _ => ?_
      simp
    rw [e2]
    cases x with | mk d => simp
theorem bcmp_run (x y : ByteArray) (a b : Option Addr) (c d : Nat) (S : Nat → Prop) (w : World) (ha : BytesAt w S a x) (hb : BytesAt w S b y) :
    (callFunc 81 #[.slice a x.size c, .slice b y.size d]).run Try.prog w = .ok (.value (.int .i64 (Sp.cmpS x y))) w := by
  rw [run_callFunc_extern Try.func81 (by kernel_rfl) (by kernel_rfl) (by kernel_rfl) (e := Extern.BytealgCompare.compare) (by kernel_rfl)]
  have e : (Extern.BytealgCompare.compare #[.slice a x.size c, .slice b y.size d]).run Try.prog w = .ok (.int .i64 (Sp.cmpS x y)) w := by
    change Sem.run Try.prog (do pure (goInt (Extern.BytealgCompare.cmp (← Extern.Bytes.bytesOf (.slice a x.size c)) (← Extern.Bytes.bytesOf (.slice b y.size d))))) w = _
    simp only [Sem.run_bind, load_run x a c S w ha, load_run y b d S w hb, Result.andThen_ok, Sem.run_pure, Lib.cmp_eq]
    rfl
  rw [e]; rfl

set_option maxRecDepth 100000 in
set_option maxHeartbeats 400000 in
theorem bytesCmp_any (x y : ByteArray) (a b : Option Addr) (c d : Nat) (S : Nat → Prop) (w : World) (ha : BytesAt w S a x) (hb : BytesAt w S b y) :
    Calls Try.prog 62 #[.slice a x.size c, .slice b y.size d] w fun e w' => e = .returned (.int .i64 (Sp.cmpS x y)) ∧ w = w' := by
  have hr := bcmp_run x y a b c d S w ha hb
  clear ha hb
  go_enter Try.func62, Try.ntmps62
  go_wp2
  go_ret
  exact ⟨rfl, rfl⟩
end Go.Proofs.Ytflcchemkbkinaa
