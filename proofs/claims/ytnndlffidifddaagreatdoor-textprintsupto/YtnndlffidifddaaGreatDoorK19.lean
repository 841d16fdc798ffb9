/- Contracts of the library's functions at this translation. -/
import Derived.Shelf.Strconv.Itoa0
import Derived.Shelf.Strconv.Itoa1
import Derived.Shelf.LaysM
import Derived.Shelf.Strconv.Itoa2
import Derived.Shelf.Strconv.Itoa3
import Derived.Shelf.Strconv.AppendUint10
import Derived.Shelf.Strconv.AppendInt10
import Derived.Shelf.Strconv.AppendIntPublic10
import Derived.Test.YtnndlffidifddaaGreatDoorProg
import Derived.Test.YtnndlffidifddaaGreatDoorK10
import Derived.Laws.Bits64b
namespace Go.Proofs
open Go.Shelf
def Tryz.lays129_ren : Go.Shelf.Ren := ⟨fun | 129 => 80 | n => n, fun | 53 => 24 | 3 => 3 | 4 => 4 | 46 => 62 | 5 => 5 | 9 => 9 | n => n, fun | n => n⟩
def Tryz.laysM171_ren : Go.Shelf.Ren := ⟨fun | 171 => 52 | 243 => 77 | 246 => 99 | 283 => 59 | 284 => 60 | 285 => 61 | 286 => 62 | 129 => 80 | 317 => 79 | 318 => 81 | 319 => 82 | 320 => 83 | 337 => 100 | 338 => 101 | n => n, fun | 3 => 3 | 9 => 9 | 2 => 2 | 4 => 4 | 171 => 109 | 0 => 0 | 53 => 24 | 37 => 23 | 5 => 5 | 173 => 112 | 212 => 126 | 51 => 127 | 20 => 20 | 213 => 128 | 46 => 62 | 232 => 135 | 233 => 163 | n => n, fun | 17 => 1 | 18 => 3 | 19 => 4 | n => n⟩
theorem Tryz.laysM171 : Go.Proofs.LaysM.n171 Tryz.prog Tryz.laysM171_ren := {
  mixed := by kernel_rfl
  f129 := Tryz.func80.trans (congrArg some (by kernel_rfl))
  f171 := Tryz.func52.trans (congrArg some (by kernel_rfl))
  f243 := Tryz.func77.trans (congrArg some (by kernel_rfl))
  f246 := Tryz.func99.trans (congrArg some (by kernel_rfl))
  f283 := Tryz.func59.trans (congrArg some (by kernel_rfl))
  f284 := Tryz.func60.trans (congrArg some (by kernel_rfl))
  f285 := Tryz.func61.trans (congrArg some (by kernel_rfl))
  f286 := Tryz.func62.trans (congrArg some (by kernel_rfl))
  f317 := Tryz.func79.trans (congrArg some (by kernel_rfl))
  f318 := Tryz.func81.trans (congrArg some (by kernel_rfl))
  f319 := Tryz.func82.trans (congrArg some (by kernel_rfl))
  f320 := Tryz.func83.trans (congrArg some (by kernel_rfl))
  f337 := Tryz.func100.trans (congrArg some (by kernel_rfl))
  f338 := Tryz.func101.trans (congrArg some (by kernel_rfl))
  t0 := Tryz.underlying0
  a0 := Tryz.isAgg0
  z0 := Tryz.sizeOf0
  v0 := Tryz.zeroValue0
  t2 := Tryz.underlying2
  a2 := Tryz.isAgg2
  z2 := Tryz.sizeOf2
  v2 := Tryz.zeroValue2
  t3 := Tryz.underlying3
  a3 := Tryz.isAgg3
  z3 := Tryz.sizeOf3
  v3 := Tryz.zeroValue3
  t4 := Tryz.underlying4
  a4 := Tryz.isAgg4
  z4 := Tryz.sizeOf4
  v4 := Tryz.zeroValue4
  t5 := Tryz.underlying5
  a5 := Tryz.isAgg5
  z5 := Tryz.sizeOf5
  v5 := Tryz.zeroValue5
  t9 := Tryz.underlying9
  a9 := Tryz.isAgg9
  z9 := Tryz.sizeOf9
  v9 := Tryz.zeroValue9
  t20 := Tryz.underlying20
  a20 := Tryz.isAgg20
  z20 := Tryz.sizeOf20
  v20 := Tryz.zeroValue20
  t37 := Tryz.underlying23
  a37 := Tryz.isAgg23
  z37 := Tryz.sizeOf23
  v37 := Tryz.zeroValue23
  t46 := Tryz.underlying62
  a46 := Tryz.isAgg62
  z46 := Tryz.sizeOf62
  v46 := Tryz.zeroValue62
  t51 := Tryz.underlying127
  a51 := Tryz.isAgg127
  z51 := Tryz.sizeOf127
  v51 := Tryz.zeroValue127
  t53 := Tryz.underlying24
  a53 := Tryz.isAgg24
  z53 := Tryz.sizeOf24
  v53 := Tryz.zeroValue24
  t171 := Tryz.underlying109
  a171 := Tryz.isAgg109
  z171 := Tryz.sizeOf109
  v171 := Tryz.zeroValue109
  t173 := Tryz.underlying112
  a173 := Tryz.isAgg112
  z173 := Tryz.sizeOf112
  v173 := Tryz.zeroValue112
  t212 := Tryz.underlying126
  a212 := Tryz.isAgg126
  z212 := Tryz.sizeOf126
  v212 := Tryz.zeroValue126
  t213 := Tryz.underlying128
  a213 := Tryz.isAgg128
  z213 := Tryz.sizeOf128
  t232 := Tryz.underlying135
  a232 := Tryz.isAgg135
  z232 := Tryz.sizeOf135
  v232 := Tryz.zeroValue135
  t233 := Tryz.underlying163
  a233 := Tryz.isAgg163
  z233 := Tryz.sizeOf163
  v233 := Tryz.zeroValue163
  g17 := by kernel_rfl
  g18 := by kernel_rfl
  g19 := by kernel_rfl
  i0 := by kernel_rfl
  i2 := by kernel_rfl
  i3 := by kernel_rfl
  i4 := by kernel_rfl
  i5 := by kernel_rfl
  i9 := by kernel_rfl
  i20 := by kernel_rfl
  i37 := by kernel_rfl
  i46 := by kernel_rfl
  i51 := by kernel_rfl
  i53 := by kernel_rfl
  i171 := by kernel_rfl
  i173 := by kernel_rfl
  i212 := by kernel_rfl
  i232 := by kernel_rfl
  i233 := by kernel_rfl
  m17 := by kernel_rfl
  m18 := by kernel_rfl
  m19 := by kernel_rfl }
open Go.RowKit Go.Sort Go.Lib in
theorem Tryz.strconv_Itoa (n : Int) (h0 : -9223372036854775808 ≤ n) (h1 : n ≤ 9223372036854775807) (w : World) (htab : Lib.TabIs Tryz.prog w "internal/strconv.uint64pow10" .u64 Lib.pow10Tab) :
    Calls Tryz.prog 52 #[.int .i64 n] w fun e w' => e = .returned (.string ⟨(Lib.itoa n).toArray⟩) ∧ ∃ k os, w' = grow (w.drewN k) os := Any.strconv_Itoa Tryz.laysM171 n h0 h1 w htab
def Tryz.laysM288_ren : Go.Shelf.Ren := ⟨fun | 288 => 74 | 283 => 59 | 284 => 60 | 285 => 61 | 286 => 62 | 129 => 80 | 317 => 79 | 318 => 81 | 319 => 82 | 320 => 83 | 337 => 100 | 338 => 101 | n => n, fun | 37 => 23 | 53 => 24 | 3 => 3 | 4 => 4 | 9 => 9 | 171 => 109 | 0 => 0 | 173 => 112 | 212 => 126 | 51 => 127 | 5 => 5 | 20 => 20 | 213 => 128 | 46 => 62 | 232 => 135 | 233 => 163 | n => n, fun | 17 => 1 | 18 => 3 | 19 => 4 | n => n⟩
theorem Tryz.laysM288 : Go.Proofs.LaysM.n288 Tryz.prog Tryz.laysM288_ren := {
  mixed := by kernel_rfl
  f129 := Tryz.func80.trans (congrArg some (by kernel_rfl))
  f283 := Tryz.func59.trans (congrArg some (by kernel_rfl))
  f284 := Tryz.func60.trans (congrArg some (by kernel_rfl))
  f285 := Tryz.func61.trans (congrArg some (by kernel_rfl))
  f286 := Tryz.func62.trans (congrArg some (by kernel_rfl))
  f288 := Tryz.func74.trans (congrArg some (by kernel_rfl))
  f317 := Tryz.func79.trans (congrArg some (by kernel_rfl))
  f318 := Tryz.func81.trans (congrArg some (by kernel_rfl))
  f319 := Tryz.func82.trans (congrArg some (by kernel_rfl))
  f320 := Tryz.func83.trans (congrArg some (by kernel_rfl))
  f337 := Tryz.func100.trans (congrArg some (by kernel_rfl))
  f338 := Tryz.func101.trans (congrArg some (by kernel_rfl))
  t0 := Tryz.underlying0
  a0 := Tryz.isAgg0
  z0 := Tryz.sizeOf0
  v0 := Tryz.zeroValue0
  t3 := Tryz.underlying3
  a3 := Tryz.isAgg3
  z3 := Tryz.sizeOf3
  v3 := Tryz.zeroValue3
  t4 := Tryz.underlying4
  a4 := Tryz.isAgg4
  z4 := Tryz.sizeOf4
  v4 := Tryz.zeroValue4
  t5 := Tryz.underlying5
  a5 := Tryz.isAgg5
  z5 := Tryz.sizeOf5
  v5 := Tryz.zeroValue5
  t9 := Tryz.underlying9
  a9 := Tryz.isAgg9
  z9 := Tryz.sizeOf9
  v9 := Tryz.zeroValue9
  t20 := Tryz.underlying20
  a20 := Tryz.isAgg20
  z20 := Tryz.sizeOf20
  v20 := Tryz.zeroValue20
  t37 := Tryz.underlying23
  a37 := Tryz.isAgg23
  z37 := Tryz.sizeOf23
  v37 := Tryz.zeroValue23
  t46 := Tryz.underlying62
  a46 := Tryz.isAgg62
  z46 := Tryz.sizeOf62
  v46 := Tryz.zeroValue62
  t51 := Tryz.underlying127
  a51 := Tryz.isAgg127
  z51 := Tryz.sizeOf127
  v51 := Tryz.zeroValue127
  t53 := Tryz.underlying24
  a53 := Tryz.isAgg24
  z53 := Tryz.sizeOf24
  v53 := Tryz.zeroValue24
  t171 := Tryz.underlying109
  a171 := Tryz.isAgg109
  z171 := Tryz.sizeOf109
  v171 := Tryz.zeroValue109
  t173 := Tryz.underlying112
  a173 := Tryz.isAgg112
  z173 := Tryz.sizeOf112
  v173 := Tryz.zeroValue112
  t212 := Tryz.underlying126
  a212 := Tryz.isAgg126
  z212 := Tryz.sizeOf126
  v212 := Tryz.zeroValue126
  t213 := Tryz.underlying128
  a213 := Tryz.isAgg128
  z213 := Tryz.sizeOf128
  t232 := Tryz.underlying135
  a232 := Tryz.isAgg135
  z232 := Tryz.sizeOf135
  v232 := Tryz.zeroValue135
  t233 := Tryz.underlying163
  a233 := Tryz.isAgg163
  z233 := Tryz.sizeOf163
  v233 := Tryz.zeroValue163
  g17 := by kernel_rfl
  g18 := by kernel_rfl
  g19 := by kernel_rfl
  i0 := by kernel_rfl
  i3 := by kernel_rfl
  i4 := by kernel_rfl
  i5 := by kernel_rfl
  i9 := by kernel_rfl
  i20 := by kernel_rfl
  i37 := by kernel_rfl
  i46 := by kernel_rfl
  i51 := by kernel_rfl
  i53 := by kernel_rfl
  i171 := by kernel_rfl
  i173 := by kernel_rfl
  i212 := by kernel_rfl
  i232 := by kernel_rfl
  i233 := by kernel_rfl
  m17 := by kernel_rfl
  m18 := by kernel_rfl
  m19 := by kernel_rfl }
open Go.RowKit Go.Sort Go.Lib in
theorem Tryz.internal_strconv_AppendUint_10 (B n u : Nat) (hu64 : u < 18446744073709551616) (sv : Value) (xs : List Value) (w : World) (hown : w.ownsRow B 5 1 sv n xs) (hBw : B ≤ w.heap.size) (hlim : n + 20 ≤ 140737488355328) (htab : Lib.TabIs Tryz.prog w "internal/strconv.uint64pow10" .u64 Lib.pow10Tab) :
    Calls Tryz.prog 74 #[sv, .int .u64 u, .int .i64 10] w fun e w' => ∃ v', e = .returned v' ∧ w'.ownsRow B 5 1 v' (n + (Lib.decDigits u).length) (xs ++ Lib.byteCells (Lib.decDigits u)) ∧ Below B w w' ∧ Lib.OthersKept 5 none w w' := Any.internal_strconv_AppendUint_10 Tryz.laysM288 B n u hu64 sv xs w hown hBw hlim htab
def Tryz.laysM176_ren : Go.Shelf.Ren := ⟨fun | 176 => 46 | 249 => 73 | 288 => 74 | 283 => 59 | 284 => 60 | 285 => 61 | 286 => 62 | 129 => 80 | 317 => 79 | 318 => 81 | 319 => 82 | 320 => 83 | 337 => 100 | 338 => 101 | n => n, fun | 37 => 23 | 2 => 2 | 3 => 3 | 53 => 24 | 4 => 4 | 9 => 9 | 171 => 109 | 0 => 0 | 173 => 112 | 212 => 126 | 51 => 127 | 5 => 5 | 20 => 20 | 213 => 128 | 46 => 62 | 232 => 135 | 233 => 163 | n => n, fun | 17 => 1 | 18 => 3 | 19 => 4 | n => n⟩
theorem Tryz.laysM176 : Go.Proofs.LaysM.n176 Tryz.prog Tryz.laysM176_ren := {
  mixed := by kernel_rfl
  f129 := Tryz.func80.trans (congrArg some (by kernel_rfl))
  f176 := Tryz.func46.trans (congrArg some (by kernel_rfl))
  f249 := Tryz.func73.trans (congrArg some (by kernel_rfl))
  f283 := Tryz.func59.trans (congrArg some (by kernel_rfl))
  f284 := Tryz.func60.trans (congrArg some (by kernel_rfl))
  f285 := Tryz.func61.trans (congrArg some (by kernel_rfl))
  f286 := Tryz.func62.trans (congrArg some (by kernel_rfl))
  f288 := Tryz.func74.trans (congrArg some (by kernel_rfl))
  f317 := Tryz.func79.trans (congrArg some (by kernel_rfl))
  f318 := Tryz.func81.trans (congrArg some (by kernel_rfl))
  f319 := Tryz.func82.trans (congrArg some (by kernel_rfl))
  f320 := Tryz.func83.trans (congrArg some (by kernel_rfl))
  f337 := Tryz.func100.trans (congrArg some (by kernel_rfl))
  f338 := Tryz.func101.trans (congrArg some (by kernel_rfl))
  t0 := Tryz.underlying0
  a0 := Tryz.isAgg0
  z0 := Tryz.sizeOf0
  v0 := Tryz.zeroValue0
  t2 := Tryz.underlying2
  a2 := Tryz.isAgg2
  z2 := Tryz.sizeOf2
  v2 := Tryz.zeroValue2
  t3 := Tryz.underlying3
  a3 := Tryz.isAgg3
  z3 := Tryz.sizeOf3
  v3 := Tryz.zeroValue3
  t4 := Tryz.underlying4
  a4 := Tryz.isAgg4
  z4 := Tryz.sizeOf4
  v4 := Tryz.zeroValue4
  t5 := Tryz.underlying5
  a5 := Tryz.isAgg5
  z5 := Tryz.sizeOf5
  v5 := Tryz.zeroValue5
  t9 := Tryz.underlying9
  a9 := Tryz.isAgg9
  z9 := Tryz.sizeOf9
  v9 := Tryz.zeroValue9
  t20 := Tryz.underlying20
  a20 := Tryz.isAgg20
  z20 := Tryz.sizeOf20
  v20 := Tryz.zeroValue20
  t37 := Tryz.underlying23
  a37 := Tryz.isAgg23
  z37 := Tryz.sizeOf23
  v37 := Tryz.zeroValue23
  t46 := Tryz.underlying62
  a46 := Tryz.isAgg62
  z46 := Tryz.sizeOf62
  v46 := Tryz.zeroValue62
  t51 := Tryz.underlying127
  a51 := Tryz.isAgg127
  z51 := Tryz.sizeOf127
  v51 := Tryz.zeroValue127
  t53 := Tryz.underlying24
  a53 := Tryz.isAgg24
  z53 := Tryz.sizeOf24
  v53 := Tryz.zeroValue24
  t171 := Tryz.underlying109
  a171 := Tryz.isAgg109
  z171 := Tryz.sizeOf109
  v171 := Tryz.zeroValue109
  t173 := Tryz.underlying112
  a173 := Tryz.isAgg112
  z173 := Tryz.sizeOf112
  v173 := Tryz.zeroValue112
  t212 := Tryz.underlying126
  a212 := Tryz.isAgg126
  z212 := Tryz.sizeOf126
  v212 := Tryz.zeroValue126
  t213 := Tryz.underlying128
  a213 := Tryz.isAgg128
  z213 := Tryz.sizeOf128
  t232 := Tryz.underlying135
  a232 := Tryz.isAgg135
  z232 := Tryz.sizeOf135
  v232 := Tryz.zeroValue135
  t233 := Tryz.underlying163
  a233 := Tryz.isAgg163
  z233 := Tryz.sizeOf163
  v233 := Tryz.zeroValue163
  g17 := by kernel_rfl
  g18 := by kernel_rfl
  g19 := by kernel_rfl
  i0 := by kernel_rfl
  i2 := by kernel_rfl
  i3 := by kernel_rfl
  i4 := by kernel_rfl
  i5 := by kernel_rfl
  i9 := by kernel_rfl
  i20 := by kernel_rfl
  i37 := by kernel_rfl
  i46 := by kernel_rfl
  i51 := by kernel_rfl
  i53 := by kernel_rfl
  i171 := by kernel_rfl
  i173 := by kernel_rfl
  i212 := by kernel_rfl
  i232 := by kernel_rfl
  i233 := by kernel_rfl
  m17 := by kernel_rfl
  m18 := by kernel_rfl
  m19 := by kernel_rfl }
open Go.RowKit Go.Sort Go.Lib in
theorem Tryz.strconv_AppendInt_10 (B n : Nat) (i : Int) (h0 : -9223372036854775808 ≤ i) (h1 : i ≤ 9223372036854775807) (sv : Value) (xs : List Value) (w : World) (hown : w.ownsRow B 5 1 sv n xs) (hBw : B ≤ w.heap.size) (hlim : n + 21 ≤ 140737488355328) (htab : Lib.TabBelow Tryz.prog B w "internal/strconv.uint64pow10" .u64 Lib.pow10Tab) :
    Calls Tryz.prog 46 #[sv, .int .i64 i, .int .i64 10] w fun e w' => ∃ v', e = .returned v' ∧ w'.ownsRow B 5 1 v' (n + (Lib.itoa i).length) (xs ++ Lib.byteCells (Lib.itoa i)) ∧ Below B w w' ∧ Lib.OthersKept 5 none w w' := Any.strconv_AppendInt_10 Tryz.laysM176 B n i h0 h1 sv xs w hown hBw hlim htab
end Go.Proofs

/- strconv.AppendBool, AppendInt, AppendUint onto a row of one's own. -/
namespace Go.Proofs.YtnndlffidifddaaGreatDoor
open Go.RowKit

/-- the table of powers of ten, kept by whatever leaves the blocks below base -/
def Tab (base : Nat) (w : World) : Prop := Lib.TabBelow Tryz.prog base w "internal/strconv.uint64pow10" .u64 Lib.pow10Tab
theorem Tab.on {base : Nat} {w w' : World} (h : Tab base w) (hw : Below base w w') : Tab base w' := Lib.TabBelow.on h hw

theorem appK_of {base : Nat} {xs ys : List UInt8} {w w' : World} {v' : Value} {m : Nat} {zs : List Value} (hm : m = xs.length) (hz : zs = Sp.u8c ys) (ho : w'.ownsRow base 5 1 v' (m + ys.length) (Sp.u8c xs ++ zs)) (hk : Kp base w w') : AppK base xs ys w (.returned v') w' := by
  subst hm hz
  obtain ⟨a, c, rfl⟩ := own_slice_n ho
  exact ⟨a, c, rfl, ⟨by rw [List.length_append], by rw [u8c_app]; exact ho⟩, hk⟩

theorem AppendInt_any (i : Int) (h0 : -9223372036854775808 ≤ i) (h1 : i ≤ 9223372036854775807) (xs : List UInt8) (a : Option Addr) (m cap base : Nat) (w : World) (h : Byts w base a m cap xs) (hb : base ≤ w.heap.size) (hl : m ≤ 70368744177664) (ht : Tab base w) :
    Calls Tryz.prog 46 #[.slice a m cap, .int .i64 i, .int .i64 10] w (AppK base xs (Lib.itoa i) w) := by
  refine (Tryz.strconv_AppendInt_10 base m i h0 h1 _ (Sp.u8c xs) w h.2 hb (by omega) ht).mono ?_
  rintro e w' ⟨v', rfl, ho, hbw, hok⟩
  exact appK_of h.1 rfl ho ⟨hbw, hok⟩

theorem AppendUintI_any (u : Nat) (hu : u < 18446744073709551616) (xs : List UInt8) (a : Option Addr) (m cap base : Nat) (w : World) (h : Byts w base a m cap xs) (hb : base ≤ w.heap.size) (hl : m ≤ 70368744177664) (ht : Tab base w) :
    Calls Tryz.prog 74 #[.slice a m cap, .int .u64 (u : Int), .int .i64 10] w (AppK base xs (Lib.decDigits u) w) := by
  refine (Tryz.internal_strconv_AppendUint_10 base m u hu _ (Sp.u8c xs) w h.2 hb (by omega) ht.here).mono ?_
  rintro e w' ⟨v', rfl, ho, hbw, hok⟩
  exact appK_of h.1 rfl ho ⟨hbw, hok⟩
/-- what AppK says, its length hidden -/
def AppH (base : Nat) (xs ys : List UInt8) (w : World) (e : Ending) (w' : World) : Prop := ∃ a' m' cap', e = .returned (.slice a' m' cap') ∧ Hid (Byts w' base a' m' cap' (xs ++ ys) ∧ Kp base w w')
theorem AppK.hid {base : Nat} {xs ys : List UInt8} {w : World} {e : Ending} {w' : World} (h : AppK base xs ys w e w') : AppH base xs ys w e w' := by
  obtain ⟨a', c', rfl, h1, h2⟩ := h
  exact ⟨a', _, c', rfl, h1, h2⟩

set_option maxRecDepth 100000 in
set_option maxHeartbeats 1000000 in
theorem AppendUint_any (u : Nat) (hu : u < 18446744073709551616) (xs : List UInt8) (a : Option Addr) (m cap base : Nat) (w : World) (h : Byts w base a m cap xs) (hb : base ≤ w.heap.size) (hl : m ≤ 70368744177664) (ht : Tab base w) :
    Calls Tryz.prog 48 #[.slice a m cap, .int .u64 (u : Int), .int .i64 10] w (AppH base xs (Lib.decDigits u) w) := by
  have HC : Hid (Calls Tryz.prog 74 #[.slice a m cap, .int .u64 (u : Int), .int .i64 10] w (AppH base xs (Lib.decDigits u) w)) := (AppendUintI_any u hu xs a m cap base w h hb hl ht).mono fun _ _ => AppK.hid
  clear h hb hl ht hu
  go_enter Tryz.func48, Tryz.ntmps48
  go_wp2_with fail
  refine HC.out.mono ?_
  rintro e w1 ⟨a1, m1, p1, rfl, H1⟩
  go_wp2_with fail
  go_ret
  exact ⟨a1, m1, p1, rfl, H1⟩

def Sp.boolT (b : Bool) : List UInt8 := if b then [116, 114, 117, 101] else [102, 97, 108, 115, 101]
set_option maxRecDepth 100000 in
set_option maxHeartbeats 1000000 in
theorem AppendBoolI_any (b : Bool) (xs : List UInt8) (a : Option Addr) (m cap base : Nat) (w : World) (h : Byts w base a m cap xs) (hb : base ≤ w.heap.size) (hl : m ≤ 70368744177664) :
    Calls Tryz.prog 72 #[.slice a m cap, .bool b] w (AppH base xs (Sp.boolT b) w) := by
  obtain ⟨i0, hi, hz0, hz1, hz2⟩ := info_parts Tryz.infoB
  have HO : Hid (Byts w base a m cap xs) := h
  clear h
  cases b with
  | true =>
    go_enter Tryz.func72, Tryz.ntmps72
    go_wp2_with (at_builtin; refine Lib.wpList_append_own_string _ rfl _ _ 23 9 rfl base 5 i0 Tryz.undB Tryz.undSd hi hz0 hz1 hz2 (.slice a m cap) m (Sp.u8c xs) rfl HO.out.2 ⟨#[116, 114, 117, 101]⟩ rfl (by unfold maxLen; show m + 4 ≤ _; omega) (by show m + 4 ≤ _; omega) hb ?_; intro v3 w3 hown hgrow hor; obtain ⟨a3, cap', rfl⟩ := own_slice_n hown; have HN3 : Hid (Byts w3 base a3 (m + (⟨#[116, 114, 117, 101]⟩ : ByteArray).size) cap' (xs ++ Sp.boolT true) ∧ Kp base w w3) := ⟨HO.out.str hown, (Kp.refl base w).grown hgrow hb HO.out.2⟩; clear hown hgrow hor)
    go_ret
    exact ⟨a3, _, cap', rfl, HN3⟩
  | false =>
    go_enter Tryz.func72, Tryz.ntmps72
    go_wp2_with (at_builtin; refine Lib.wpList_append_own_string _ rfl _ _ 23 9 rfl base 5 i0 Tryz.undB Tryz.undSd hi hz0 hz1 hz2 (.slice a m cap) m (Sp.u8c xs) rfl HO.out.2 ⟨#[102, 97, 108, 115, 101]⟩ rfl (by unfold maxLen; show m + 5 ≤ _; omega) (by show m + 5 ≤ _; omega) hb ?_; intro v3 w3 hown hgrow hor; obtain ⟨a3, cap', rfl⟩ := own_slice_n hown; have HN3 : Hid (Byts w3 base a3 (m + (⟨#[102, 97, 108, 115, 101]⟩ : ByteArray).size) cap' (xs ++ Sp.boolT false) ∧ Kp base w w3) := ⟨HO.out.str hown, (Kp.refl base w).grown hgrow hb HO.out.2⟩; clear hown hgrow hor)
    go_ret
    exact ⟨a3, _, cap', rfl, HN3⟩
set_option maxRecDepth 100000 in
set_option maxHeartbeats 1000000 in
theorem AppendBool_any (b : Bool) (xs : List UInt8) (a : Option Addr) (m cap base : Nat) (w : World) (h : Byts w base a m cap xs) (hb : base ≤ w.heap.size) (hl : m ≤ 70368744177664) :
    Calls Tryz.prog 45 #[.slice a m cap, .bool b] w (AppH base xs (Sp.boolT b) w) := by
  have HC : Hid (Calls Tryz.prog 72 #[.slice a m cap, .bool b] w (AppH base xs (Sp.boolT b) w)) := AppendBoolI_any b xs a m cap base w h hb hl
  clear h hb hl
  go_enter Tryz.func45, Tryz.ntmps45
  go_wp2_with fail
  refine HC.out.mono ?_
  rintro e w1 ⟨a1, m1, p1, rfl, H1⟩
  go_wp2_with fail
  go_ret
  exact ⟨a1, m1, p1, rfl, H1⟩
end Go.Proofs.YtnndlffidifddaaGreatDoor

/- internal/strconv.fmtX, as FormatFloat calls it. -/
namespace Go.Proofs.YtnndlffidifddaaGreatDoor
open Go.RowKit

theorem and60 (n : Nat) (h : n < 2305843009213693952) : bits BinOp.and IntKind.u64 (n : Int) 1152921504606846976 = if 1152921504606846976 ≤ n then 1152921504606846976 else 0 := by
  have h1 := bits_and_u64_nat n 1152921504606846976 (by omega) (by decide)
  have h' : bits BinOp.and IntKind.u64 (n : Int) 1152921504606846976 = ((n &&& 1152921504606846976 : Nat) : Int) := h1
  rw [h', nat_bit60]
  split <;> omega

theorem lower_x (w : World) : Calls Tryz.prog 102 #[.int .u8 120] w fun e w' => e = .returned (.int .u8 120) ∧ w = w' := by
  have ho : bits BinOp.or IntKind.u8 120 32 = 120 := by decide +kernel
  go_enter Tryz.func102, Tryz.ntmps102
  go_wp2_with fail
  go_ret
  exact ⟨rfl, rfl⟩
/-- a figure, as a byte -/
theorem fig (n : Nat) (h : n < 10) : ∃ b : UInt8, Hid (b = UInt8.ofNat (48 + n)) ∧ (n : Int) + 48 = (b.toNat : Int) := ⟨_, show _ = _ from rfl, by
  have : (UInt8.ofNat (48 + n)).toNat = (48 + n) % 256 := rfl
  rw [this]; omega⟩

def slen : Value → Nat | .slice _ n _ => n | _ => 0
theorem and15w : ∀ c : Fin 16, bits .and .u64 (c.val : Int) 15 = (c.val : Int) := by decide +kernel
/-- what is left of a fraction behind so many digits -/
def Sp.rest (fr j : Nat) : Nat := (fr * 4096 * 16 ^ j) % 18446744073709551616
theorem Sp.rest_lt (fr j : Nat) : Sp.rest fr j < 18446744073709551616 := Nat.mod_lt _ (by decide)
theorem Sp.rest_0 (fr : Nat) (h : fr < 4503599627370496) : Sp.rest fr 0 = fr * 4096 := by unfold Sp.rest; rw [Nat.pow_zero, Nat.mul_one, Nat.mod_eq_of_lt (by omega)]
theorem Sp.rest_13 {fr j : Nat} (h : Sp.rest fr j ≠ 0) (hj : j ≤ 13) : j < 13 := by
  by_cases c : j = 13
  · exact absurd (by rw [c]; exact Sp.emit_end fr) h
  · omega

end Go.Proofs.YtnndlffidifddaaGreatDoor

