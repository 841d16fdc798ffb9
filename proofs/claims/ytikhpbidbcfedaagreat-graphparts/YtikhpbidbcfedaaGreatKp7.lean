/- slices.choosePivotOrdered at references: a place within, whatever it is. -/
import Derived.Test.YtikhpbidbcfedaaGreatKp6
import Derived.Shelf.Small.Bits
import Derived.Shelf.Small.Wraps
import Derived.Shelf.Strconv.Itoa0
import Derived.Shelf.Sort.Plain
import Derived.Shelf.Bits.Mul64
import Derived.Shelf.Slices.Reverse
import Derived.Ground.Names2Prog
import Derived.Shelf.Slices.Clone
import Derived.Shelf.Slices.CompactI
import Derived.Shelf.Slices.SearchI
import Derived.Shelf.Slices.Cells
import Derived.Shelf.Slices.In.SortNone
import Derived.Test.YtikhpbidbcfedaaGreatProg
import Derived.Test.YtikhpbidbcfedaaGreatKp3
import Derived.Laws.Bits64b
namespace Go.Proofs.YtikhpbidbcfedaaGreat
open Go.RowKit

set_option maxRecDepth 100000 in
set_option maxHeartbeats 4000000 in
theorem cho_ref (blk off cap a b : Nat) (d : Array Int) (w : World) (hH : Sort.Holds (Value.int .u64) w blk off d) (hblk : blk < w.heap.size) (h12 : 12 < b - a) (hb : b ≤ d.size) (hsz : d.size < 4611686018427387904) :
    Calls Tryz.prog 88 #[.slice (some ⟨blk, off, none⟩) d.size cap, .int .i64 a, .int .i64 b] w fun e w' =>
      ∃ (p : Nat) (hn : Int), e = .returned (.tuple #[.int .i64 p, .int .i64 hn]) ∧ a ≤ p ∧ p < b ∧ (hn = 0 ∨ hn = 1 ∨ hn = 2) ∧ SR w blk off d d w' := by
  have HS : Hid (SR w blk off d d w) := SR.refl hH hblk
  clear hH hblk
  obtain ⟨I, hI⟩ : ∃ I : Nat, I = a + (b - a) / 4 * 1 := ⟨_, rfl⟩
  obtain ⟨J, hJ⟩ : ∃ J : Nat, J = a + (b - a) / 4 * 2 := ⟨_, rfl⟩
  obtain ⟨K, hK⟩ : ∃ K : Nat, K = a + (b - a) / 4 * 3 := ⟨_, rfl⟩
  have eI : ((a : Int) + ((b : Int) - (a : Int)) / 4) = (I : Int) := by omega
  have eJ : ((a : Int) + ((b : Int) - (a : Int)) / 4 * 2) = (J : Int) := by omega
  have eK : ((a : Int) + ((b : Int) - (a : Int)) / 4 * 3) = (K : Int) := by omega
  have hI1 : a < I ∧ I + 1 < b := by omega
  have hJ1 : a < J ∧ J + 1 < b := by omega
  have hK1 : a < K ∧ K + 1 < b := by omega
  have hIJK : I < J ∧ J < K := by omega
  clear hI hJ hK
  have HP : Hid (PV w blk off d w.heap.size 0 0 (w.alloc (.cells #[.int .i64 0] 3))) := ⟨HS.out.alloc _, by rw [World.cell?_alloc_at _ _ _ _ rfl]; rfl, by rw [World.frozen?_alloc_at _ _ _ _ rfl]⟩
  clear HS
  have h8 : (8 : Int) ≤ (b : Int) - (a : Int) := by omega
  by_cases h50 : 50 ≤ b - a
  · have h5 : (50 : Int) ≤ (b : Int) - (a : Int) := by omega
    go_enter Tryz.func88, Tryz.ntmps88
    go_wp2_with (go_at_call_of 112 (Value.int .i64 (I : Int)); refine (madj_ref cap I HP.out (Nat.le_refl _) (by omega) (by omega) hsz (by decide) (by decide)).mono ?_; rintro e w1 ⟨x1, t1, rfl, m1, l1, u1, P1⟩)
    have HP1 : Hid (PV w blk off d w.heap.size 0 t1 w1) := P1
    clear P1 HP
    go_wp2_with (go_at_call_of 112 (Value.int .i64 (J : Int)); refine (madj_ref cap J HP1.out (Nat.le_refl _) (by omega) (by omega) hsz (by omega) (by omega)).mono ?_; rintro e w2 ⟨x2, t2, rfl, m2, l2, u2, P2⟩)
    have HP2 : Hid (PV w blk off d w.heap.size 0 t2 w2) := P2
    clear P2 HP1
    go_wp2_with (go_at_call_of 112 (Value.int .i64 (K : Int)); refine (madj_ref cap K HP2.out (Nat.le_refl _) (by omega) (by omega) hsz (by omega) (by omega)).mono ?_; rintro e w3 ⟨x3, t3, rfl, m3, l3, u3, P3⟩)
    have HP3 : Hid (PV w blk off d w.heap.size 0 t3 w3) := P3
    clear P3 HP2
    go_wp2_with (go_at_call 113; refine (med_ref cap x1 x2 x3 HP3.out (Nat.le_refl _) (by omega) (by omega) (by omega) (by omega) (by omega)).mono ?_; rintro e w4 ⟨p, t4, rfl, m4, l4, u4, P4⟩; have hcb := P4.bx.1; have HP4 : Hid (SR w blk off d d w4) := P4.sr; have hpr : a ≤ p ∧ p < b := (by omega); have M4 : Hid (a ≤ p ∧ p < b) := hpr; clear hpr P4 m4 l4 u4 m1 m2 m3 l1 l2 l3 u1 u2 u3)
    all_goals go_ret2
    all_goals exact ⟨p, _, rfl, M4.out.1, M4.out.2, by decide, HP4.out⟩
  · have h5 : decide ((50 : Int) ≤ (b : Int) - (a : Int)) = false := decide_eq_false (by omega)
    go_enter Tryz.func88, Tryz.ntmps88
    go_wp2_with (go_at_call 113; refine (med_ref cap I J K HP.out (Nat.le_refl _) (by omega) (by omega) (by omega) (by decide) (by decide)).mono ?_; rintro e w4 ⟨p, t4, rfl, m4, l4, u4, P4⟩; have hcb := P4.bx.1; have HP4 : Hid (SR w blk off d d w4) := P4.sr; have hpr : a ≤ p ∧ p < b := (by omega); have M4 : Hid (a ≤ p ∧ p < b) := hpr; clear hpr P4 m4 l4 u4)
    all_goals go_ret2
    all_goals exact ⟨p, _, rfl, M4.out.1, M4.out.2, by decide, HP4.out⟩
end Go.Proofs.YtikhpbidbcfedaaGreat

/- Contracts of the library's functions at this translation. -/
namespace Go.Proofs
open Go.Shelf
def Tryz.lays125_ren : Go.Shelf.Ren := ⟨fun | 125 => 60 | 128 => 81 | 129 => 82 | n => n, fun | 46 => 100 | 3 => 3 | 51 => 115 | 53 => 24 | 4 => 4 | 5 => 5 | 9 => 9 | n => n, fun | n => n⟩
theorem Tryz.lays125 : Go.Proofs.Lays.n125 Tryz.prog Tryz.lays125_ren := {
  mixed := by kernel_rfl
  f125 := Tryz.func60.trans (congrArg some (by kernel_rfl))
  f128 := Tryz.func81.trans (congrArg some (by kernel_rfl))
  f129 := Tryz.func82.trans (congrArg some (by kernel_rfl))
  t3 := Tryz.underlying3
  a3 := Tryz.isAgg3
  z3 := Tryz.sizeOf3
  v3 := Tryz.zeroValue3
  t4 := Tryz.underlying4
  a4 := Tryz.isAgg4
  z4 := Tryz.sizeOf4
  v4 := Tryz.zeroValue4
  t5 := Tryz.underlying5
  a5 := Tryz.isAgg5
  z5 := Tryz.sizeOf5
  v5 := Tryz.zeroValue5
  t9 := Tryz.underlying9
  a9 := Tryz.isAgg9
  z9 := Tryz.sizeOf9
  v9 := Tryz.zeroValue9
  t46 := Tryz.underlying100
  a46 := Tryz.isAgg100
  z46 := Tryz.sizeOf100
  v46 := Tryz.zeroValue100
  t51 := Tryz.underlying115
  a51 := Tryz.isAgg115
  z51 := Tryz.sizeOf115
  v51 := Tryz.zeroValue115
  t53 := Tryz.underlying24
  a53 := Tryz.isAgg24
  z53 := Tryz.sizeOf24
  v53 := Tryz.zeroValue24 }
theorem Tryz.bits_Len (x : Int) (w : World) (h0 : 0 ≤ x) (h1 : x ≤ 18446744073709551615) :
    Calls Tryz.prog 60 #[.int .u64 x] w fun e w' => e = .returned (.int .i64 (Lib.bitLen x.toNat)) ∧ w' = w := Any.bits_Len Tryz.lays125 x w h0 h1
def Tryz.lays189_ren : Go.Shelf.Ren := ⟨fun | 189 => 49 | 125 => 60 | 257 => 69 | 128 => 81 | 129 => 82 | 294 => 94 | 295 => 95 | 296 => 96 | 297 => 97 | 298 => 98 | 299 => 99 | 216 => 100 | 300 => 101 | 301 => 102 | 328 => 114 | 329 => 105 | 330 => 106 | 331 => 115 | 332 => 116 | 215 => 117 | 343 => 120 | n => n, fun | 28 => 60 | 3 => 3 | 46 => 100 | 0 => 0 | 51 => 115 | 53 => 24 | 4 => 4 | 183 => 109 | 182 => 108 | 131 => 78 | 5 => 5 | 9 => 9 | 218 => 131 | 222 => 135 | 228 => 145 | 229 => 146 | n => n, fun | n => n⟩
theorem Tryz.lays189 : Go.Proofs.Lays.n189 Tryz.prog Tryz.lays189_ren := {
  mixed := by kernel_rfl
  f125 := Tryz.func60.trans (congrArg some (by kernel_rfl))
  f128 := Tryz.func81.trans (congrArg some (by kernel_rfl))
  f129 := Tryz.func82.trans (congrArg some (by kernel_rfl))
  f189 := Tryz.func49.trans (congrArg some (by kernel_rfl))
  f215 := Tryz.func117.trans (congrArg some (by kernel_rfl))
  f216 := Tryz.func100.trans (congrArg some (by kernel_rfl))
  f257 := Tryz.func69.trans (congrArg some (by kernel_rfl))
  f294 := Tryz.func94.trans (congrArg some (by kernel_rfl))
  f295 := Tryz.func95.trans (congrArg some (by kernel_rfl))
  f296 := Tryz.func96.trans (congrArg some (by kernel_rfl))
  f297 := Tryz.func97.trans (congrArg some (by kernel_rfl))
  f298 := Tryz.func98.trans (congrArg some (by kernel_rfl))
  f299 := Tryz.func99.trans (congrArg some (by kernel_rfl))
  f300 := Tryz.func101.trans (congrArg some (by kernel_rfl))
  f301 := Tryz.func102.trans (congrArg some (by kernel_rfl))
  f328 := Tryz.func114.trans (congrArg some (by kernel_rfl))
  f329 := Tryz.func105.trans (congrArg some (by kernel_rfl))
  f330 := Tryz.func106.trans (congrArg some (by kernel_rfl))
  f331 := Tryz.func115.trans (congrArg some (by kernel_rfl))
  f332 := Tryz.func116.trans (congrArg some (by kernel_rfl))
  f343 := Tryz.func120.trans (congrArg some (by kernel_rfl))
  t0 := Tryz.underlying0
  a0 := Tryz.isAgg0
  z0 := Tryz.sizeOf0
  v0 := Tryz.zeroValue0
  t3 := Tryz.underlying3
  a3 := Tryz.isAgg3
  z3 := Tryz.sizeOf3
  v3 := Tryz.zeroValue3
  t4 := Tryz.underlying4
  a4 := Tryz.isAgg4
  z4 := Tryz.sizeOf4
  v4 := Tryz.zeroValue4
  t5 := Tryz.underlying5
  a5 := Tryz.isAgg5
  z5 := Tryz.sizeOf5
  v5 := Tryz.zeroValue5
  t9 := Tryz.underlying9
  a9 := Tryz.isAgg9
  z9 := Tryz.sizeOf9
  v9 := Tryz.zeroValue9
  t28 := Tryz.underlying60
  a28 := Tryz.isAgg60
  z28 := Tryz.sizeOf60
  v28 := Tryz.zeroValue60
  t46 := Tryz.underlying100
  a46 := Tryz.isAgg100
  z46 := Tryz.sizeOf100
  v46 := Tryz.zeroValue100
  t51 := Tryz.underlying115
  a51 := Tryz.isAgg115
  z51 := Tryz.sizeOf115
  v51 := Tryz.zeroValue115
  t53 := Tryz.underlying24
  a53 := Tryz.isAgg24
  z53 := Tryz.sizeOf24
  v53 := Tryz.zeroValue24
  t131 := Tryz.underlying78
  a131 := Tryz.isAgg78
  z131 := Tryz.sizeOf78
  v131 := Tryz.zeroValue78
  t182 := Tryz.underlying108
  a182 := Tryz.isAgg108
  z182 := Tryz.sizeOf108
  v182 := Tryz.zeroValue108
  t183 := Tryz.underlying109
  a183 := Tryz.isAgg109
  z183 := Tryz.sizeOf109
  v183 := Tryz.zeroValue109
  t218 := Tryz.underlying131
  a218 := Tryz.isAgg131
  z218 := Tryz.sizeOf131
  v218 := Tryz.zeroValue131
  t222 := Tryz.underlying135
  a222 := Tryz.isAgg135
  z222 := Tryz.sizeOf135
  v222 := Tryz.zeroValue135
  t228 := Tryz.underlying145
  a228 := Tryz.isAgg145
  z228 := Tryz.sizeOf145
  v228 := Tryz.zeroValue145
  t229 := Tryz.underlying146
  a229 := Tryz.isAgg146
  z229 := Tryz.sizeOf146
  v229 := Tryz.zeroValue146 }
open Go.Sort Go.RowKit in
theorem Tryz.slices_Sort_int (blk off cap : Nat) (zs : List Int) (w : World) (hH : Holds (Value.int .i64) w blk off zs.toArray) (hblk : blk < w.heap.size) (hsz : zs.length < 4611686018427387904) :
    Calls Tryz.prog 49 #[.slice (some ⟨blk, off, none⟩) zs.length cap] w fun e w' =>
      e = .returned (.tuple #[]) ∧ ∃ n os, w' = grow (putRow (Value.int .i64) (Sort.ahead w n) blk off (zs.mergeSort fun x y => decide (x ≤ y)).toArray) os := Any.slices_Sort_int Tryz.lays189 blk off cap zs w hH hblk hsz
def Tryz.lays212_ren : Go.Shelf.Ren := ⟨fun | 212 => 84 | 263 => 109 | 264 => 110 | n => n, fun | 46 => 100 | 51 => 115 | 146 => 137 | 53 => 24 | 148 => 139 | n => n, fun | n => n⟩
theorem Tryz.lays212 : Go.Proofs.Lays.n212 Tryz.prog Tryz.lays212_ren := {
  mixed := by kernel_rfl
  f212 := Tryz.func84.trans (congrArg some (by kernel_rfl))
  f263 := Tryz.func109.trans (congrArg some (by kernel_rfl))
  f264 := Tryz.func110.trans (congrArg some (by kernel_rfl))
  t46 := Tryz.underlying100
  a46 := Tryz.isAgg100
  z46 := Tryz.sizeOf100
  v46 := Tryz.zeroValue100
  t51 := Tryz.underlying115
  a51 := Tryz.isAgg115
  z51 := Tryz.sizeOf115
  v51 := Tryz.zeroValue115
  t53 := Tryz.underlying24
  a53 := Tryz.isAgg24
  z53 := Tryz.sizeOf24
  v53 := Tryz.zeroValue24
  t146 := Tryz.underlying137
  a146 := Tryz.isAgg137
  z146 := Tryz.sizeOf137
  v146 := Tryz.zeroValue137
  t148 := Tryz.underlying139
  a148 := Tryz.isAgg139
  z148 := Tryz.sizeOf139
  v148 := Tryz.zeroValue139 }
open Go.RowKit Go.Lib in
theorem Tryz.bits_Mul (x y : Nat) (hx : x < 18446744073709551616) (hy : y < 18446744073709551616) (w : World) :
    Calls Tryz.prog 84 #[.int .u64 x, .int .u64 y] w fun e w' => e = .returned (.tuple #[.int .u64 ((x * y / 18446744073709551616 : Nat) : Int), .int .u64 ((x * y % 18446744073709551616 : Nat) : Int)]) ∧ w' = w := Any.bits_Mul Tryz.lays212 x y hx hy w
def Tryz.lays112_ren : Go.Shelf.Ren := ⟨fun | 112 => 54 | n => n, fun | 28 => 60 | 3 => 3 | 4 => 4 | 0 => 0 | n => n, fun | n => n⟩
theorem Tryz.lays112 : Go.Proofs.Lays.n112 Tryz.prog Tryz.lays112_ren := {
  mixed := by kernel_rfl
  f112 := Tryz.func54.trans (congrArg some (by kernel_rfl))
  t0 := Tryz.underlying0
  a0 := Tryz.isAgg0
  z0 := Tryz.sizeOf0
  v0 := Tryz.zeroValue0
  t3 := Tryz.underlying3
  a3 := Tryz.isAgg3
  z3 := Tryz.sizeOf3
  v3 := Tryz.zeroValue3
  t4 := Tryz.underlying4
  a4 := Tryz.isAgg4
  z4 := Tryz.sizeOf4
  v4 := Tryz.zeroValue4
  t28 := Tryz.underlying60
  a28 := Tryz.isAgg60
  z28 := Tryz.sizeOf60
  v28 := Tryz.zeroValue60 }
open Go.RowKit Go.Lib Go.Sort in
theorem Tryz.slices_Reverse_int (blk off cap : Nat) (zs : List Int) (w : World) (hH : Holds (Value.int .i64) w blk off zs.toArray) (hsz : zs.length ≤ 9223372036854775807) :
    Calls Tryz.prog 54 #[.slice (some ⟨blk, off, none⟩) zs.length cap] w fun e w' => e = .returned (.tuple #[]) ∧ ∃ n, w' = putRow (Value.int .i64) (Sort.ahead w n) blk off zs.reverse.toArray := Any.slices_Reverse_int Tryz.lays112 blk off cap zs w hH hsz
open Go.RowKit Go.Lib Go.Sort in
def Tryz.laysNm215_ren : Go.Shelf.Ren := ⟨fun | 15 => 66 | n => n, fun | 22 => 60 | 3 => 3 | 4 => 4 | n => n, fun | n => n⟩
theorem Tryz.laysNm215 : Go.Proofs.Lays2.n15 Tryz.prog Tryz.laysNm215_ren := {
  mixed := by kernel_rfl
  f15 := Tryz.func66.trans (congrArg some (by kernel_rfl))
  t3 := Tryz.underlying3
  a3 := Tryz.isAgg3
  z3 := Tryz.sizeOf3
  v3 := Tryz.zeroValue3
  t4 := Tryz.underlying4
  a4 := Tryz.isAgg4
  z4 := Tryz.sizeOf4
  v4 := Tryz.zeroValue4
  t22 := Tryz.underlying60
  a22 := Tryz.isAgg60
  z22 := Tryz.sizeOf60
  v22 := Tryz.zeroValue60
  i3 := by kernel_rfl }
open Go.RowKit Go.Lib in
theorem Tryz.slices_Clone_int (b off n c : Nat) (zs : List Int) (w : World) (hz : n ≤ zs.length) (hbig : n * 8 ≤ 140737488355328) (hc : ∀ j, j < zs.length → w.cell? ⟨b, off + j, none⟩ = some (.int .i64 (zs.getD j 0))) :
    Calls Tryz.prog 66 #[.slice (some ⟨b, off, none⟩) n c] w fun e w' => ∃ v', e = .returned v' ∧ w'.ownsRow w.heap.size 3 1 v' n ((zs.take n).map (Value.int .i64)) ∧ v' ≠ .slice none 0 0 ∧ Below w.heap.size w w' := Any.slices_Clone_int Tryz.laysNm215 b off n c zs w hz hbig hc
open Go.RowKit Go.Lib in
theorem Tryz.slices_Clone_int_nil (n c : Nat) (w : World) :
    Calls Tryz.prog 66 #[.slice none n c] w fun e w' => e = .returned (.slice none 0 0) ∧ w' = w := Any.slices_Clone_int_nil Tryz.laysNm215 n c w
open Go.RowKit Go.Lib in
theorem Tryz.slices_Clone_int_zero (a : Addr) (c : Nat) (w : World) :
    Calls Tryz.prog 66 #[.slice (some a) 0 c] w fun e w' => ∃ v', e = .returned v' ∧ w'.ownsRow w.heap.size 3 1 v' 0 [] ∧ v' ≠ .slice none 0 0 ∧ Below w.heap.size w w' := Any.slices_Clone_int_zero Tryz.laysNm215 a c w
def Tryz.laysNm220_ren : Go.Shelf.Ren := ⟨fun | 20 => 50 | n => n, fun | 22 => 60 | 3 => 3 | 4 => 4 | 0 => 0 | n => n, fun | n => n⟩
theorem Tryz.laysNm220 : Go.Proofs.Lays2.n20 Tryz.prog Tryz.laysNm220_ren := {
  mixed := by kernel_rfl
  f20 := Tryz.func50.trans (congrArg some (by kernel_rfl))
  t0 := Tryz.underlying0
  a0 := Tryz.isAgg0
  z0 := Tryz.sizeOf0
  v0 := Tryz.zeroValue0
  t3 := Tryz.underlying3
  a3 := Tryz.isAgg3
  z3 := Tryz.sizeOf3
  v3 := Tryz.zeroValue3
  t4 := Tryz.underlying4
  a4 := Tryz.isAgg4
  z4 := Tryz.sizeOf4
  v4 := Tryz.zeroValue4
  t22 := Tryz.underlying60
  a22 := Tryz.isAgg60
  z22 := Tryz.sizeOf60
  v22 := Tryz.zeroValue60
  i3 := by kernel_rfl }
open Go.RowKit Go.Lib Go.Sort in
open Go.RowKit Go.Lib Go.Sort in
theorem Tryz.slices_Compact_int (blk off cap : Nat) (zs : List Int) (w : World) (hH : Holds (Value.int .i64) w blk off zs.toArray) (hsz : zs.length ≤ 9223372036854775807) (hcap : zs.length ≤ cap) :
    Calls Tryz.prog 50 #[.slice (some ⟨blk, off, none⟩) zs.length cap] w fun e w' => e = .returned (.slice (some ⟨blk, off, none⟩) (Lib.compact zs).length cap) ∧ ∃ q, w' = putRow (Value.int .i64) (Sort.ahead w q) blk off (Lib.compact zs ++ List.replicate (zs.length - (Lib.compact zs).length) 0).toArray := Any.slices_Compact_int Tryz.laysNm220 blk off cap zs w hH hsz hcap
open Go.RowKit Go.Lib Go.Sort in
theorem Tryz.slices_Compact_int_empty (a : Option Addr) (cap : Nat) (w : World) :
    Calls Tryz.prog 50 #[.slice a 0 cap] w fun e w' => e = .returned (.slice a 0 cap) ∧ w' = w := Any.slices_Compact_int_empty Tryz.laysNm220 a cap w
open Go.RowKit Go.Lib Go.Sort in
open Go.RowKit Go.Lib Go.Sort in
open Go.RowKit Go.Sort in
theorem Tryz.slices_Sort_int_none (p : Option Addr) (cap : Nat) (w : World) :
    Calls Tryz.prog 49 #[.slice p 0 cap] w fun e w' => e = .returned (.tuple #[]) ∧ w' = w := Any.slices_Sort_int_none Tryz.lays189 p cap w
end Go.Proofs

/- slices.breakPatternsOrdered at references: some elements change places, whichever they are. -/
namespace Go.Proofs.YtikhpbidbcfedaaGreat
open Go.RowKit

set_option maxRecDepth 100000 in
set_option maxHeartbeats 4000000 in
theorem pow2_ref (n : Nat) (h0 : 0 < n) (hn : n < 4611686018427387904) (w : World) :
    Calls Tryz.prog 105 #[.int .i64 n] w fun e w' => ∃ M : Nat, e = .returned (.int .u64 M) ∧ w' = w ∧ 1 ≤ M ∧ M ≤ 2 * n := by
  obtain ⟨k, hk⟩ : ∃ k, k = Sort.bitsLen n := ⟨_, rfl⟩
  have hLen : ∀ W, Calls Tryz.prog 60 #[.int .u64 (n : Int)] W fun e w' => e = .returned (.int .i64 (k : Nat)) ∧ w' = W := fun W => by
    have h := Tryz.bits_Len (n : Int) W (by omega) (by omega)
    rw [Int.toNat_natCast, bitLen_eq _ (by omega), ← hk] at h; exact h
  have hk2 : k ≤ 62 := by rw [hk]; exact (Sort.bitsLen_le_iff n 62).2 (by omega)
  have hp := wrap_two_pow k hk2
  have HM : Hid (1 <<< k ≤ 2 * n) := by show _ ≤ _; rw [Nat.one_shiftLeft, hk]; exact Sort.two_pow_bitsLen_le h0
  have HM1 : Hid (1 ≤ 1 <<< k) := by show _ ≤ _; rw [Nat.one_shiftLeft]; exact Nat.two_pow_pos _
  clear hk
  go_enter Tryz.func105, Tryz.ntmps105
  go_wp2_with (first | (go_at_call 60; refine (hLen _).mono ?_; rintro e w' ⟨rfl, rfl⟩))
  go_ret
  exact ⟨1 <<< k, rfl, rfl, HM1.out, HM.out⟩

set_option maxRecDepth 100000 in
set_option maxHeartbeats 4000000 in
theorem next_ref (rb ro X : Nat) (hX : X < 18446744073709551616) (w : World) (hc : w.cell? ⟨rb, ro, none⟩ = some (.int .u64 X)) (hf : w.frozen? ⟨rb, ro, none⟩ = false) :
    Calls Tryz.prog 106 #[.pointer (some ⟨rb, ro, none⟩)] w fun e w' => ∃ Y : Nat, e = .returned (.int .u64 Y) ∧ Y < 18446744073709551616 ∧ w' = (w.setCell ⟨rb, ro, none⟩ (.int .u64 Y)).drewN 3 := by
  obtain ⟨A, hA⟩ : ∃ A : Nat, A = X ^^^ (X * 8192 % 18446744073709551616) := ⟨_, rfl⟩
  obtain ⟨B, hB⟩ : ∃ B : Nat, B = A ^^^ (A / 128) := ⟨_, rfl⟩
  obtain ⟨C, hC⟩ : ∃ C : Nat, C = B ^^^ (B * 131072 % 18446744073709551616) := ⟨_, rfl⟩
  have lA : A < 18446744073709551616 := by rw [hA]; exact Nat.xor_lt_two_pow (n := 64) (by omega) (by omega)
  have lB : B < 18446744073709551616 := by rw [hB]; exact Nat.xor_lt_two_pow (n := 64) (by omega) (by omega)
  have lC : C < 18446744073709551616 := by rw [hC]; exact Nat.xor_lt_two_pow (n := 64) (by omega) (by omega)
  have e1 : bits .xor .u64 (X : Int) (IntKind.u64.wrap ((X : Int) * 8192)) = (A : Int) := by
    rw [IntKind.wrap_u64, show ((X : Int) * 8192 % 18446744073709551616) = ((X * 8192 % 18446744073709551616 : Nat) : Int) by omega, bits_xor_u64_nat _ _ hX (by omega), hA]
  have e2 : bits .xor .u64 (A : Int) ((A : Int) / 128) = (B : Int) := by
    rw [show ((A : Int) / 128) = ((A / 128 : Nat) : Int) by omega, bits_xor_u64_nat _ _ lA (by omega), hB]
  have e3 : bits .xor .u64 (B : Int) (IntKind.u64.wrap ((B : Int) * 131072)) = (C : Int) := by
    rw [IntKind.wrap_u64, show ((B : Int) * 131072 % 18446744073709551616) = ((B * 131072 % 18446744073709551616 : Nat) : Int) by omega, bits_xor_u64_nat _ _ lB (by omega), hC]
  clear hA hB hC
  have HC : Hid (C < 18446744073709551616) := lC
  clear lC
  have hss : ∀ v v', (w.setCell ⟨rb, ro, none⟩ v).setCell ⟨rb, ro, none⟩ v' = w.setCell ⟨rb, ro, none⟩ v' := fun v v' => by
    rw [Sort.setCell_eq, Sort.setCell_eq, Sort.mapBlock_mapBlock, Sort.setCell_eq]
    congr 1; funext c; simp
  go_enter Tryz.func106, Tryz.ntmps106
  go_wp2
  go_region
  all_goals go_wp2
  all_goals go_region
  all_goals go_wp2
  all_goals go_region
  all_goals go_wp2
  go_ret
  exact ⟨C, rfl, HC.out, rfl⟩

def Gx (w : World) (sb : Nat) (s : Int) : Prop := w.cell? ⟨sb, 0, none⟩ = some (.int .u64 s) ∧ w.frozen? ⟨sb, 0, none⟩ = false
theorem Gx.set {w : World} {sb : Nat} {s : Int} (h : Gx w sb s) (t : Int) : Gx (w.setCell ⟨sb, 0, none⟩ (.int .u64 t)) sb t := by
  obtain ⟨h1, h2⟩ := h
  have hh : Sort.Holds (Value.int .u64) w sb 0 #[s] := fun j hj => by
    obtain rfl : j = 0 := by simp at hj; omega
    exact ⟨by simpa using h1, by simpa using h2⟩
  have e := Sort.putRow_set (Value.int .u64) w sb 0 #[s] 0 t (by simp)
  rw [Sort.putRow_self _ _ _ _ _ hh] at e
  have k := Sort.holds_putRow (Value.int .u64) w sb 0 #[s] (#[s].setIfInBounds 0 t) hh (by simp) 0 (by simp)
  rw [Nat.add_zero] at e k
  unfold Gx
  rw [e]
  exact ⟨by simpa using k.1, k.2⟩
theorem Gx.other {w : World} {sb blk o : Nat} {s : Int} (h : Gx w sb s) (hb : blk ≠ sb) (v : Value) : Gx (w.setCell ⟨blk, o, none⟩ v) sb s := by
  have e : (w.setCell ⟨blk, o, none⟩ v).heap[sb]? = w.heap[sb]? := Below.heap_setCell w _ v sb (fun h => hb h.symm)
  unfold Gx
  rw [World.cell?_of_block (w := w) e, World.frozen?_of_block (w := w) e]
  exact h

set_option maxRecDepth 100000 in
set_option maxHeartbeats 8000000 in
theorem brk_ref (blk off cap a L : Nat) (d : Array Int) (w : World) (hH : Sort.Holds (Value.int .u64) w blk off d) (hblk : blk < w.heap.size) (h8 : 8 ≤ L) (hb : a + L ≤ d.size) (hsz : d.size < 4611686018427387904) :
    Calls Tryz.prog 87 #[.slice (some ⟨blk, off, none⟩) d.size cap, .int .i64 a, .int .i64 ((a + L : Nat) : Int)] w fun e w' =>
      e = .returned (.tuple #[]) ∧ ∃ d', Sort.PermIn a (a + L) d d' ∧ SR w blk off d d' w' := by
  have HS : Hid (SR w blk off d d w) := SR.refl hH hblk
  have HS0 : Hid (SR w blk off d d (w.alloc (.cells #[.int .u64 (L : Int)] 131)) ∧ Gx (w.alloc (.cells #[.int .u64 (L : Int)] 131)) w.heap.size L) := ⟨HS.out.alloc _, by rw [World.cell?_alloc_at _ _ _ _ rfl]; rfl, by rw [World.frozen?_alloc_at _ _ _ _ rfl]⟩
  clear hH HS
  go_enter Tryz.func87, Tryz.ntmps87
  go_wp2_with (first | (go_at_call 105; rw [show ((a : Int) + (L : Int) - (a : Int)) = (L : Int) by omega]; refine (pow2_ref L (by omega) (by omega) _).mono ?_; rintro e w' ⟨M, rfl, rfl, hM1, hM2⟩))
  go_loopw [9] (fun vi wr => ∃ (t : Nat) (r : Nat) (dk : Array Int), vi = .int .i64 ((a + L / 4 * 2 - 1 + t : Nat) : Int) ∧ t ≤ 3 ∧ r < 18446744073709551616 ∧ dk.size = d.size ∧
      Hid (SR w blk off d dk wr ∧ Gx wr w.heap.size r ∧ Sort.PermIn a (a + L) d dk)) (fun vi _ => a + L / 4 * 2 + 3 - (intOf vi).toNat)
  case atStart => exact ⟨0, L, d, by congr 1; omega, by omega, by omega, rfl, HS0.out.1, HS0.out.2, Sort.permIn_refl _ _ _⟩
  case round =>
    obtain ⟨t, r, dk, rfl, ht, hr, hsk, HK⟩ := hrel
    clear HS0
    obtain ⟨G, hG⟩ : ∃ G : Nat → Int, ∀ x, G x = dk[x]! := ⟨fun x => dk[x]!, fun _ => rfl⟩
    have hcw : ∀ x, x < d.size → wr.cell? ⟨blk, off + x, none⟩ = some (.int .u64 (G x)) := fun x hx => by rw [hG]; exact (HK.out.1.holds x (by omega)).1
    have hfw : ∀ x, x < d.size → wr.frozen? ⟨blk, off + x, none⟩ = false := fun x hx => (HK.out.1.holds x (by omega)).2
    have HG : Hid (∀ x, G x = dk[x]!) := hG
    clear hG
    have hbz : (blk : Nat) ≠ w.heap.size := by omega
    by_cases ht3 : t < 3
    · have htz : ((a + L / 4 * 2 - 1 + t : Nat) : Int) ≤ (a : Int) + (L : Int) / 4 * 2 + 1 := by omega
      obtain ⟨X, hX⟩ : ∃ X : Nat, X = a + L / 4 * 2 - 1 + t := ⟨_, rfl⟩
      have hX1 : a ≤ X ∧ X < a + L := by omega
      have hX2 : (X : Int) ≤ (a : Int) + (L : Int) / 4 * 2 + 1 := by omega
      rw [← hX]
      have HX : Hid (X = a + L / 4 * 2 - 1 + t) := hX
      clear hX htz
      go_wp2_with (first | (go_at_call 106; refine (next_ref w.heap.size 0 r hr wr HK.out.2.1.1 HK.out.2.1.2).mono ?_; rintro e w' ⟨Y, rfl, hY, rfl⟩; have hst : Hid (SR w blk off d dk ((wr.setCell ⟨w.heap.size, 0, none⟩ (.int .u64 (Y : Int))).drewN 3) ∧ Gx ((wr.setCell ⟨w.heap.size, 0, none⟩ (.int .u64 (Y : Int))).drewN 3) w.heap.size Y) := ⟨(HK.out.1.new (Nat.le_refl _) _).drewN 3, HK.out.2.1.set _⟩; have HPm : Hid (Sort.PermIn a (a + L) d dk) := HK.out.2.2; clear hcw hfw HK; generalize (wr.setCell ⟨w.heap.size, 0, none⟩ (.int .u64 (Y : Int))).drewN 3 = W1 at hst ⊢; have hcw : ∀ x, x < d.size → W1.cell? ⟨blk, off + x, none⟩ = some (.int .u64 (G x)) := (fun x hx => by rw [HG.out]; exact (hst.out.1.holds x (by omega)).1); have hfw : ∀ x, x < d.size → W1.frozen? ⟨blk, off + x, none⟩ = false := (fun x hx => (hst.out.1.holds x (by omega)).2); obtain ⟨O, hO⟩ : ∃ O : Nat, O = Y &&& (M - 1) := ⟨_, rfl⟩; have lO : O ≤ M - 1 := (by rw [hO]; exact Nat.and_le_right); have eAnd : bits .and .u64 (Y : Int) ((M : Int) - 1) = (O : Int) := (by rw [show ((M : Int) - 1) = ((M - 1 : Nat) : Int) by omega, bits_and_u64_nat _ _ hY (by omega), hO]); clear hO))
      · have hLO : L ≤ O := by omega
        by_cases hEq : X = a + (O - L)
        all_goals
          go_region
          all_goals go_wp2
          go_roundw
          case rel =>
            refine ⟨t + 1, Y, Sort.swp dk X (a + (O - L)), by rw [HX.out] at *; first | rfl | (congr 1 <;> omega), by omega, hY, by rw [Sort.size_swp]; exact hsk, ?_, ?_, Sort.permIn_trans _ _ _ _ _ HPm.out (Sort.swp_permIn _ _ _ _ _ (by omega) (by omega) (by omega) (by omega) (by omega))⟩
            · (try rw [hEq])
              simp only [HG.out]
              exact (hst.out.1.swap (by omega) (by omega)).drew
            · exact (hst.out.2.other hbz _).other hbz _
          case measure => simp [intOf]; omega
      · have hLO : ¬ L ≤ O := by omega
        by_cases hEq : X = a + O
        all_goals
          go_region
          all_goals go_wp2
          go_roundw
          case rel =>
            refine ⟨t + 1, Y, Sort.swp dk X (a + O), by rw [HX.out] at *; first | rfl | (congr 1 <;> omega), by omega, hY, by rw [Sort.size_swp]; exact hsk, ?_, ?_, Sort.permIn_trans _ _ _ _ _ HPm.out (Sort.swp_permIn _ _ _ _ _ (by omega) (by omega) (by omega) (by omega) (by omega))⟩
            · (try rw [hEq])
              simp only [HG.out]
              exact (hst.out.1.swap (by omega) (by omega)).drew
            · exact (hst.out.2.other hbz _).other hbz _
          case measure => simp [intOf]; omega
    · have htz : decide (((a + L / 4 * 2 - 1 + t : Nat) : Int) ≤ (a : Int) + (L : Int) / 4 * 2 + 1) = false := decide_eq_false (by omega)
      go_wp2
      go_end0
      exact ⟨rfl, dk, HK.out.2.2, HK.out.1⟩
end Go.Proofs.YtikhpbidbcfedaaGreat

