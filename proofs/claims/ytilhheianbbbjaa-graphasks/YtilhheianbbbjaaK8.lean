/- slices.order2Ordered, medianOrdered, medianAdjacentOrdered, choosePivotOrdered at references: where the pivot lies. -/
import Derived.Test.YtilhheianbbbjaaK3
import Derived.Deep.RegionWith
import Derived.Shelf.Small.Bits
import Derived.Shelf.Small.Wraps
import Derived.Shelf.Strconv.Itoa0
import Derived.Shelf.Sort.Plain
import Derived.Shelf.Bits.Mul64
import Derived.Shelf.Slices.Reverse
import Derived.Ground.Names2Prog
import Derived.Shelf.Slices.Clone
import Derived.Shelf.Slices.CompactI
import Derived.Shelf.Slices.SearchI
import Derived.Shelf.Slices.Cells
import Derived.Shelf.Slices.In.SortNone
import Derived.Test.YtilhheianbbbjaaProg
namespace Go.Proofs.Ytilhheianbbbjaa
open Go.RowKit

def Bx (w : World) (sb so : Nat) (s : Int) : Prop := w.cell? ⟨sb, so, none⟩ = some (.int .i64 s) ∧ w.frozen? ⟨sb, so, none⟩ = false
structure PV (w0 : World) (blk off : Nat) (d : Array Int) (sb so : Nat) (s : Int) (w : World) : Prop where
  sr : SR w0 blk off d d w
  bx : Bx w sb so s
theorem Bx.drewN {w : World} {sb so : Nat} {s : Int} (h : Bx w sb so s) (n : Nat) : Bx (w.drewN n) sb so s := h
theorem Bx.set {w : World} {sb so : Nat} {s : Int} (h : Bx w sb so s) (t : Int) : Bx (w.setCell ⟨sb, so, none⟩ (.int .i64 t)) sb so t := by
  obtain ⟨h1, h2⟩ := h
  have e := Sort.putRow_set (Value.int .i64) w sb so #[s] 0 t (by simp)
  have hh : Sort.Holds (Value.int .i64) w sb so #[s] := fun j hj => by
    obtain rfl : j = 0 := by simp at hj; omega
    exact ⟨by simpa using h1, by simpa using h2⟩
  rw [Sort.putRow_self _ _ _ _ _ hh] at e
  have k := Sort.holds_putRow (Value.int .i64) w sb so #[s] (#[s].setIfInBounds 0 t) hh (by simp) 0 (by simp)
  rw [Nat.add_zero] at e k
  unfold Bx
  rw [e]
  exact ⟨by simpa using k.1, k.2⟩

section
variable {w0 w : World} {blk off sb so : Nat} {d : Array Int} {s : Int}

set_option maxRecDepth 100000 in
set_option maxHeartbeats 4000000 in
theorem ord2_ref (cap a b : Nat) (h : PV w0 blk off d sb so s w) (hsb : w0.heap.size ≤ sb) (ha : a < d.size) (hb : b < d.size) (hs0 : 0 ≤ s) (hs : s < 4611686018427387904) :
    Calls Try.prog 90 #[.slice (some ⟨blk, off, none⟩) d.size cap, .int .i64 a, .int .i64 b, .pointer (some ⟨sb, so, none⟩)] w fun e w' =>
      ∃ (x y : Nat) (t : Int), e = .returned (.tuple #[.int .i64 x, .int .i64 y]) ∧ ((x = a ∧ y = b) ∨ (x = b ∧ y = a)) ∧ s ≤ t ∧ t ≤ s + 1 ∧ PV w0 blk off d sb so t w' := by
  obtain ⟨G, hG⟩ : ∃ G : Nat → Int, ∀ t, G t = d[t]! := ⟨fun t => d[t]!, fun _ => rfl⟩
  have hcw : ∀ t, t < d.size → w.cell? ⟨blk, off + t, none⟩ = some (.int .u64 (G t)) := fun t ht => by rw [hG]; exact (h.sr.holds t ht).1
  obtain ⟨cs, fs⟩ := h.bx
  have HP : Hid (PV w0 blk off d sb so s w) := h
  clear hG h
  go_enter Try.func90, Try.ntmps90
  go_wp2_with fail
  go_big_quiet (first | (go_at_call 64; refine Calls.quiet_of_same (less_ref _ _ _)))
  go_wp2
  all_goals go_ret2
  · exact ⟨b, a, s + 1, rfl, .inr ⟨rfl, rfl⟩, by omega, by omega, (HP.out.sr.drewN _).new hsb _, (HP.out.bx.drewN _).set _⟩
  · exact ⟨a, b, s, rfl, .inl ⟨rfl, rfl⟩, by omega, by omega, HP.out.sr.drewN _, HP.out.bx.drewN _⟩

set_option maxRecDepth 100000 in
set_option maxHeartbeats 4000000 in
theorem med_ref (cap a b c : Nat) (h : PV w0 blk off d sb so s w) (hsb : w0.heap.size ≤ sb) (ha : a < d.size) (hb : b < d.size) (hc : c < d.size) (hs0 : 0 ≤ s) (hs : s < 4611686018427387000) :
    Calls Try.prog 84 #[.slice (some ⟨blk, off, none⟩) d.size cap, .int .i64 a, .int .i64 b, .int .i64 c, .pointer (some ⟨sb, so, none⟩)] w fun e w' =>
      ∃ (x : Nat) (t : Int), e = .returned (.int .i64 x) ∧ (x = a ∨ x = b ∨ x = c) ∧ s ≤ t ∧ t ≤ s + 3 ∧ PV w0 blk off d sb so t w' := by
  have HP : Hid (PV w0 blk off d sb so s w) := h
  clear h
  go_enter Try.func84, Try.ntmps84
  go_wp2_with (go_at_call_of 90 (Value.int .i64 (b : Int)); refine (ord2_ref cap a b HP.out hsb ha hb hs0 (by omega)).mono ?_; rintro e w1 ⟨x1, y1, t1, rfl, h1, l1, u1, P1⟩)
  have HP1 : Hid (PV w0 blk off d sb so t1 w1) := P1
  clear P1 HP
  have hx1 : x1 < d.size := by omega
  have hy1 : y1 < d.size := by omega
  go_wp2_with (go_at_call_of 90 (Value.int .i64 (c : Int)); refine (ord2_ref cap y1 c HP1.out hsb hy1 hc (by omega) (by omega)).mono ?_; rintro e w2 ⟨x2, y2, t2, rfl, h2, l2, u2, P2⟩)
  have HP2 : Hid (PV w0 blk off d sb so t2 w2) := P2
  clear P2 HP1
  have hx2 : x2 < d.size := by omega
  go_wp2_with (go_at_call_of 90 (Value.int .i64 (x1 : Int)); refine (ord2_ref cap x1 x2 HP2.out hsb hx1 hx2 (by omega) (by omega)).mono ?_; rintro e w3 ⟨x3, y3, t3, rfl, h3, l3, u3, P3⟩)
  go_ret
  exact ⟨y3, t3, rfl, by omega, by omega, by omega, P3⟩

set_option maxRecDepth 100000 in
set_option maxHeartbeats 4000000 in
theorem madj_ref (cap a : Nat) (h : PV w0 blk off d sb so s w) (hsb : w0.heap.size ≤ sb) (ha0 : 0 < a) (ha : a + 1 < d.size) (hsz : d.size < 4611686018427387904) (hs0 : 0 ≤ s) (hs : s < 4611686018427387000) :
    Calls Try.prog 83 #[.slice (some ⟨blk, off, none⟩) d.size cap, .int .i64 a, .pointer (some ⟨sb, so, none⟩)] w fun e w' =>
      ∃ (x : Nat) (t : Int), e = .returned (.int .i64 x) ∧ (x + 1 = a ∨ x = a ∨ x = a + 1) ∧ s ≤ t ∧ t ≤ s + 3 ∧ PV w0 blk off d sb so t w' := by
  have HP : Hid (PV w0 blk off d sb so s w) := h
  clear h
  have e1 : Hid ((a : Int) - 1 = ((a - 1 : Nat) : Int)) := by show _ = _; omega
  have e2 : Hid ((a : Int) + 1 = ((a + 1 : Nat) : Int)) := by show _ = _; omega
  go_enter Try.func83, Try.ntmps83
  go_wp2_with (go_at_call 84; rw [e1.out, e2.out]; refine (med_ref cap (a - 1) a (a + 1) HP.out hsb (by omega) (by omega) (by omega) hs0 (by omega)).mono ?_; rintro e w1 ⟨x1, t1, rfl, h1, l1, u1, P1⟩)
  go_ret
  exact ⟨x1, t1, rfl, by omega, by omega, by omega, P1⟩
end
end Go.Proofs.Ytilhheianbbbjaa

/- slices.choosePivotOrdered at references: a place within, whatever it is. -/
namespace Go.Proofs.Ytilhheianbbbjaa
open Go.RowKit

set_option maxRecDepth 100000 in
set_option maxHeartbeats 4000000 in
theorem cho_ref (blk off cap a b : Nat) (d : Array Int) (w : World) (hH : Sort.Holds (Value.int .u64) w blk off d) (hblk : blk < w.heap.size) (h12 : 12 < b - a) (hb : b ≤ d.size) (hsz : d.size < 4611686018427387904) :
    Calls Try.prog 61 #[.slice (some ⟨blk, off, none⟩) d.size cap, .int .i64 a, .int .i64 b] w fun e w' =>
      ∃ (p : Nat) (hn : Int), e = .returned (.tuple #[.int .i64 p, .int .i64 hn]) ∧ a ≤ p ∧ p < b ∧ (hn = 0 ∨ hn = 1 ∨ hn = 2) ∧ SR w blk off d d w' := by
  have HS : Hid (SR w blk off d d w) := SR.refl hH hblk
  clear hH hblk
  obtain ⟨I, hI⟩ : ∃ I : Nat, I = a + (b - a) / 4 * 1 := ⟨_, rfl⟩
  obtain ⟨J, hJ⟩ : ∃ J : Nat, J = a + (b - a) / 4 * 2 := ⟨_, rfl⟩
  obtain ⟨K, hK⟩ : ∃ K : Nat, K = a + (b - a) / 4 * 3 := ⟨_, rfl⟩
  have eI : ((a : Int) + ((b : Int) - (a : Int)) / 4) = (I : Int) := by omega
  have eJ : ((a : Int) + ((b : Int) - (a : Int)) / 4 * 2) = (J : Int) := by omega
  have eK : ((a : Int) + ((b : Int) - (a : Int)) / 4 * 3) = (K : Int) := by omega
  have hI1 : a < I ∧ I + 1 < b := by omega
  have hJ1 : a < J ∧ J + 1 < b := by omega
  have hK1 : a < K ∧ K + 1 < b := by omega
  have hIJK : I < J ∧ J < K := by omega
  clear hI hJ hK
  have HP : Hid (PV w blk off d w.heap.size 0 0 (w.alloc (.cells #[.int .i64 0] 3))) := ⟨HS.out.alloc _, by rw [World.cell?_alloc_at _ _ _ _ rfl]; rfl, by rw [World.frozen?_alloc_at _ _ _ _ rfl]⟩
  clear HS
  have h8 : (8 : Int) ≤ (b : Int) - (a : Int) := by omega
  by_cases h50 : 50 ≤ b - a
  · have h5 : (50 : Int) ≤ (b : Int) - (a : Int) := by omega
    go_enter Try.func61, Try.ntmps61
    go_wp2_with (go_at_call_of 83 (Value.int .i64 (I : Int)); refine (madj_ref cap I HP.out (Nat.le_refl _) (by omega) (by omega) hsz (by decide) (by decide)).mono ?_; rintro e w1 ⟨x1, t1, rfl, m1, l1, u1, P1⟩)
    have HP1 : Hid (PV w blk off d w.heap.size 0 t1 w1) := P1
    clear P1 HP
    go_wp2_with (go_at_call_of 83 (Value.int .i64 (J : Int)); refine (madj_ref cap J HP1.out (Nat.le_refl _) (by omega) (by omega) hsz (by omega) (by omega)).mono ?_; rintro e w2 ⟨x2, t2, rfl, m2, l2, u2, P2⟩)
    have HP2 : Hid (PV w blk off d w.heap.size 0 t2 w2) := P2
    clear P2 HP1
    go_wp2_with (go_at_call_of 83 (Value.int .i64 (K : Int)); refine (madj_ref cap K HP2.out (Nat.le_refl _) (by omega) (by omega) hsz (by omega) (by omega)).mono ?_; rintro e w3 ⟨x3, t3, rfl, m3, l3, u3, P3⟩)
    have HP3 : Hid (PV w blk off d w.heap.size 0 t3 w3) := P3
    clear P3 HP2
    go_wp2_with (go_at_call 84; refine (med_ref cap x1 x2 x3 HP3.out (Nat.le_refl _) (by omega) (by omega) (by omega) (by omega) (by omega)).mono ?_; rintro e w4 ⟨p, t4, rfl, m4, l4, u4, P4⟩; have hcb := P4.bx.1; have HP4 : Hid (SR w blk off d d w4) := P4.sr; have hpr : a ≤ p ∧ p < b := (by omega); have M4 : Hid (a ≤ p ∧ p < b) := hpr; clear hpr P4 m4 l4 u4 m1 m2 m3 l1 l2 l3 u1 u2 u3)
    all_goals go_ret2
    all_goals exact ⟨p, _, rfl, M4.out.1, M4.out.2, by decide, HP4.out⟩
  · have h5 : decide ((50 : Int) ≤ (b : Int) - (a : Int)) = false := decide_eq_false (by omega)
    go_enter Try.func61, Try.ntmps61
    go_wp2_with (go_at_call 84; refine (med_ref cap I J K HP.out (Nat.le_refl _) (by omega) (by omega) (by omega) (by decide) (by decide)).mono ?_; rintro e w4 ⟨p, t4, rfl, m4, l4, u4, P4⟩; have hcb := P4.bx.1; have HP4 : Hid (SR w blk off d d w4) := P4.sr; have hpr : a ≤ p ∧ p < b := (by omega); have M4 : Hid (a ≤ p ∧ p < b) := hpr; clear hpr P4 m4 l4 u4)
    all_goals go_ret2
    all_goals exact ⟨p, _, rfl, M4.out.1, M4.out.2, by decide, HP4.out⟩
end Go.Proofs.Ytilhheianbbbjaa

/- Contracts of the library's functions at this translation. -/
namespace Go.Proofs
open Go.Shelf
def Try.lays125_ren : Go.Shelf.Ren := ⟨fun | 125 => 54 | 128 => 67 | 129 => 68 | n => n, fun | 46 => 88 | 3 => 3 | 51 => 102 | 53 => 24 | 4 => 4 | 5 => 5 | 9 => 9 | n => n, fun | n => n⟩
theorem Try.lays125 : Go.Proofs.Lays.n125 Try.prog Try.lays125_ren := {
  mixed := by kernel_rfl
  f125 := Try.func54.trans (congrArg some (by kernel_rfl))
  f128 := Try.func67.trans (congrArg some (by kernel_rfl))
  f129 := Try.func68.trans (congrArg some (by kernel_rfl))
  t3 := Try.underlying3
  a3 := Try.isAgg3
  z3 := Try.sizeOf3
  v3 := Try.zeroValue3
  t4 := Try.underlying4
  a4 := Try.isAgg4
  z4 := Try.sizeOf4
  v4 := Try.zeroValue4
  t5 := Try.underlying5
  a5 := Try.isAgg5
  z5 := Try.sizeOf5
  v5 := Try.zeroValue5
  t9 := Try.underlying9
  a9 := Try.isAgg9
  z9 := Try.sizeOf9
  v9 := Try.zeroValue9
  t46 := Try.underlying88
  a46 := Try.isAgg88
  z46 := Try.sizeOf88
  v46 := Try.zeroValue88
  t51 := Try.underlying102
  a51 := Try.isAgg102
  z51 := Try.sizeOf102
  v51 := Try.zeroValue102
  t53 := Try.underlying24
  a53 := Try.isAgg24
  z53 := Try.sizeOf24
  v53 := Try.zeroValue24 }
theorem Try.bits_Len (x : Int) (w : World) (h0 : 0 ≤ x) (h1 : x ≤ 18446744073709551615) :
    Calls Try.prog 54 #[.int .u64 x] w fun e w' => e = .returned (.int .i64 (Lib.bitLen x.toNat)) ∧ w' = w := Any.bits_Len Try.lays125 x w h0 h1
def Try.lays189_ren : Go.Shelf.Ren := ⟨fun | 189 => 48 | 125 => 54 | 257 => 55 | 128 => 67 | 129 => 68 | 294 => 69 | 295 => 70 | 296 => 71 | 297 => 72 | 298 => 73 | 299 => 74 | 216 => 75 | 300 => 76 | 301 => 77 | 328 => 86 | 329 => 81 | 330 => 82 | 331 => 87 | 332 => 88 | 215 => 89 | 343 => 91 | n => n, fun | 28 => 46 | 3 => 3 | 46 => 88 | 0 => 0 | 51 => 102 | 53 => 24 | 4 => 4 | 183 => 95 | 182 => 94 | 131 => 62 | 5 => 5 | 9 => 9 | 218 => 114 | 222 => 118 | 228 => 123 | 229 => 124 | n => n, fun | n => n⟩
theorem Try.lays189 : Go.Proofs.Lays.n189 Try.prog Try.lays189_ren := {
  mixed := by kernel_rfl
  f125 := Try.func54.trans (congrArg some (by kernel_rfl))
  f128 := Try.func67.trans (congrArg some (by kernel_rfl))
  f129 := Try.func68.trans (congrArg some (by kernel_rfl))
  f189 := Try.func48.trans (congrArg some (by kernel_rfl))
  f215 := Try.func89.trans (congrArg some (by kernel_rfl))
  f216 := Try.func75.trans (congrArg some (by kernel_rfl))
  f257 := Try.func55.trans (congrArg some (by kernel_rfl))
  f294 := Try.func69.trans (congrArg some (by kernel_rfl))
  f295 := Try.func70.trans (congrArg some (by kernel_rfl))
  f296 := Try.func71.trans (congrArg some (by kernel_rfl))
  f297 := Try.func72.trans (congrArg some (by kernel_rfl))
  f298 := Try.func73.trans (congrArg some (by kernel_rfl))
  f299 := Try.func74.trans (congrArg some (by kernel_rfl))
  f300 := Try.func76.trans (congrArg some (by kernel_rfl))
  f301 := Try.func77.trans (congrArg some (by kernel_rfl))
  f328 := Try.func86.trans (congrArg some (by kernel_rfl))
  f329 := Try.func81.trans (congrArg some (by kernel_rfl))
  f330 := Try.func82.trans (congrArg some (by kernel_rfl))
  f331 := Try.func87.trans (congrArg some (by kernel_rfl))
  f332 := Try.func88.trans (congrArg some (by kernel_rfl))
  f343 := Try.func91.trans (congrArg some (by kernel_rfl))
  t0 := Try.underlying0
  a0 := Try.isAgg0
  z0 := Try.sizeOf0
  v0 := Try.zeroValue0
  t3 := Try.underlying3
  a3 := Try.isAgg3
  z3 := Try.sizeOf3
  v3 := Try.zeroValue3
  t4 := Try.underlying4
  a4 := Try.isAgg4
  z4 := Try.sizeOf4
  v4 := Try.zeroValue4
  t5 := Try.underlying5
  a5 := Try.isAgg5
  z5 := Try.sizeOf5
  v5 := Try.zeroValue5
  t9 := Try.underlying9
  a9 := Try.isAgg9
  z9 := Try.sizeOf9
  v9 := Try.zeroValue9
  t28 := Try.underlying46
  a28 := Try.isAgg46
  z28 := Try.sizeOf46
  v28 := Try.zeroValue46
  t46 := Try.underlying88
  a46 := Try.isAgg88
  z46 := Try.sizeOf88
  v46 := Try.zeroValue88
  t51 := Try.underlying102
  a51 := Try.isAgg102
  z51 := Try.sizeOf102
  v51 := Try.zeroValue102
  t53 := Try.underlying24
  a53 := Try.isAgg24
  z53 := Try.sizeOf24
  v53 := Try.zeroValue24
  t131 := Try.underlying62
  a131 := Try.isAgg62
  z131 := Try.sizeOf62
  v131 := Try.zeroValue62
  t182 := Try.underlying94
  a182 := Try.isAgg94
  z182 := Try.sizeOf94
  v182 := Try.zeroValue94
  t183 := Try.underlying95
  a183 := Try.isAgg95
  z183 := Try.sizeOf95
  v183 := Try.zeroValue95
  t218 := Try.underlying114
  a218 := Try.isAgg114
  z218 := Try.sizeOf114
  v218 := Try.zeroValue114
  t222 := Try.underlying118
  a222 := Try.isAgg118
  z222 := Try.sizeOf118
  v222 := Try.zeroValue118
  t228 := Try.underlying123
  a228 := Try.isAgg123
  z228 := Try.sizeOf123
  v228 := Try.zeroValue123
  t229 := Try.underlying124
  a229 := Try.isAgg124
  z229 := Try.sizeOf124
  v229 := Try.zeroValue124 }
open Go.Sort Go.RowKit in
theorem Try.slices_Sort_int (blk off cap : Nat) (zs : List Int) (w : World) (hH : Holds (Value.int .i64) w blk off zs.toArray) (hblk : blk < w.heap.size) (hsz : zs.length < 4611686018427387904) :
    Calls Try.prog 48 #[.slice (some ⟨blk, off, none⟩) zs.length cap] w fun e w' =>
      e = .returned (.tuple #[]) ∧ ∃ n os, w' = grow (putRow (Value.int .i64) (Sort.ahead w n) blk off (zs.mergeSort fun x y => decide (x ≤ y)).toArray) os := Any.slices_Sort_int Try.lays189 blk off cap zs w hH hblk hsz
def Try.lays212_ren : Go.Shelf.Ren := ⟨fun | 212 => 57 | 263 => 78 | 264 => 79 | n => n, fun | 46 => 88 | 51 => 102 | 146 => 110 | 53 => 24 | 148 => 112 | n => n, fun | n => n⟩
theorem Try.lays212 : Go.Proofs.Lays.n212 Try.prog Try.lays212_ren := {
  mixed := by kernel_rfl
  f212 := Try.func57.trans (congrArg some (by kernel_rfl))
  f263 := Try.func78.trans (congrArg some (by kernel_rfl))
  f264 := Try.func79.trans (congrArg some (by kernel_rfl))
  t46 := Try.underlying88
  a46 := Try.isAgg88
  z46 := Try.sizeOf88
  v46 := Try.zeroValue88
  t51 := Try.underlying102
  a51 := Try.isAgg102
  z51 := Try.sizeOf102
  v51 := Try.zeroValue102
  t53 := Try.underlying24
  a53 := Try.isAgg24
  z53 := Try.sizeOf24
  v53 := Try.zeroValue24
  t146 := Try.underlying110
  a146 := Try.isAgg110
  z146 := Try.sizeOf110
  v146 := Try.zeroValue110
  t148 := Try.underlying112
  a148 := Try.isAgg112
  z148 := Try.sizeOf112
  v148 := Try.zeroValue112 }
open Go.RowKit Go.Lib in
theorem Try.bits_Mul (x y : Nat) (hx : x < 18446744073709551616) (hy : y < 18446744073709551616) (w : World) :
    Calls Try.prog 57 #[.int .u64 x, .int .u64 y] w fun e w' => e = .returned (.tuple #[.int .u64 ((x * y / 18446744073709551616 : Nat) : Int), .int .u64 ((x * y % 18446744073709551616 : Nat) : Int)]) ∧ w' = w := Any.bits_Mul Try.lays212 x y hx hy w
def Try.lays112_ren : Go.Shelf.Ren := ⟨fun | 112 => 42 | n => n, fun | 28 => 46 | 3 => 3 | 4 => 4 | 0 => 0 | n => n, fun | n => n⟩
theorem Try.lays112 : Go.Proofs.Lays.n112 Try.prog Try.lays112_ren := {
  mixed := by kernel_rfl
  f112 := Try.func42.trans (congrArg some (by kernel_rfl))
  t0 := Try.underlying0
  a0 := Try.isAgg0
  z0 := Try.sizeOf0
  v0 := Try.zeroValue0
  t3 := Try.underlying3
  a3 := Try.isAgg3
  z3 := Try.sizeOf3
  v3 := Try.zeroValue3
  t4 := Try.underlying4
  a4 := Try.isAgg4
  z4 := Try.sizeOf4
  v4 := Try.zeroValue4
  t28 := Try.underlying46
  a28 := Try.isAgg46
  z28 := Try.sizeOf46
  v28 := Try.zeroValue46 }
open Go.RowKit Go.Lib Go.Sort in
theorem Try.slices_Reverse_int (blk off cap : Nat) (zs : List Int) (w : World) (hH : Holds (Value.int .i64) w blk off zs.toArray) (hsz : zs.length ≤ 9223372036854775807) :
    Calls Try.prog 42 #[.slice (some ⟨blk, off, none⟩) zs.length cap] w fun e w' => e = .returned (.tuple #[]) ∧ ∃ n, w' = putRow (Value.int .i64) (Sort.ahead w n) blk off zs.reverse.toArray := Any.slices_Reverse_int Try.lays112 blk off cap zs w hH hsz
open Go.RowKit Go.Lib Go.Sort in
def Try.laysNm215_ren : Go.Shelf.Ren := ⟨fun | 15 => 45 | n => n, fun | 22 => 46 | 3 => 3 | 4 => 4 | n => n, fun | n => n⟩
theorem Try.laysNm215 : Go.Proofs.Lays2.n15 Try.prog Try.laysNm215_ren := {
  mixed := by kernel_rfl
  f15 := Try.func45.trans (congrArg some (by kernel_rfl))
  t3 := Try.underlying3
  a3 := Try.isAgg3
  z3 := Try.sizeOf3
  v3 := Try.zeroValue3
  t4 := Try.underlying4
  a4 := Try.isAgg4
  z4 := Try.sizeOf4
  v4 := Try.zeroValue4
  t22 := Try.underlying46
  a22 := Try.isAgg46
  z22 := Try.sizeOf46
  v22 := Try.zeroValue46
  i3 := by kernel_rfl }
open Go.RowKit Go.Lib in
theorem Try.slices_Clone_int (b off n c : Nat) (zs : List Int) (w : World) (hz : n ≤ zs.length) (hbig : n * 8 ≤ 140737488355328) (hc : ∀ j, j < zs.length → w.cell? ⟨b, off + j, none⟩ = some (.int .i64 (zs.getD j 0))) :
    Calls Try.prog 45 #[.slice (some ⟨b, off, none⟩) n c] w fun e w' => ∃ v', e = .returned v' ∧ w'.ownsRow w.heap.size 3 1 v' n ((zs.take n).map (Value.int .i64)) ∧ v' ≠ .slice none 0 0 ∧ Below w.heap.size w w' := Any.slices_Clone_int Try.laysNm215 b off n c zs w hz hbig hc
open Go.RowKit Go.Lib in
theorem Try.slices_Clone_int_nil (n c : Nat) (w : World) :
    Calls Try.prog 45 #[.slice none n c] w fun e w' => e = .returned (.slice none 0 0) ∧ w' = w := Any.slices_Clone_int_nil Try.laysNm215 n c w
open Go.RowKit Go.Lib in
theorem Try.slices_Clone_int_zero (a : Addr) (c : Nat) (w : World) :
    Calls Try.prog 45 #[.slice (some a) 0 c] w fun e w' => ∃ v', e = .returned v' ∧ w'.ownsRow w.heap.size 3 1 v' 0 [] ∧ v' ≠ .slice none 0 0 ∧ Below w.heap.size w w' := Any.slices_Clone_int_zero Try.laysNm215 a c w
def Try.laysNm220_ren : Go.Shelf.Ren := ⟨fun | 20 => 49 | n => n, fun | 22 => 46 | 3 => 3 | 4 => 4 | 0 => 0 | n => n, fun | n => n⟩
theorem Try.laysNm220 : Go.Proofs.Lays2.n20 Try.prog Try.laysNm220_ren := {
  mixed := by kernel_rfl
  f20 := Try.func49.trans (congrArg some (by kernel_rfl))
  t0 := Try.underlying0
  a0 := Try.isAgg0
  z0 := Try.sizeOf0
  v0 := Try.zeroValue0
  t3 := Try.underlying3
  a3 := Try.isAgg3
  z3 := Try.sizeOf3
  v3 := Try.zeroValue3
  t4 := Try.underlying4
  a4 := Try.isAgg4
  z4 := Try.sizeOf4
  v4 := Try.zeroValue4
  t22 := Try.underlying46
  a22 := Try.isAgg46
  z22 := Try.sizeOf46
  v22 := Try.zeroValue46
  i3 := by kernel_rfl }
open Go.RowKit Go.Lib Go.Sort in
open Go.RowKit Go.Lib Go.Sort in
theorem Try.slices_Compact_int (blk off cap : Nat) (zs : List Int) (w : World) (hH : Holds (Value.int .i64) w blk off zs.toArray) (hsz : zs.length ≤ 9223372036854775807) (hcap : zs.length ≤ cap) :
    Calls Try.prog 49 #[.slice (some ⟨blk, off, none⟩) zs.length cap] w fun e w' => e = .returned (.slice (some ⟨blk, off, none⟩) (Lib.compact zs).length cap) ∧ ∃ q, w' = putRow (Value.int .i64) (Sort.ahead w q) blk off (Lib.compact zs ++ List.replicate (zs.length - (Lib.compact zs).length) 0).toArray := Any.slices_Compact_int Try.laysNm220 blk off cap zs w hH hsz hcap
open Go.RowKit Go.Lib Go.Sort in
theorem Try.slices_Compact_int_empty (a : Option Addr) (cap : Nat) (w : World) :
    Calls Try.prog 49 #[.slice a 0 cap] w fun e w' => e = .returned (.slice a 0 cap) ∧ w' = w := Any.slices_Compact_int_empty Try.laysNm220 a cap w
open Go.RowKit Go.Lib Go.Sort in
open Go.RowKit Go.Lib Go.Sort in
open Go.RowKit Go.Sort in
theorem Try.slices_Sort_int_none (p : Option Addr) (cap : Nat) (w : World) :
    Calls Try.prog 48 #[.slice p 0 cap] w fun e w' => e = .returned (.tuple #[]) ∧ w' = w := Any.slices_Sort_int_none Try.lays189 p cap w
end Go.Proofs

