/- slices.order2Ordered, medianOrdered, medianAdjacentOrdered, choosePivotOrdered at references: where the pivot lies. -/
import Derived.Test.YtghfikeakfiopaaK3
import Derived.Deep.RegionWith
import Derived.Shelf.Small.Bits
import Derived.Shelf.Strconv.Itoa0
import Derived.Shelf.Sort.Plain
import Derived.Ground.Names2Prog
import Derived.Shelf.Slices.CompactI
import Derived.Shelf.Slices.Cells
import Derived.Shelf.Slices.In.SortNone
import Derived.Test.YtghfikeakfiopaaProg
namespace Go.Proofs.Ytghfikeakfiopaa
open Go.RowKit

def Bx (w : World) (sb so : Nat) (s : Int) : Prop := w.cell? ⟨sb, so, none⟩ = some (.int .i64 s) ∧ w.frozen? ⟨sb, so, none⟩ = false
structure PV (w0 : World) (blk off : Nat) (d : Array Int) (sb so : Nat) (s : Int) (w : World) : Prop where
  sr : SR w0 blk off d d w
  bx : Bx w sb so s
theorem Bx.drewN {w : World} {sb so : Nat} {s : Int} (h : Bx w sb so s) (n : Nat) : Bx (w.drewN n) sb so s := h
theorem Bx.set {w : World} {sb so : Nat} {s : Int} (h : Bx w sb so s) (t : Int) : Bx (w.setCell ⟨sb, so, none⟩ (.int .i64 t)) sb so t := by
  obtain ⟨h1, h2⟩ := h
  have e := Sort.putRow_set (Value.int .i64) w sb so #[s] 0 t (by simp)
  have hh : Sort.Holds (Value.int .i64) w sb so #[s] := fun j hj => by
    obtain rfl : j = 0 := by simp at hj; omega
    exact ⟨by simpa using h1, by simpa using h2⟩
  rw [Sort.putRow_self _ _ _ _ _ hh] at e
  have k := Sort.holds_putRow (Value.int .i64) w sb so #[s] (#[s].setIfInBounds 0 t) hh (by simp) 0 (by simp)
  rw [Nat.add_zero] at e k
  unfold Bx
  rw [e]
  exact ⟨by simpa using k.1, k.2⟩

section
variable {w0 w : World} {blk off sb so : Nat} {d : Array Int} {s : Int}

set_option maxRecDepth 100000 in
set_option maxHeartbeats 4000000 in
theorem ord2_ref (cap a b : Nat) (h : PV w0 blk off d sb so s w) (hsb : w0.heap.size ≤ sb) (ha : a < d.size) (hb : b < d.size) (hs0 : 0 ≤ s) (hs : s < 4611686018427387904) :
    Calls Try.prog 72 #[.slice (some ⟨blk, off, none⟩) d.size cap, .int .i64 a, .int .i64 b, .pointer (some ⟨sb, so, none⟩)] w fun e w' =>
      ∃ (x y : Nat) (t : Int), e = .returned (.tuple #[.int .i64 x, .int .i64 y]) ∧ ((x = a ∧ y = b) ∨ (x = b ∧ y = a)) ∧ s ≤ t ∧ t ≤ s + 1 ∧ PV w0 blk off d sb so t w' := by
  obtain ⟨G, hG⟩ : ∃ G : Nat → Int, ∀ t, G t = d[t]! := ⟨fun t => d[t]!, fun _ => rfl⟩
  have hcw : ∀ t, t < d.size → w.cell? ⟨blk, off + t, none⟩ = some (.int .u64 (G t)) := fun t ht => by rw [hG]; exact (h.sr.holds t ht).1
  obtain ⟨cs, fs⟩ := h.bx
  have HP : Hid (PV w0 blk off d sb so s w) := h
  clear hG h
  go_enter Try.func72, Try.ntmps72
  go_wp2_with fail
  go_big_quiet (first | (go_at_call 48; refine Calls.quiet_of_same (less_ref _ _ _)))
  go_wp2
  all_goals go_ret2
  · exact ⟨b, a, s + 1, rfl, .inr ⟨rfl, rfl⟩, by omega, by omega, (HP.out.sr.drewN _).new hsb _, (HP.out.bx.drewN _).set _⟩
  · exact ⟨a, b, s, rfl, .inl ⟨rfl, rfl⟩, by omega, by omega, HP.out.sr.drewN _, HP.out.bx.drewN _⟩

set_option maxRecDepth 100000 in
set_option maxHeartbeats 4000000 in
theorem med_ref (cap a b c : Nat) (h : PV w0 blk off d sb so s w) (hsb : w0.heap.size ≤ sb) (ha : a < d.size) (hb : b < d.size) (hc : c < d.size) (hs0 : 0 ≤ s) (hs : s < 4611686018427387000) :
    Calls Try.prog 66 #[.slice (some ⟨blk, off, none⟩) d.size cap, .int .i64 a, .int .i64 b, .int .i64 c, .pointer (some ⟨sb, so, none⟩)] w fun e w' =>
      ∃ (x : Nat) (t : Int), e = .returned (.int .i64 x) ∧ (x = a ∨ x = b ∨ x = c) ∧ s ≤ t ∧ t ≤ s + 3 ∧ PV w0 blk off d sb so t w' := by
  have HP : Hid (PV w0 blk off d sb so s w) := h
  clear h
  go_enter Try.func66, Try.ntmps66
  go_wp2_with (go_at_call_of 72 (Value.int .i64 (b : Int)); refine (ord2_ref cap a b HP.out hsb ha hb hs0 (by omega)).mono ?_; rintro e w1 ⟨x1, y1, t1, rfl, h1, l1, u1, P1⟩)
  have HP1 : Hid (PV w0 blk off d sb so t1 w1) := P1
  clear P1 HP
  have hx1 : x1 < d.size := by omega
  have hy1 : y1 < d.size := by omega
  go_wp2_with (go_at_call_of 72 (Value.int .i64 (c : Int)); refine (ord2_ref cap y1 c HP1.out hsb hy1 hc (by omega) (by omega)).mono ?_; rintro e w2 ⟨x2, y2, t2, rfl, h2, l2, u2, P2⟩)
  have HP2 : Hid (PV w0 blk off d sb so t2 w2) := P2
  clear P2 HP1
  have hx2 : x2 < d.size := by omega
  go_wp2_with (go_at_call_of 72 (Value.int .i64 (x1 : Int)); refine (ord2_ref cap x1 x2 HP2.out hsb hx1 hx2 (by omega) (by omega)).mono ?_; rintro e w3 ⟨x3, y3, t3, rfl, h3, l3, u3, P3⟩)
  go_ret
  exact ⟨y3, t3, rfl, by omega, by omega, by omega, P3⟩

set_option maxRecDepth 100000 in
set_option maxHeartbeats 4000000 in
theorem madj_ref (cap a : Nat) (h : PV w0 blk off d sb so s w) (hsb : w0.heap.size ≤ sb) (ha0 : 0 < a) (ha : a + 1 < d.size) (hsz : d.size < 4611686018427387904) (hs0 : 0 ≤ s) (hs : s < 4611686018427387000) :
    Calls Try.prog 65 #[.slice (some ⟨blk, off, none⟩) d.size cap, .int .i64 a, .pointer (some ⟨sb, so, none⟩)] w fun e w' =>
      ∃ (x : Nat) (t : Int), e = .returned (.int .i64 x) ∧ (x + 1 = a ∨ x = a ∨ x = a + 1) ∧ s ≤ t ∧ t ≤ s + 3 ∧ PV w0 blk off d sb so t w' := by
  have HP : Hid (PV w0 blk off d sb so s w) := h
  clear h
  have e1 : Hid ((a : Int) - 1 = ((a - 1 : Nat) : Int)) := by show _ = _; omega
  have e2 : Hid ((a : Int) + 1 = ((a + 1 : Nat) : Int)) := by show _ = _; omega
  go_enter Try.func65, Try.ntmps65
  go_wp2_with (go_at_call 66; rw [e1.out, e2.out]; refine (med_ref cap (a - 1) a (a + 1) HP.out hsb (by omega) (by omega) (by omega) hs0 (by omega)).mono ?_; rintro e w1 ⟨x1, t1, rfl, h1, l1, u1, P1⟩)
  go_ret
  exact ⟨x1, t1, rfl, by omega, by omega, by omega, P1⟩
end
end Go.Proofs.Ytghfikeakfiopaa

/- slices.choosePivotOrdered at references: a place within, whatever it is. -/
namespace Go.Proofs.Ytghfikeakfiopaa
open Go.RowKit

set_option maxRecDepth 100000 in
set_option maxHeartbeats 4000000 in
theorem cho_ref (blk off cap a b : Nat) (d : Array Int) (w : World) (hH : Sort.Holds (Value.int .u64) w blk off d) (hblk : blk < w.heap.size) (h12 : 12 < b - a) (hb : b ≤ d.size) (hsz : d.size < 4611686018427387904) :
    Calls Try.prog 45 #[.slice (some ⟨blk, off, none⟩) d.size cap, .int .i64 a, .int .i64 b] w fun e w' =>
      ∃ (p : Nat) (hn : Int), e = .returned (.tuple #[.int .i64 p, .int .i64 hn]) ∧ a ≤ p ∧ p < b ∧ (hn = 0 ∨ hn = 1 ∨ hn = 2) ∧ SR w blk off d d w' := by
  have HS : Hid (SR w blk off d d w) := SR.refl hH hblk
  clear hH hblk
  obtain ⟨I, hI⟩ : ∃ I : Nat, I = a + (b - a) / 4 * 1 := ⟨_, rfl⟩
  obtain ⟨J, hJ⟩ : ∃ J : Nat, J = a + (b - a) / 4 * 2 := ⟨_, rfl⟩
  obtain ⟨K, hK⟩ : ∃ K : Nat, K = a + (b - a) / 4 * 3 := ⟨_, rfl⟩
  have eI : ((a : Int) + ((b : Int) - (a : Int)) / 4) = (I : Int) := by omega
  have eJ : ((a : Int) + ((b : Int) - (a : Int)) / 4 * 2) = (J : Int) := by omega
  have eK : ((a : Int) + ((b : Int) - (a : Int)) / 4 * 3) = (K : Int) := by omega
  have hI1 : a < I ∧ I + 1 < b := by omega
  have hJ1 : a < J ∧ J + 1 < b := by omega
  have hK1 : a < K ∧ K + 1 < b := by omega
  have hIJK : I < J ∧ J < K := by omega
  clear hI hJ hK
  have HP : Hid (PV w blk off d w.heap.size 0 0 (w.alloc (.cells #[.int .i64 0] 3))) := ⟨HS.out.alloc _, by rw [World.cell?_alloc_at _ _ _ _ rfl]; rfl, by rw [World.frozen?_alloc_at _ _ _ _ rfl]⟩
  clear HS
  have h8 : (8 : Int) ≤ (b : Int) - (a : Int) := by omega
  by_cases h50 : 50 ≤ b - a
  · have h5 : (50 : Int) ≤ (b : Int) - (a : Int) := by omega
    go_enter Try.func45, Try.ntmps45
    go_wp2_with (go_at_call_of 65 (Value.int .i64 (I : Int)); refine (madj_ref cap I HP.out (Nat.le_refl _) (by omega) (by omega) hsz (by decide) (by decide)).mono ?_; rintro e w1 ⟨x1, t1, rfl, m1, l1, u1, P1⟩)
    have HP1 : Hid (PV w blk off d w.heap.size 0 t1 w1) := P1
    clear P1 HP
    go_wp2_with (go_at_call_of 65 (Value.int .i64 (J : Int)); refine (madj_ref cap J HP1.out (Nat.le_refl _) (by omega) (by omega) hsz (by omega) (by omega)).mono ?_; rintro e w2 ⟨x2, t2, rfl, m2, l2, u2, P2⟩)
    have HP2 : Hid (PV w blk off d w.heap.size 0 t2 w2) := P2
    clear P2 HP1
    go_wp2_with (go_at_call_of 65 (Value.int .i64 (K : Int)); refine (madj_ref cap K HP2.out (Nat.le_refl _) (by omega) (by omega) hsz (by omega) (by omega)).mono ?_; rintro e w3 ⟨x3, t3, rfl, m3, l3, u3, P3⟩)
    have HP3 : Hid (PV w blk off d w.heap.size 0 t3 w3) := P3
    clear P3 HP2
    go_wp2_with (go_at_call 66; refine (med_ref cap x1 x2 x3 HP3.out (Nat.le_refl _) (by omega) (by omega) (by omega) (by omega) (by omega)).mono ?_; rintro e w4 ⟨p, t4, rfl, m4, l4, u4, P4⟩; have hcb := P4.bx.1; have HP4 : Hid (SR w blk off d d w4) := P4.sr; have hpr : a ≤ p ∧ p < b := (by omega); have M4 : Hid (a ≤ p ∧ p < b) := hpr; clear hpr P4 m4 l4 u4 m1 m2 m3 l1 l2 l3 u1 u2 u3)
    all_goals go_ret2
    all_goals exact ⟨p, _, rfl, M4.out.1, M4.out.2, by decide, HP4.out⟩
  · have h5 : decide ((50 : Int) ≤ (b : Int) - (a : Int)) = false := decide_eq_false (by omega)
    go_enter Try.func45, Try.ntmps45
    go_wp2_with (go_at_call 66; refine (med_ref cap I J K HP.out (Nat.le_refl _) (by omega) (by omega) (by omega) (by decide) (by decide)).mono ?_; rintro e w4 ⟨p, t4, rfl, m4, l4, u4, P4⟩; have hcb := P4.bx.1; have HP4 : Hid (SR w blk off d d w4) := P4.sr; have hpr : a ≤ p ∧ p < b := (by omega); have M4 : Hid (a ≤ p ∧ p < b) := hpr; clear hpr P4 m4 l4 u4)
    all_goals go_ret2
    all_goals exact ⟨p, _, rfl, M4.out.1, M4.out.2, by decide, HP4.out⟩
end Go.Proofs.Ytghfikeakfiopaa

/- Contracts of the library's functions at this translation. -/
namespace Go.Proofs
open Go.Shelf
def Try.lays125_ren : Go.Shelf.Ren := ⟨fun | 125 => 40 | 128 => 51 | 129 => 52 | n => n, fun | 46 => 86 | 3 => 3 | 51 => 97 | 53 => 35 | 4 => 4 | 5 => 5 | 9 => 9 | n => n, fun | n => n⟩
theorem Try.lays125 : Go.Proofs.Lays.n125 Try.prog Try.lays125_ren := {
  mixed := by kernel_rfl
  f125 := Try.func40.trans (congrArg some (by kernel_rfl))
  f128 := Try.func51.trans (congrArg some (by kernel_rfl))
  f129 := Try.func52.trans (congrArg some (by kernel_rfl))
  t3 := Try.underlying3
  a3 := Try.isAgg3
  z3 := Try.sizeOf3
  v3 := Try.zeroValue3
  t4 := Try.underlying4
  a4 := Try.isAgg4
  z4 := Try.sizeOf4
  v4 := Try.zeroValue4
  t5 := Try.underlying5
  a5 := Try.isAgg5
  z5 := Try.sizeOf5
  v5 := Try.zeroValue5
  t9 := Try.underlying9
  a9 := Try.isAgg9
  z9 := Try.sizeOf9
  v9 := Try.zeroValue9
  t46 := Try.underlying86
  a46 := Try.isAgg86
  z46 := Try.sizeOf86
  v46 := Try.zeroValue86
  t51 := Try.underlying97
  a51 := Try.isAgg97
  z51 := Try.sizeOf97
  v51 := Try.zeroValue97
  t53 := Try.underlying35
  a53 := Try.isAgg35
  z53 := Try.sizeOf35
  v53 := Try.zeroValue35 }
theorem Try.bits_Len (x : Int) (w : World) (h0 : 0 ≤ x) (h1 : x ≤ 18446744073709551615) :
    Calls Try.prog 40 #[.int .u64 x] w fun e w' => e = .returned (.int .i64 (Lib.bitLen x.toNat)) ∧ w' = w := Any.bits_Len Try.lays125 x w h0 h1
def Try.lays189_ren : Go.Shelf.Ren := ⟨fun | 189 => 37 | 125 => 40 | 257 => 41 | 128 => 51 | 129 => 52 | 294 => 53 | 295 => 54 | 296 => 55 | 297 => 56 | 298 => 57 | 299 => 58 | 216 => 59 | 300 => 60 | 301 => 61 | 328 => 68 | 329 => 63 | 330 => 64 | 331 => 69 | 332 => 70 | 215 => 71 | 343 => 73 | n => n, fun | 28 => 52 | 3 => 3 | 46 => 86 | 0 => 0 | 51 => 97 | 53 => 35 | 4 => 4 | 183 => 90 | 182 => 89 | 131 => 80 | 5 => 5 | 9 => 9 | 218 => 105 | 222 => 109 | 228 => 113 | 229 => 114 | n => n, fun | n => n⟩
theorem Try.lays189 : Go.Proofs.Lays.n189 Try.prog Try.lays189_ren := {
  mixed := by kernel_rfl
  f125 := Try.func40.trans (congrArg some (by kernel_rfl))
  f128 := Try.func51.trans (congrArg some (by kernel_rfl))
  f129 := Try.func52.trans (congrArg some (by kernel_rfl))
  f189 := Try.func37.trans (congrArg some (by kernel_rfl))
  f215 := Try.func71.trans (congrArg some (by kernel_rfl))
  f216 := Try.func59.trans (congrArg some (by kernel_rfl))
  f257 := Try.func41.trans (congrArg some (by kernel_rfl))
  f294 := Try.func53.trans (congrArg some (by kernel_rfl))
  f295 := Try.func54.trans (congrArg some (by kernel_rfl))
  f296 := Try.func55.trans (congrArg some (by kernel_rfl))
  f297 := Try.func56.trans (congrArg some (by kernel_rfl))
  f298 := Try.func57.trans (congrArg some (by kernel_rfl))
  f299 := Try.func58.trans (congrArg some (by kernel_rfl))
  f300 := Try.func60.trans (congrArg some (by kernel_rfl))
  f301 := Try.func61.trans (congrArg some (by kernel_rfl))
  f328 := Try.func68.trans (congrArg some (by kernel_rfl))
  f329 := Try.func63.trans (congrArg some (by kernel_rfl))
  f330 := Try.func64.trans (congrArg some (by kernel_rfl))
  f331 := Try.func69.trans (congrArg some (by kernel_rfl))
  f332 := Try.func70.trans (congrArg some (by kernel_rfl))
  f343 := Try.func73.trans (congrArg some (by kernel_rfl))
  t0 := Try.underlying0
  a0 := Try.isAgg0
  z0 := Try.sizeOf0
  v0 := Try.zeroValue0
  t3 := Try.underlying3
  a3 := Try.isAgg3
  z3 := Try.sizeOf3
  v3 := Try.zeroValue3
  t4 := Try.underlying4
  a4 := Try.isAgg4
  z4 := Try.sizeOf4
  v4 := Try.zeroValue4
  t5 := Try.underlying5
  a5 := Try.isAgg5
  z5 := Try.sizeOf5
  v5 := Try.zeroValue5
  t9 := Try.underlying9
  a9 := Try.isAgg9
  z9 := Try.sizeOf9
  v9 := Try.zeroValue9
  t28 := Try.underlying52
  a28 := Try.isAgg52
  z28 := Try.sizeOf52
  v28 := Try.zeroValue52
  t46 := Try.underlying86
  a46 := Try.isAgg86
  z46 := Try.sizeOf86
  v46 := Try.zeroValue86
  t51 := Try.underlying97
  a51 := Try.isAgg97
  z51 := Try.sizeOf97
  v51 := Try.zeroValue97
  t53 := Try.underlying35
  a53 := Try.isAgg35
  z53 := Try.sizeOf35
  v53 := Try.zeroValue35
  t131 := Try.underlying80
  a131 := Try.isAgg80
  z131 := Try.sizeOf80
  v131 := Try.zeroValue80
  t182 := Try.underlying89
  a182 := Try.isAgg89
  z182 := Try.sizeOf89
  v182 := Try.zeroValue89
  t183 := Try.underlying90
  a183 := Try.isAgg90
  z183 := Try.sizeOf90
  v183 := Try.zeroValue90
  t218 := Try.underlying105
  a218 := Try.isAgg105
  z218 := Try.sizeOf105
  v218 := Try.zeroValue105
  t222 := Try.underlying109
  a222 := Try.isAgg109
  z222 := Try.sizeOf109
  v222 := Try.zeroValue109
  t228 := Try.underlying113
  a228 := Try.isAgg113
  z228 := Try.sizeOf113
  v228 := Try.zeroValue113
  t229 := Try.underlying114
  a229 := Try.isAgg114
  z229 := Try.sizeOf114
  v229 := Try.zeroValue114 }
open Go.Sort Go.RowKit in
theorem Try.slices_Sort_int (blk off cap : Nat) (zs : List Int) (w : World) (hH : Holds (Value.int .i64) w blk off zs.toArray) (hblk : blk < w.heap.size) (hsz : zs.length < 4611686018427387904) :
    Calls Try.prog 37 #[.slice (some ⟨blk, off, none⟩) zs.length cap] w fun e w' =>
      e = .returned (.tuple #[]) ∧ ∃ n os, w' = grow (putRow (Value.int .i64) (Sort.ahead w n) blk off (zs.mergeSort fun x y => decide (x ≤ y)).toArray) os := Any.slices_Sort_int Try.lays189 blk off cap zs w hH hblk hsz
def Try.laysNm220_ren : Go.Shelf.Ren := ⟨fun | 20 => 38 | n => n, fun | 22 => 52 | 3 => 3 | 4 => 4 | 0 => 0 | n => n, fun | n => n⟩
theorem Try.laysNm220 : Go.Proofs.Lays2.n20 Try.prog Try.laysNm220_ren := {
  mixed := by kernel_rfl
  f20 := Try.func38.trans (congrArg some (by kernel_rfl))
  t0 := Try.underlying0
  a0 := Try.isAgg0
  z0 := Try.sizeOf0
  v0 := Try.zeroValue0
  t3 := Try.underlying3
  a3 := Try.isAgg3
  z3 := Try.sizeOf3
  v3 := Try.zeroValue3
  t4 := Try.underlying4
  a4 := Try.isAgg4
  z4 := Try.sizeOf4
  v4 := Try.zeroValue4
  t22 := Try.underlying52
  a22 := Try.isAgg52
  z22 := Try.sizeOf52
  v22 := Try.zeroValue52
  i3 := by kernel_rfl }
open Go.RowKit Go.Lib Go.Sort in
open Go.RowKit Go.Lib Go.Sort in
theorem Try.slices_Compact_int (blk off cap : Nat) (zs : List Int) (w : World) (hH : Holds (Value.int .i64) w blk off zs.toArray) (hsz : zs.length ≤ 9223372036854775807) (hcap : zs.length ≤ cap) :
    Calls Try.prog 38 #[.slice (some ⟨blk, off, none⟩) zs.length cap] w fun e w' => e = .returned (.slice (some ⟨blk, off, none⟩) (Lib.compact zs).length cap) ∧ ∃ q, w' = putRow (Value.int .i64) (Sort.ahead w q) blk off (Lib.compact zs ++ List.replicate (zs.length - (Lib.compact zs).length) 0).toArray := Any.slices_Compact_int Try.laysNm220 blk off cap zs w hH hsz hcap
open Go.RowKit Go.Lib Go.Sort in
theorem Try.slices_Compact_int_empty (a : Option Addr) (cap : Nat) (w : World) :
    Calls Try.prog 38 #[.slice a 0 cap] w fun e w' => e = .returned (.slice a 0 cap) ∧ w' = w := Any.slices_Compact_int_empty Try.laysNm220 a cap w
open Go.RowKit Go.Lib Go.Sort in
open Go.RowKit Go.Sort in
theorem Try.slices_Sort_int_none (p : Option Addr) (cap : Nat) (w : World) :
    Calls Try.prog 37 #[.slice p 0 cap] w fun e w' => e = .returned (.tuple #[]) ∧ w' = w := Any.slices_Sort_int_none Try.lays189 p cap w
end Go.Proofs

