/- slices.breakPatternsOrdered at references: some elements change places, whichever they are. -/
import Derived.Test.YtikhpbidbcfedaaGreatKk3
import Derived.Test.YtikhpbidbcfedaaGreatKk8
import Derived.Laws.Bits64b
import Derived.Test.YtikhpbidbcfedaaGreatKk1
namespace Go.Proofs.YtikhpbidbcfedaaGreat
open Go.RowKit

set_option maxRecDepth 100000 in
set_option maxHeartbeats 4000000 in
theorem pow2_ref (n : Nat) (h0 : 0 < n) (hn : n < 4611686018427387904) (w : World) :
    Calls Tryz.prog 105 #[.int .i64 n] w fun e w' => ∃ M : Nat, e = .returned (.int .u64 M) ∧ w' = w ∧ 1 ≤ M ∧ M ≤ 2 * n := by
  obtain ⟨k, hk⟩ : ∃ k, k = Sort.bitsLen n := ⟨_, rfl⟩
  have hLen : ∀ W, Calls Tryz.prog 60 #[.int .u64 (n : Int)] W fun e w' => e = .returned (.int .i64 (k : Nat)) ∧ w' = W := fun W => by
    have h := Tryz.bits_Len (n : Int) W (by omega) (by omega)
    rw [Int.toNat_natCast, bitLen_eq _ (by omega), ← hk] at h; exact h
  have hk2 : k ≤ 62 := by rw [hk]; exact (Sort.bitsLen_le_iff n 62).2 (by omega)
  have hp := wrap_two_pow k hk2
  have HM : Hid (1 <<< k ≤ 2 * n) := by show _ ≤ _; rw [Nat.one_shiftLeft, hk]; exact Sort.two_pow_bitsLen_le h0
  have HM1 : Hid (1 ≤ 1 <<< k) := by show _ ≤ _; rw [Nat.one_shiftLeft]; exact Nat.two_pow_pos _
  clear hk
  go_enter Tryz.func105, Tryz.ntmps105
  go_wp2_with (first | (go_at_call 60; refine (hLen _).mono ?_; rintro e w' ⟨rfl, rfl⟩))
  go_ret
  exact ⟨1 <<< k, rfl, rfl, HM1.out, HM.out⟩

set_option maxRecDepth 100000 in
set_option maxHeartbeats 4000000 in
theorem next_ref (rb ro X : Nat) (hX : X < 18446744073709551616) (w : World) (hc : w.cell? ⟨rb, ro, none⟩ = some (.int .u64 X)) (hf : w.frozen? ⟨rb, ro, none⟩ = false) :
    Calls Tryz.prog 106 #[.pointer (some ⟨rb, ro, none⟩)] w fun e w' => ∃ Y : Nat, e = .returned (.int .u64 Y) ∧ Y < 18446744073709551616 ∧ w' = (w.setCell ⟨rb, ro, none⟩ (.int .u64 Y)).drewN 3 := by
  obtain ⟨A, hA⟩ : ∃ A : Nat, A = X ^^^ (X * 8192 % 18446744073709551616) := ⟨_, rfl⟩
  obtain ⟨B, hB⟩ : ∃ B : Nat, B = A ^^^ (A / 128) := ⟨_, rfl⟩
  obtain ⟨C, hC⟩ : ∃ C : Nat, C = B ^^^ (B * 131072 % 18446744073709551616) := ⟨_, rfl⟩
  have lA : A < 18446744073709551616 := by rw [hA]; exact Nat.xor_lt_two_pow (n := 64) (by omega) (by omega)
  have lB : B < 18446744073709551616 := by rw [hB]; exact Nat.xor_lt_two_pow (n := 64) (by omega) (by omega)
  have lC : C < 18446744073709551616 := by rw [hC]; exact Nat.xor_lt_two_pow (n := 64) (by omega) (by omega)
  have e1 : bits .xor .u64 (X : Int) (IntKind.u64.wrap ((X : Int) * 8192)) = (A : Int) := by
    rw [IntKind.wrap_u64, show ((X : Int) * 8192 % 18446744073709551616) = ((X * 8192 % 18446744073709551616 : Nat) : Int) by omega, bits_xor_u64_nat _ _ hX (by omega), hA]
  have e2 : bits .xor .u64 (A : Int) ((A : Int) / 128) = (B : Int) := by
    rw [show ((A : Int) / 128) = ((A / 128 : Nat) : Int) by omega, bits_xor_u64_nat _ _ lA (by omega), hB]
  have e3 : bits .xor .u64 (B : Int) (IntKind.u64.wrap ((B : Int) * 131072)) = (C : Int) := by
    rw [IntKind.wrap_u64, show ((B : Int) * 131072 % 18446744073709551616) = ((B * 131072 % 18446744073709551616 : Nat) : Int) by omega, bits_xor_u64_nat _ _ lB (by omega), hC]
  clear hA hB hC
  have HC : Hid (C < 18446744073709551616) := lC
  clear lC
  have hss : ∀ v v', (w.setCell ⟨rb, ro, none⟩ v).setCell ⟨rb, ro, none⟩ v' = w.setCell ⟨rb, ro, none⟩ v' := fun v v' => by
    rw [Sort.setCell_eq, Sort.setCell_eq, Sort.mapBlock_mapBlock, Sort.setCell_eq]
    congr 1; funext c; simp
  go_enter Tryz.func106, Tryz.ntmps106
  go_wp2
  go_region
  all_goals go_wp2
  all_goals go_region
  all_goals go_wp2
  all_goals go_region
  all_goals go_wp2
  go_ret
  exact ⟨C, rfl, HC.out, rfl⟩

def Gx (w : World) (sb : Nat) (s : Int) : Prop := w.cell? ⟨sb, 0, none⟩ = some (.int .u64 s) ∧ w.frozen? ⟨sb, 0, none⟩ = false
theorem Gx.set {w : World} {sb : Nat} {s : Int} (h : Gx w sb s) (t : Int) : Gx (w.setCell ⟨sb, 0, none⟩ (.int .u64 t)) sb t := by
  obtain ⟨h1, h2⟩ := h
  have hh : Sort.Holds (Value.int .u64) w sb 0 #[s] := fun j hj => by
    obtain rfl : j = 0 := by simp at hj; omega
    exact ⟨by simpa using h1, by simpa using h2⟩
  have e := Sort.putRow_set (Value.int .u64) w sb 0 #[s] 0 t (by simp)
  rw [Sort.putRow_self _ _ _ _ _ hh] at e
  have k := Sort.holds_putRow (Value.int .u64) w sb 0 #[s] (#[s].setIfInBounds 0 t) hh (by simp) 0 (by simp)
  rw [Nat.add_zero] at e k
  unfold Gx
  rw [e]
  exact ⟨by simpa using k.1, k.2⟩
theorem Gx.other {w : World} {sb blk o : Nat} {s : Int} (h : Gx w sb s) (hb : blk ≠ sb) (v : Value) : Gx (w.setCell ⟨blk, o, none⟩ v) sb s := by
  have e : (w.setCell ⟨blk, o, none⟩ v).heap[sb]? = w.heap[sb]? := Below.heap_setCell w _ v sb (fun h => hb h.symm)
  unfold Gx
  rw [World.cell?_of_block (w := w) e, World.frozen?_of_block (w := w) e]
  exact h

set_option maxRecDepth 100000 in
set_option maxHeartbeats 8000000 in
theorem brk_ref (blk off cap a L : Nat) (d : Array Int) (w : World) (hH : Sort.Holds (Value.int .u64) w blk off d) (hblk : blk < w.heap.size) (h8 : 8 ≤ L) (hb : a + L ≤ d.size) (hsz : d.size < 4611686018427387904) :
    Calls Tryz.prog 87 #[.slice (some ⟨blk, off, none⟩) d.size cap, .int .i64 a, .int .i64 ((a + L : Nat) : Int)] w fun e w' =>
      e = .returned (.tuple #[]) ∧ ∃ d', Sort.PermIn a (a + L) d d' ∧ SR w blk off d d' w' := by
  have HS : Hid (SR w blk off d d w) := SR.refl hH hblk
  have HS0 : Hid (SR w blk off d d (w.alloc (.cells #[.int .u64 (L : Int)] 131)) ∧ Gx (w.alloc (.cells #[.int .u64 (L : Int)] 131)) w.heap.size L) := ⟨HS.out.alloc _, by rw [World.cell?_alloc_at _ _ _ _ rfl]; rfl, by rw [World.frozen?_alloc_at _ _ _ _ rfl]⟩
  clear hH HS
  go_enter Tryz.func87, Tryz.ntmps87
  go_wp2_with (first | (go_at_call 105; rw [show ((a : Int) + (L : Int) - (a : Int)) = (L : Int) by omega]; refine (pow2_ref L (by omega) (by omega) _).mono ?_; rintro e w' ⟨M, rfl, rfl, hM1, hM2⟩))
  go_loopw [9] (fun vi wr => ∃ (t : Nat) (r : Nat) (dk : Array Int), vi = .int .i64 ((a + L / 4 * 2 - 1 + t : Nat) : Int) ∧ t ≤ 3 ∧ r < 18446744073709551616 ∧ dk.size = d.size ∧
      Hid (SR w blk off d dk wr ∧ Gx wr w.heap.size r ∧ Sort.PermIn a (a + L) d dk)) (fun vi _ => a + L / 4 * 2 + 3 - (intOf vi).toNat)
  case atStart => exact ⟨0, L, d, by congr 1; omega, by omega, by omega, rfl, HS0.out.1, HS0.out.2, Sort.permIn_refl _ _ _⟩
  case round =>
    obtain ⟨t, r, dk, rfl, ht, hr, hsk, HK⟩ := hrel
    clear HS0
    obtain ⟨G, hG⟩ : ∃ G : Nat → Int, ∀ x, G x = dk[x]! := ⟨fun x => dk[x]!, fun _ => rfl⟩
    have hcw : ∀ x, x < d.size → wr.cell? ⟨blk, off + x, none⟩ = some (.int .u64 (G x)) := fun x hx => by rw [hG]; exact (HK.out.1.holds x (by omega)).1
    have hfw : ∀ x, x < d.size → wr.frozen? ⟨blk, off + x, none⟩ = false := fun x hx => (HK.out.1.holds x (by omega)).2
    have HG : Hid (∀ x, G x = dk[x]!) := hG
    clear hG
    have hbz : (blk : Nat) ≠ w.heap.size := by omega
    by_cases ht3 : t < 3
    · have htz : ((a + L / 4 * 2 - 1 + t : Nat) : Int) ≤ (a : Int) + (L : Int) / 4 * 2 + 1 := by omega
      obtain ⟨X, hX⟩ : ∃ X : Nat, X = a + L / 4 * 2 - 1 + t := ⟨_, rfl⟩
      have hX1 : a ≤ X ∧ X < a + L := by omega
      have hX2 : (X : Int) ≤ (a : Int) + (L : Int) / 4 * 2 + 1 := by omega
      rw [← hX]
      have HX : Hid (X = a + L / 4 * 2 - 1 + t) := hX
      clear hX htz
      go_wp2_with (first | (go_at_call 106; refine (next_ref w.heap.size 0 r hr wr HK.out.2.1.1 HK.out.2.1.2).mono ?_; rintro e w' ⟨Y, rfl, hY, rfl⟩; have hst : Hid (SR w blk off d dk ((wr.setCell ⟨w.heap.size, 0, none⟩ (.int .u64 (Y : Int))).drewN 3) ∧ Gx ((wr.setCell ⟨w.heap.size, 0, none⟩ (.int .u64 (Y : Int))).drewN 3) w.heap.size Y) := ⟨(HK.out.1.new (Nat.le_refl _) _).drewN 3, HK.out.2.1.set _⟩; have HPm : Hid (Sort.PermIn a (a + L) d dk) := HK.out.2.2; clear hcw hfw HK; generalize (wr.setCell ⟨w.heap.size, 0, none⟩ (.int .u64 (Y : Int))).drewN 3 = W1 at hst ⊢; have hcw : ∀ x, x < d.size → W1.cell? ⟨blk, off + x, none⟩ = some (.int .u64 (G x)) := (fun x hx => by rw [HG.out]; exact (hst.out.1.holds x (by omega)).1); have hfw : ∀ x, x < d.size → W1.frozen? ⟨blk, off + x, none⟩ = false := (fun x hx => (hst.out.1.holds x (by omega)).2); obtain ⟨O, hO⟩ : ∃ O : Nat, O = Y &&& (M - 1) := ⟨_, rfl⟩; have lO : O ≤ M - 1 := (by rw [hO]; exact Nat.and_le_right); have eAnd : bits .and .u64 (Y : Int) ((M : Int) - 1) = (O : Int) := (by rw [show ((M : Int) - 1) = ((M - 1 : Nat) : Int) by omega, bits_and_u64_nat _ _ hY (by omega), hO]); clear hO))
      · have hLO : L ≤ O := by omega
        by_cases hEq : X = a + (O - L)
        all_goals
          go_region
          all_goals go_wp2
          go_roundw
          case rel =>
            refine ⟨t + 1, Y, Sort.swp dk X (a + (O - L)), by rw [HX.out] at *; first | rfl | (congr 1 <;> omega), by omega, hY, by rw [Sort.size_swp]; exact hsk, ?_, ?_, Sort.permIn_trans _ _ _ _ _ HPm.out (Sort.swp_permIn _ _ _ _ _ (by omega) (by omega) (by omega) (by omega) (by omega))⟩
            · (try rw [hEq])
              simp only [HG.out]
              exact (hst.out.1.swap (by omega) (by omega)).drew
            · exact (hst.out.2.other hbz _).other hbz _
          case measure => simp [intOf]; omega
      · have hLO : ¬ L ≤ O := by omega
        by_cases hEq : X = a + O
        all_goals
          go_region
          all_goals go_wp2
          go_roundw
          case rel =>
            refine ⟨t + 1, Y, Sort.swp dk X (a + O), by rw [HX.out] at *; first | rfl | (congr 1 <;> omega), by omega, hY, by rw [Sort.size_swp]; exact hsk, ?_, ?_, Sort.permIn_trans _ _ _ _ _ HPm.out (Sort.swp_permIn _ _ _ _ _ (by omega) (by omega) (by omega) (by omega) (by omega))⟩
            · (try rw [hEq])
              simp only [HG.out]
              exact (hst.out.1.swap (by omega) (by omega)).drew
            · exact (hst.out.2.other hbz _).other hbz _
          case measure => simp [intOf]; omega
    · have htz : decide (((a + L / 4 * 2 - 1 + t : Nat) : Int) ≤ (a : Int) + (L : Int) / 4 * 2 + 1) = false := decide_eq_false (by omega)
      go_wp2
      go_end0
      exact ⟨rfl, dk, HK.out.2.2, HK.out.1⟩
end Go.Proofs.YtikhpbidbcfedaaGreat

/- What quicksort's rounds come to: all that is not within the part that is left stands in order. -/
namespace Go.Proofs.YtikhpbidbcfedaaGreat
open Go.RowKit

def Cr (a b a' b' : Nat) (d : Array Int) : Prop := ∀ i j, a ≤ i → i < j → j < b → ¬ (a' ≤ i ∧ j < b') → Sort.ltInt d[j]! d[i]! = false
section
variable {a b a' b' m : Nat} {d d' : Array Int}
theorem Cr.perm (h : Cr a b a' b' d) (hb : b' ≤ d.size) (ha : a ≤ a') (hbb : b' ≤ b) (hP : Sort.PermIn a' b' d d') : Cr a b a' b' d' := by
  intro i j h1 h2 h3 h4
  by_cases hi : a' ≤ i ∧ i < b'
  · have hj : ¬ (a' ≤ j ∧ j < b') := fun k => h4 ⟨hi.1, k.2⟩
    rw [hP.2.1 j (by omega)]
    refine Sort.permIn_all d d' a' b' (fun x => Sort.ltInt d[j]! x = false) hb hP (fun t k1 k2 => ?_) i hi.1 hi.2
    exact h t j (by omega) (by omega) h3 (by omega)
  · rw [hP.2.1 i (by omega)]
    by_cases hj : a' ≤ j ∧ j < b'
    · refine Sort.permIn_all d d' a' b' (fun x => Sort.ltInt x d[i]! = false) hb hP (fun t k1 k2 => ?_) j hj.1 hj.2
      exact h i t h1 (by omega) (by omega) (by omega)
    · rw [hP.2.1 j (by omega)]; exact h i j h1 h2 h3 h4
theorem Cr.fin (h : Cr a b a' b' d) (hs : Sort.SortedIn Sort.ltInt a' b' d) : Sort.SortedIn Sort.ltInt a b d := fun i j h1 h2 h3 => by
  by_cases h4 : a' ≤ i ∧ j < b'
  · exact hs i j h4.1 h2 h4.2
  · exact h i j h1 h2 h3 h4
theorem asym_ref {x y : Int} (h : Sort.ltInt x y = true) : Sort.ltInt y x = false := by
  unfold Sort.ltInt at *; simp at *; omega
theorem Cr.eq (h : Cr a b a' b' d) (x : Int) (hx : ∀ t, a' ≤ t → t < b' → Sort.ltInt d[t]! x = false) (h1 : ∀ t, a' ≤ t → t < m → Sort.ltInt x d[t]! = false) : Cr a b m b' d := by
  intro i j k1 k2 k3 k4
  by_cases h4 : a' ≤ i ∧ j < b'
  · exact swo_ref.ntrans _ x _ (hx j (by omega) h4.2) (h1 i h4.1 (by omega))
  · exact h i j k1 k2 k3 h4
theorem eq_below (hm : 0 < m) (ham : a' < m) (x : Int) (h1 : ∀ t, a' ≤ t → t < m → Sort.ltInt x d[t]! = false) (h2 : ∀ t, m ≤ t → t < b' → Sort.ltInt x d[t]! = true) : Sort.Below Sort.ltInt m b' d := by
  refine .inr fun i k1 k2 => ?_
  have e1 := h1 (m - 1) (by omega) (by omega)
  have e2 := h2 i k1 k2
  unfold Sort.ltInt at *; simp at *; omega
theorem Cr.left (h : Cr a b a' b' d) (hs : Sort.SortedIn Sort.ltInt a' m d) (h1 : ∀ t, a' ≤ t → t < m → Sort.ltInt d[t]! d[m]! = true) (h2 : ∀ t, m < t → t < b' → Sort.ltInt d[t]! d[m]! = false) : Cr a b (m + 1) b' d := by
  intro i j k1 k2 k3 k4
  by_cases h4 : a' ≤ i ∧ j < b'
  · by_cases hj : j < m
    · exact hs i j h4.1 k2 hj
    · by_cases hi : i = m
      · subst hi; exact h2 j k2 h4.2
      · have e1 := h1 i h4.1 (by omega)
        by_cases hjm : j = m
        · subst hjm; exact asym_ref e1
        · have e2 := h2 j (by omega) h4.2
          unfold Sort.ltInt at *; simp at *; omega
  · exact h i j k1 k2 k3 h4
theorem Cr.right (h : Cr a b a' b' d) (hs : Sort.SortedIn Sort.ltInt (m + 1) b' d) (h1 : ∀ t, a' ≤ t → t < m → Sort.ltInt d[t]! d[m]! = true) (h2 : ∀ t, m < t → t < b' → Sort.ltInt d[t]! d[m]! = false) : Cr a b a' m d := by
  intro i j k1 k2 k3 k4
  by_cases h4 : a' ≤ i ∧ j < b'
  · by_cases hi : m < i
    · exact hs i j hi k2 h4.2
    · by_cases hj : j = m
      · subst hj; exact asym_ref (h1 i h4.1 k2)
      · have e2 := h2 j (by omega) h4.2
        by_cases him : i = m
        · subst him; exact e2
        · have e1 := h1 i h4.1 (by omega)
          unfold Sort.ltInt at *; simp at *; omega
  · exact h i j k1 k2 k3 h4
theorem side_left (hP : Sort.PermIn a' m d d') (hm : m < d.size) (h1 : ∀ t, a' ≤ t → t < m → Sort.ltInt d[t]! d[m]! = true) (h2 : ∀ t, m < t → t < b' → Sort.ltInt d[t]! d[m]! = false) :
    (∀ t, a' ≤ t → t < m → Sort.ltInt d'[t]! d'[m]! = true) ∧ (∀ t, m < t → t < b' → Sort.ltInt d'[t]! d'[m]! = false) := by
  have e : d'[m]! = d[m]! := hP.2.1 m (by omega)
  refine ⟨fun t k1 k2 => ?_, fun t k1 k2 => ?_⟩
  · rw [e]; exact Sort.permIn_all d d' a' m (fun x => Sort.ltInt x d[m]! = true) (by omega) hP h1 t k1 k2
  · rw [e, hP.2.1 t (by omega)]; exact h2 t k1 k2
theorem side_right (hP : Sort.PermIn (m + 1) b' d d') (hb : b' ≤ d.size) (h1 : ∀ t, a' ≤ t → t < m → Sort.ltInt d[t]! d[m]! = true) (h2 : ∀ t, m < t → t < b' → Sort.ltInt d[t]! d[m]! = false) :
    (∀ t, a' ≤ t → t < m → Sort.ltInt d'[t]! d'[m]! = true) ∧ (∀ t, m < t → t < b' → Sort.ltInt d'[t]! d'[m]! = false) := by
  have e : d'[m]! = d[m]! := hP.2.1 m (by omega)
  refine ⟨fun t k1 k2 => ?_, fun t k1 k2 => ?_⟩
  · rw [e, hP.2.1 t (by omega)]; exact h1 t k1 k2
  · rw [e]; exact Sort.permIn_all d d' (m + 1) b' (fun x => Sort.ltInt x d[m]! = false) hb hP (fun t k1 k2 => h2 t (by omega) k2) t (by omega) k2
theorem below_perm (h : Sort.Below Sort.ltInt a' b' d) (hb : b' ≤ d.size) (hP : Sort.PermIn a' b' d d') : Sort.Below Sort.ltInt a' b' d' := Sort.Below.perm h hb hP
end
end Go.Proofs.YtikhpbidbcfedaaGreat

