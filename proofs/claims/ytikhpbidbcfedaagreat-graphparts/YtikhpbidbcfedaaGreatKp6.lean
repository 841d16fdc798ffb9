/- slices.partialInsertionSortOrdered at references. -/
import Derived.Test.YtikhpbidbcfedaaGreatKp3
import Derived.Deep.RegionWith
namespace Go.Proofs.YtikhpbidbcfedaaGreat
open Go.RowKit

set_option maxRecDepth 100000 in
set_option maxHeartbeats 12800000 in
theorem pis_ref (blk off cap a b : Nat) (d : Array Int) (w : World) (hH : Sort.Holds (Value.int .u64) w blk off d) (hblk : blk < w.heap.size) (hab : a < b) (hb : b ≤ d.size) (hsz : d.size < 4611686018427387904) :
    Calls Tryz.prog 90 #[.slice (some ⟨blk, off, none⟩) d.size cap, .int .i64 a, .int .i64 b] w fun e w' =>
      e = .returned (.bool (Sort.partialInsertionSort Sort.ltInt d a b).2) ∧ SR w blk off d (Sort.partialInsertionSort Sort.ltInt d a b).1 w' := by
  have HS : Hid (SR w blk off d d w) := SR.refl hH hblk
  clear hH hblk
  go_enter Tryz.func90, Tryz.ntmps90
  go_wp2
  go_loopw [7, 8] (fun vi vs wr => ∃ (i s : Nat) (dk : Array Int), vi = .int .i64 i ∧ vs = .int .i64 s ∧ s ≤ 5 ∧ a < i ∧ i ≤ b ∧ dk.size = d.size ∧ Hid (SR w blk off d dk wr ∧ Sort.partialIns Sort.ltInt a b (5 - s) i dk = Sort.partialIns Sort.ltInt a b 5 (a + 1) d)) (fun _ vs _ => 5 - (intOf vs).toNat)
  case atStart => exact ⟨a + 1, 0, d, by go_num, rfl, by omega, by omega, by omega, rfl, HS.out, rfl⟩
  case round =>
    obtain ⟨i, s, dk, rfl, rfl, hs5, hai, hib, hsk, HO⟩ := hrel
    clear HS
    by_cases hs : s < 5
    · have hsz5 : (s : Int) < 5 := by omega
      go_wp2
      go_loopw [7] (fun vi wr2 => ∃ k : Nat, vi = .int .i64 k ∧ i ≤ k ∧ k ≤ b ∧ Hid (SR w blk off d dk wr2 ∧ Sort.scanSorted Sort.ltInt dk b k = Sort.scanSorted Sort.ltInt dk b i)) (fun vi _ => b - (intOf vi).toNat)
      case atStart => exact ⟨i, rfl, Nat.le_refl _, hib, HO.out.1, rfl⟩
      case round =>
        obtain ⟨k, rfl, hik, hkb, HR⟩ := hrel
        obtain ⟨G, hGG⟩ : ∃ G : Nat → Int, ∀ t, G t = dk[t]! := ⟨fun t => dk[t]!, fun _ => rfl⟩
        have hcG : ∀ t, t < d.size → (wr).cell? ⟨blk, off + t, none⟩ = some (.int .u64 (G t)) := fun t ht => by rw [hGG]; exact (HR.out.1.holds t (by have := HR.out.1.sz; omega)).1
        have hfG : ∀ t, t < d.size → (wr).frozen? ⟨blk, off + t, none⟩ = false := fun t ht => (HR.out.1.holds t (by have := HR.out.1.sz; omega)).2
        have AG : Hid (∀ t, G t = dk[t]!) := hGG
        clear hGG

        by_cases hk : k < b
        · go_wp2_with fail
          go_big_quiet (first | (go_at_call 91; refine Calls.quiet_of_same (less_ref _ _ _)))
          go_wp2_with fail
          · have ht : (!Sort.ltInt (G k) (G (k - 1))) = true := by assumption
            go_wp2
            go_roundw
            case rel => exact ⟨k + 1, by go_num, by omega, by omega, HR.out.1.drewN _, by rw [← HR.out.2, Sort.scanSorted.eq_def _ _ _ k, if_pos (by rw [← AG.out, ← AG.out, ht]; simp [hk])]⟩
            case measure => simp [intOf]; omega
          · have ht : (!Sort.ltInt (G k) (G (k - 1))) = false := by assumption
            have HK : Hid (Sort.scanSorted Sort.ltInt dk b i = k) := by
              show _ = _
              rw [← HR.out.2, Sort.scanSorted, if_neg (by rw [← AG.out, ← AG.out, ht]; simp)]
            have E5 : Hid (Sort.partialInsertionSort Sort.ltInt d a b = _) := HO.out.2.symm
            rw [show 5 - s = (5 - (s + 1)) + 1 by omega, Sort.partialIns_succ, HK.out, if_neg (by omega)] at E5
            have h50 : b - a < 50 := by omega
            go_ret
            have h := E5.out
            rw [if_pos h50] at h
            rw [h]
            exact ⟨rfl, HR.out.1.drewN _⟩
          · have ht : (!Sort.ltInt (G k) (G (k - 1))) = false := by assumption
            have HK : Hid (Sort.scanSorted Sort.ltInt dk b i = k) := by
              show _ = _
              rw [← HR.out.2, Sort.scanSorted, if_neg (by rw [← AG.out, ← AG.out, ht]; simp)]
            have E5 : Hid (Sort.partialInsertionSort Sort.ltInt d a b = _) := HO.out.2.symm
            rw [show 5 - s = (5 - (s + 1)) + 1 by omega, Sort.partialIns_succ, HK.out, if_neg (by omega)] at E5
            have h50 : ¬ b - a < 50 := by omega
            have OUT : Hid (∀ d3 W', SR w blk off d d3 W' → d3 = Sort.fixUp Sort.ltInt b k (Sort.fixDown Sort.ltInt a k (Sort.swp dk k (k - 1))) → ∃ (i' s' : Nat) (dk' : Array Int), Value.int .i64 (k : Int) = .int .i64 (i' : Nat) ∧ Value.int .i64 ((s : Int) + 1) = .int .i64 (s' : Nat) ∧ s' ≤ 5 ∧ a < i' ∧ i' ≤ b ∧ dk'.size = d.size ∧ Hid (SR w blk off d dk' W' ∧ Sort.partialIns Sort.ltInt a b (5 - s') i' dk' = Sort.partialIns Sort.ltInt a b 5 (a + 1) d)) := fun d3 W' h1 h2 =>
                ⟨k, s + 1, d3, rfl, by go_num, by omega, by omega, by omega, h1.sz, h1, by have h := E5.out; rw [if_neg h50] at h; rw [h2]; exact h.symm⟩
            have H1 : Hid (SR w blk off d dk (wr.drewN nq)) := HR.out.1.drewN nq
            have hcV : ∀ t, t < d.size → (wr.drewN nq).cell? ⟨blk, off + t, none⟩ = some (.int .u64 (G t)) := hcG
            have hfV : ∀ t, t < d.size → (wr.drewN nq).frozen? ⟨blk, off + t, none⟩ = false := hfG
            clear hcG hfG HR HO E5
            generalize wr.drewN nq = W1 at H1 hcV hfV ⊢
            · go_region
              have HZ : Hid (SR w blk off d (Sort.swp dk k (k - 1)) ((W1.setCell ⟨blk, off + k, none⟩ (.int .u64 (G (k - 1)))).setCell ⟨blk, off + (k - 1), none⟩ (.int .u64 (G k))).drew) := by
                rw [AG.out k, AG.out (k - 1)]; exact (H1.out.swap (i := k) (j := k - 1) (by omega) (by omega)).drew
              have hs1 : (Sort.swp dk k (k - 1)).size = d.size := by rw [Sort.size_swp]; exact hsk
              clear hcV hfV H1
              by_cases hka : 2 ≤ k - a
              · have hkz : (2 : Int) ≤ (k : Int) - (a : Int) := by omega
                go_wp2
                go_loopw [9] (fun vj wr2 => ∃ (j : Nat) (dj : Array Int), vj = .int .i64 j ∧ j ≤ k - 1 ∧ dj.size = d.size ∧ Hid (SR w blk off d dj wr2 ∧ Sort.shiftDown Sort.ltInt j dj = Sort.shiftDown Sort.ltInt (k - 1) (Sort.swp dk k (k - 1)))) (fun vj _ => (intOf vj).toNat)
                case atStart => exact ⟨k - 1, Sort.swp dk k (k - 1), by go_num, Nat.le_refl _, hs1, HZ.out, rfl⟩
                case round =>
                  obtain ⟨j, d2, rfl, hjk, hs2, HJ⟩ := hrel
                  clear HZ
                  obtain ⟨D, hGD⟩ : ∃ D : Nat → Int, ∀ t, D t = d2[t]! := ⟨fun t => d2[t]!, fun _ => rfl⟩
                  have hcD : ∀ t, t < d.size → (wr).cell? ⟨blk, off + t, none⟩ = some (.int .u64 (D t)) := fun t ht => by rw [hGD]; exact (HJ.out.1.holds t (by have := HJ.out.1.sz; omega)).1
                  have hfD : ∀ t, t < d.size → (wr).frozen? ⟨blk, off + t, none⟩ = false := fun t ht => (HJ.out.1.holds t (by have := HJ.out.1.sz; omega)).2
                  have AD : Hid (∀ t, D t = d2[t]!) := hGD
                  clear hGD

                  by_cases hj1 : 1 ≤ j
                  · have hjz : (1 : Int) ≤ (j : Int) := by omega
                    go_wp2_with fail
                    go_big_quiet (first | (go_at_call 91; refine Calls.quiet_of_same (less_ref _ _ _)))
                    go_wp2_with fail
                    · have ht2 : (!Sort.ltInt (D j) (D (j - 1))) = true := by assumption
                      have HD2 : Hid (d2 = Sort.fixDown Sort.ltInt a k (Sort.swp dk k (k - 1))) := by
                        show _ = _
                        rw [Sort.fixDown, if_pos hka, ← HJ.out.2]
                        obtain ⟨m, rfl⟩ : ∃ m, j = m + 1 := ⟨j - 1, by omega⟩
                        rw [Sort.shiftDown, if_pos (by have h := ht2; rw [AD.out, AD.out] at h; exact h)]
                      have H2 : Hid (SR w blk off d d2 (wr.drewN nq)) := HJ.out.1.drewN nq
                      clear hcD hfD HJ
                      generalize wr.drewN nq = W2 at H2 ⊢
                      have hbk : 2 ≤ b - k := by omega
                      go_loopw [10] (fun vj wr2 => ∃ (j : Nat) (du : Array Int), vj = .int .i64 j ∧ k + 1 ≤ j ∧ j ≤ b ∧ du.size = d.size ∧ Hid (SR w blk off d du wr2 ∧ Sort.shiftUp Sort.ltInt b j du = Sort.shiftUp Sort.ltInt b (k + 1) d2)) (fun vj _ => b - (intOf vj).toNat)
                      case atStart => exact ⟨k + 1, d2, by go_num, Nat.le_refl _, by omega, H2.out.sz, H2.out, rfl⟩
                      case round =>
                        obtain ⟨j, du, rfl, hkj, hjb, hsu, HJ⟩ := hrel
                        have OUT3 : Hid (Sort.shiftUp Sort.ltInt b j du = du → ∀ W', SR w blk off d du W' → ∃ (i' s' : Nat) (dk' : Array Int), Value.int .i64 (k : Int) = .int .i64 (i' : Nat) ∧ Value.int .i64 ((s : Int) + 1) = .int .i64 (s' : Nat) ∧ s' ≤ 5 ∧ a < i' ∧ i' ≤ b ∧ dk'.size = d.size ∧ Hid (SR w blk off d dk' W' ∧ Sort.partialIns Sort.ltInt a b (5 - s') i' dk' = Sort.partialIns Sort.ltInt a b 5 (a + 1) d)) := fun he W' hW => OUT.out du W' hW (by rw [Sort.fixUp, if_pos hbk, ← HD2.out, ← HJ.out.2, he])
                        obtain ⟨U, hGU⟩ : ∃ U : Nat → Int, ∀ t, U t = du[t]! := ⟨fun t => du[t]!, fun _ => rfl⟩
                        have hcU : ∀ t, t < d.size → (wr).cell? ⟨blk, off + t, none⟩ = some (.int .u64 (U t)) := fun t ht => by rw [hGU]; exact (HJ.out.1.holds t (by have := HJ.out.1.sz; omega)).1
                        have hfU : ∀ t, t < d.size → (wr).frozen? ⟨blk, off + t, none⟩ = false := fun t ht => (HJ.out.1.holds t (by have := HJ.out.1.sz; omega)).2
                        have AU : Hid (∀ t, U t = du[t]!) := hGU
                        clear hGU
                        by_cases hjb2 : j < b
                        · go_wp2_with fail
                          go_big_quiet (first | (go_at_call 91; refine Calls.quiet_of_same (less_ref _ _ _)))
                          go_wp2
                          · have ht : (!Sort.ltInt (U j) (U (j - 1))) = true := by assumption
                            go_roundw
                            case rel => exact OUT3.out (by rw [Sort.shiftUp, if_pos hjb2, if_pos (by rw [← AU.out, ← AU.out]; exact ht)]) _ (HJ.out.1.drewN _)
                            case measure => simp [intOf]; omega
                          · have ht : (!Sort.ltInt (U j) (U (j - 1))) = false := by assumption
                            go_region
                            all_goals go_wp2
                            go_roundw
                            case rel =>
                              refine ⟨j + 1, Sort.swp du j (j - 1), by go_num, by omega, by omega, by rw [Sort.size_swp]; exact hsu, ?_, ?_⟩
                              · rw [AU.out, AU.out]; exact (HJ.out.1.drewN _).swap (by omega) (by omega)
                              · rw [← HJ.out.2, Sort.shiftUp.eq_def _ b j, if_pos hjb2, if_neg (by rw [← AU.out, ← AU.out, ht]; decide)]
                            case measure => simp [intOf]; omega
                        · go_wp2
                          go_roundw
                          case rel => exact OUT3.out (by rw [Sort.shiftUp, if_neg hjb2]) _ HJ.out.1
                          case measure => simp [intOf]; omega

                    · have ht2 : (!Sort.ltInt (D j) (D (j - 1))) = true := by assumption
                      have HD2 : Hid (d2 = Sort.fixDown Sort.ltInt a k (Sort.swp dk k (k - 1))) := by
                        show _ = _
                        rw [Sort.fixDown, if_pos hka, ← HJ.out.2]
                        obtain ⟨m, rfl⟩ : ∃ m, j = m + 1 := ⟨j - 1, by omega⟩
                        rw [Sort.shiftDown, if_pos (by have h := ht2; rw [AD.out, AD.out] at h; exact h)]
                      have H2 : Hid (SR w blk off d d2 (wr.drewN nq)) := HJ.out.1.drewN nq
                      clear hcD hfD HJ
                      generalize wr.drewN nq = W2 at H2 ⊢
                      have hbk : ¬ 2 ≤ b - k := by omega
                      go_roundw
                      case rel => exact OUT.out d2 _ H2.out (by rw [Sort.fixUp, if_neg hbk, ← HD2.out])
                      case measure => simp [intOf]; omega

                    · have ht2 : (!Sort.ltInt (D j) (D (j - 1))) = false := by assumption
                      go_region
                      all_goals go_wp2
                      go_roundw
                      case rel =>
                        refine ⟨j - 1, Sort.swp d2 j (j - 1), by go_num, by omega, by rw [Sort.size_swp]; exact hs2, ?_, ?_⟩
                        · rw [AD.out, AD.out]; exact (HJ.out.1.drewN _).swap (by omega) (by omega)
                        · rw [← HJ.out.2]
                          obtain ⟨m, rfl⟩ : ∃ m, j = m + 1 := ⟨j - 1, by omega⟩
                          rw [show Sort.shiftDown Sort.ltInt (m + 1) d2 = _ from by rw [Sort.shiftDown, if_neg (by have h := ht2; rw [AD.out, AD.out] at h; simp only [Nat.add_sub_cancel] at h; rw [h]; decide)]]
                          rfl
                      case measure => simp [intOf]; omega
                  · have hjz : ¬ (1 : Int) ≤ (j : Int) := by omega
                    have HD2 : Hid (d2 = Sort.fixDown Sort.ltInt a k (Sort.swp dk k (k - 1))) := by
                      show _ = _
                      rw [Sort.fixDown, if_pos hka, ← HJ.out.2]
                      obtain rfl : j = 0 := by omega
                      rfl
                    have H2 : Hid (SR w blk off d d2 wr) := HJ.out.1
                    clear hcD hfD HJ
                    go_wp2_with fail
                    · skip
                      have hbk : 2 ≤ b - k := by omega
                      go_loopw [10] (fun vj wr2 => ∃ (j : Nat) (du : Array Int), vj = .int .i64 j ∧ k + 1 ≤ j ∧ j ≤ b ∧ du.size = d.size ∧ Hid (SR w blk off d du wr2 ∧ Sort.shiftUp Sort.ltInt b j du = Sort.shiftUp Sort.ltInt b (k + 1) d2)) (fun vj _ => b - (intOf vj).toNat)
                      case atStart => exact ⟨k + 1, d2, by go_num, Nat.le_refl _, by omega, H2.out.sz, H2.out, rfl⟩
                      case round =>
                        obtain ⟨j, du, rfl, hkj, hjb, hsu, HJ⟩ := hrel
                        have OUT3 : Hid (Sort.shiftUp Sort.ltInt b j du = du → ∀ W', SR w blk off d du W' → ∃ (i' s' : Nat) (dk' : Array Int), Value.int .i64 (k : Int) = .int .i64 (i' : Nat) ∧ Value.int .i64 ((s : Int) + 1) = .int .i64 (s' : Nat) ∧ s' ≤ 5 ∧ a < i' ∧ i' ≤ b ∧ dk'.size = d.size ∧ Hid (SR w blk off d dk' W' ∧ Sort.partialIns Sort.ltInt a b (5 - s') i' dk' = Sort.partialIns Sort.ltInt a b 5 (a + 1) d)) := fun he W' hW => OUT.out du W' hW (by rw [Sort.fixUp, if_pos hbk, ← HD2.out, ← HJ.out.2, he])
                        obtain ⟨U, hGU⟩ : ∃ U : Nat → Int, ∀ t, U t = du[t]! := ⟨fun t => du[t]!, fun _ => rfl⟩
                        have hcU : ∀ t, t < d.size → (wr).cell? ⟨blk, off + t, none⟩ = some (.int .u64 (U t)) := fun t ht => by rw [hGU]; exact (HJ.out.1.holds t (by have := HJ.out.1.sz; omega)).1
                        have hfU : ∀ t, t < d.size → (wr).frozen? ⟨blk, off + t, none⟩ = false := fun t ht => (HJ.out.1.holds t (by have := HJ.out.1.sz; omega)).2
                        have AU : Hid (∀ t, U t = du[t]!) := hGU
                        clear hGU
                        by_cases hjb2 : j < b
                        · go_wp2_with fail
                          go_big_quiet (first | (go_at_call 91; refine Calls.quiet_of_same (less_ref _ _ _)))
                          go_wp2
                          · have ht : (!Sort.ltInt (U j) (U (j - 1))) = true := by assumption
                            go_roundw
                            case rel => exact OUT3.out (by rw [Sort.shiftUp, if_pos hjb2, if_pos (by rw [← AU.out, ← AU.out]; exact ht)]) _ (HJ.out.1.drewN _)
                            case measure => simp [intOf]; omega
                          · have ht : (!Sort.ltInt (U j) (U (j - 1))) = false := by assumption
                            go_region
                            all_goals go_wp2
                            go_roundw
                            case rel =>
                              refine ⟨j + 1, Sort.swp du j (j - 1), by go_num, by omega, by omega, by rw [Sort.size_swp]; exact hsu, ?_, ?_⟩
                              · rw [AU.out, AU.out]; exact (HJ.out.1.drewN _).swap (by omega) (by omega)
                              · rw [← HJ.out.2, Sort.shiftUp.eq_def _ b j, if_pos hjb2, if_neg (by rw [← AU.out, ← AU.out, ht]; decide)]
                            case measure => simp [intOf]; omega
                        · go_wp2
                          go_roundw
                          case rel => exact OUT3.out (by rw [Sort.shiftUp, if_neg hjb2]) _ HJ.out.1
                          case measure => simp [intOf]; omega

                    · skip
                      have hbk : ¬ 2 ≤ b - k := by omega
                      go_roundw
                      case rel => exact OUT.out d2 _ H2.out (by rw [Sort.fixUp, if_neg hbk, ← HD2.out])
                      case measure => simp [intOf]; omega

              · have hkz : decide ((2 : Int) ≤ (k : Int) - (a : Int)) = false := decide_eq_false (by omega)
                obtain ⟨d2, hd2⟩ : ∃ d2, d2 = Sort.swp dk k (k - 1) := ⟨_, rfl⟩
                have HD2 : Hid (d2 = Sort.fixDown Sort.ltInt a k (Sort.swp dk k (k - 1))) := by show _ = _; rw [Sort.fixDown, if_neg hka, hd2]
                have H2 : Hid (SR w blk off d d2 ((W1.setCell ⟨blk, off + k, none⟩ (.int .u64 (G (k - 1)))).setCell ⟨blk, off + (k - 1), none⟩ (.int .u64 (G k))).drew) := by rw [hd2]; exact HZ.out
                clear HZ hd2
                go_wp2_with fail
                · skip
                  have hbk : 2 ≤ b - k := by omega
                  go_loopw [10] (fun vj wr2 => ∃ (j : Nat) (du : Array Int), vj = .int .i64 j ∧ k + 1 ≤ j ∧ j ≤ b ∧ du.size = d.size ∧ Hid (SR w blk off d du wr2 ∧ Sort.shiftUp Sort.ltInt b j du = Sort.shiftUp Sort.ltInt b (k + 1) d2)) (fun vj _ => b - (intOf vj).toNat)
                  case atStart => exact ⟨k + 1, d2, by go_num, Nat.le_refl _, by omega, H2.out.sz, H2.out, rfl⟩
                  case round =>
                    obtain ⟨j, du, rfl, hkj, hjb, hsu, HJ⟩ := hrel
                    have OUT3 : Hid (Sort.shiftUp Sort.ltInt b j du = du → ∀ W', SR w blk off d du W' → ∃ (i' s' : Nat) (dk' : Array Int), Value.int .i64 (k : Int) = .int .i64 (i' : Nat) ∧ Value.int .i64 ((s : Int) + 1) = .int .i64 (s' : Nat) ∧ s' ≤ 5 ∧ a < i' ∧ i' ≤ b ∧ dk'.size = d.size ∧ Hid (SR w blk off d dk' W' ∧ Sort.partialIns Sort.ltInt a b (5 - s') i' dk' = Sort.partialIns Sort.ltInt a b 5 (a + 1) d)) := fun he W' hW => OUT.out du W' hW (by rw [Sort.fixUp, if_pos hbk, ← HD2.out, ← HJ.out.2, he])
                    obtain ⟨U, hGU⟩ : ∃ U : Nat → Int, ∀ t, U t = du[t]! := ⟨fun t => du[t]!, fun _ => rfl⟩
                    have hcU : ∀ t, t < d.size → (wr).cell? ⟨blk, off + t, none⟩ = some (.int .u64 (U t)) := fun t ht => by rw [hGU]; exact (HJ.out.1.holds t (by have := HJ.out.1.sz; omega)).1
                    have hfU : ∀ t, t < d.size → (wr).frozen? ⟨blk, off + t, none⟩ = false := fun t ht => (HJ.out.1.holds t (by have := HJ.out.1.sz; omega)).2
                    have AU : Hid (∀ t, U t = du[t]!) := hGU
                    clear hGU
                    by_cases hjb2 : j < b
                    · go_wp2_with fail
                      go_big_quiet (first | (go_at_call 91; refine Calls.quiet_of_same (less_ref _ _ _)))
                      go_wp2
                      · have ht : (!Sort.ltInt (U j) (U (j - 1))) = true := by assumption
                        go_roundw
                        case rel => exact OUT3.out (by rw [Sort.shiftUp, if_pos hjb2, if_pos (by rw [← AU.out, ← AU.out]; exact ht)]) _ (HJ.out.1.drewN _)
                        case measure => simp [intOf]; omega
                      · have ht : (!Sort.ltInt (U j) (U (j - 1))) = false := by assumption
                        go_region
                        all_goals go_wp2
                        go_roundw
                        case rel =>
                          refine ⟨j + 1, Sort.swp du j (j - 1), by go_num, by omega, by omega, by rw [Sort.size_swp]; exact hsu, ?_, ?_⟩
                          · rw [AU.out, AU.out]; exact (HJ.out.1.drewN _).swap (by omega) (by omega)
                          · rw [← HJ.out.2, Sort.shiftUp.eq_def _ b j, if_pos hjb2, if_neg (by rw [← AU.out, ← AU.out, ht]; decide)]
                        case measure => simp [intOf]; omega
                    · go_wp2
                      go_roundw
                      case rel => exact OUT3.out (by rw [Sort.shiftUp, if_neg hjb2]) _ HJ.out.1
                      case measure => simp [intOf]; omega

        · go_wp2_with fail
          go_big_quiet (first | (go_at_call 91; refine Calls.quiet_of_same (less_ref _ _ _)))
          have HK : Hid (Sort.scanSorted Sort.ltInt dk b i = k) := by
            show _ = _
            rw [← HR.out.2, Sort.scanSorted, if_neg (by simp; omega)]
          have heq : (k : Int) = (b : Int) := by omega
          have E5 : Hid (Sort.partialInsertionSort Sort.ltInt d a b = _) := HO.out.2.symm
          rw [show 5 - s = (5 - (s + 1)) + 1 by omega, Sort.partialIns_succ, HK.out, if_pos (by omega)] at E5
          go_wp2
          go_ret
          rw [E5.out]
          exact ⟨rfl, HR.out.1.drewN _⟩
    · have hsz5 : ¬ (s : Int) < 5 := by omega
      have E5 : Hid (Sort.partialInsertionSort Sort.ltInt d a b = _) := HO.out.2.symm
      rw [show 5 - s = 0 by omega] at E5
      go_wp2
      go_ret
      rw [E5.out]
      exact ⟨rfl, HO.out.1⟩
end Go.Proofs.YtikhpbidbcfedaaGreat

/- slices.order2Ordered, medianOrdered, medianAdjacentOrdered, choosePivotOrdered at references: where the pivot lies. -/
namespace Go.Proofs.YtikhpbidbcfedaaGreat
open Go.RowKit

def Bx (w : World) (sb so : Nat) (s : Int) : Prop := w.cell? ⟨sb, so, none⟩ = some (.int .i64 s) ∧ w.frozen? ⟨sb, so, none⟩ = false
structure PV (w0 : World) (blk off : Nat) (d : Array Int) (sb so : Nat) (s : Int) (w : World) : Prop where
  sr : SR w0 blk off d d w
  bx : Bx w sb so s
theorem Bx.drewN {w : World} {sb so : Nat} {s : Int} (h : Bx w sb so s) (n : Nat) : Bx (w.drewN n) sb so s := h
theorem Bx.set {w : World} {sb so : Nat} {s : Int} (h : Bx w sb so s) (t : Int) : Bx (w.setCell ⟨sb, so, none⟩ (.int .i64 t)) sb so t := by
  obtain ⟨h1, h2⟩ := h
  have e := Sort.putRow_set (Value.int .i64) w sb so #[s] 0 t (by simp)
  have hh : Sort.Holds (Value.int .i64) w sb so #[s] := fun j hj => by
    obtain rfl : j = 0 := by simp at hj; omega
    exact ⟨by simpa using h1, by simpa using h2⟩
  rw [Sort.putRow_self _ _ _ _ _ hh] at e
  have k := Sort.holds_putRow (Value.int .i64) w sb so #[s] (#[s].setIfInBounds 0 t) hh (by simp) 0 (by simp)
  rw [Nat.add_zero] at e k
  unfold Bx
  rw [e]
  exact ⟨by simpa using k.1, k.2⟩

section
variable {w0 w : World} {blk off sb so : Nat} {d : Array Int} {s : Int}

set_option maxRecDepth 100000 in
set_option maxHeartbeats 4000000 in
theorem ord2_ref (cap a b : Nat) (h : PV w0 blk off d sb so s w) (hsb : w0.heap.size ≤ sb) (ha : a < d.size) (hb : b < d.size) (hs0 : 0 ≤ s) (hs : s < 4611686018427387904) :
    Calls Tryz.prog 119 #[.slice (some ⟨blk, off, none⟩) d.size cap, .int .i64 a, .int .i64 b, .pointer (some ⟨sb, so, none⟩)] w fun e w' =>
      ∃ (x y : Nat) (t : Int), e = .returned (.tuple #[.int .i64 x, .int .i64 y]) ∧ ((x = a ∧ y = b) ∨ (x = b ∧ y = a)) ∧ s ≤ t ∧ t ≤ s + 1 ∧ PV w0 blk off d sb so t w' := by
  obtain ⟨G, hG⟩ : ∃ G : Nat → Int, ∀ t, G t = d[t]! := ⟨fun t => d[t]!, fun _ => rfl⟩
  have hcw : ∀ t, t < d.size → w.cell? ⟨blk, off + t, none⟩ = some (.int .u64 (G t)) := fun t ht => by rw [hG]; exact (h.sr.holds t ht).1
  obtain ⟨cs, fs⟩ := h.bx
  have HP : Hid (PV w0 blk off d sb so s w) := h
  clear hG h
  go_enter Tryz.func119, Tryz.ntmps119
  go_wp2_with fail
  go_big_quiet (first | (go_at_call 91; refine Calls.quiet_of_same (less_ref _ _ _)))
  go_wp2
  all_goals go_ret2
  · exact ⟨b, a, s + 1, rfl, .inr ⟨rfl, rfl⟩, by omega, by omega, (HP.out.sr.drewN _).new hsb _, (HP.out.bx.drewN _).set _⟩
  · exact ⟨a, b, s, rfl, .inl ⟨rfl, rfl⟩, by omega, by omega, HP.out.sr.drewN _, HP.out.bx.drewN _⟩

set_option maxRecDepth 100000 in
set_option maxHeartbeats 4000000 in
theorem med_ref (cap a b c : Nat) (h : PV w0 blk off d sb so s w) (hsb : w0.heap.size ≤ sb) (ha : a < d.size) (hb : b < d.size) (hc : c < d.size) (hs0 : 0 ≤ s) (hs : s < 4611686018427387000) :
    Calls Tryz.prog 113 #[.slice (some ⟨blk, off, none⟩) d.size cap, .int .i64 a, .int .i64 b, .int .i64 c, .pointer (some ⟨sb, so, none⟩)] w fun e w' =>
      ∃ (x : Nat) (t : Int), e = .returned (.int .i64 x) ∧ (x = a ∨ x = b ∨ x = c) ∧ s ≤ t ∧ t ≤ s + 3 ∧ PV w0 blk off d sb so t w' := by
  have HP : Hid (PV w0 blk off d sb so s w) := h
  clear h
  go_enter Tryz.func113, Tryz.ntmps113
  go_wp2_with (go_at_call_of 119 (Value.int .i64 (b : Int)); refine (ord2_ref cap a b HP.out hsb ha hb hs0 (by omega)).mono ?_; rintro e w1 ⟨x1, y1, t1, rfl, h1, l1, u1, P1⟩)
  have HP1 : Hid (PV w0 blk off d sb so t1 w1) := P1
  clear P1 HP
  have hx1 : x1 < d.size := by omega
  have hy1 : y1 < d.size := by omega
  go_wp2_with (go_at_call_of 119 (Value.int .i64 (c : Int)); refine (ord2_ref cap y1 c HP1.out hsb hy1 hc (by omega) (by omega)).mono ?_; rintro e w2 ⟨x2, y2, t2, rfl, h2, l2, u2, P2⟩)
  have HP2 : Hid (PV w0 blk off d sb so t2 w2) := P2
  clear P2 HP1
  have hx2 : x2 < d.size := by omega
  go_wp2_with (go_at_call_of 119 (Value.int .i64 (x1 : Int)); refine (ord2_ref cap x1 x2 HP2.out hsb hx1 hx2 (by omega) (by omega)).mono ?_; rintro e w3 ⟨x3, y3, t3, rfl, h3, l3, u3, P3⟩)
  go_ret
  exact ⟨y3, t3, rfl, by omega, by omega, by omega, P3⟩

set_option maxRecDepth 100000 in
set_option maxHeartbeats 4000000 in
theorem madj_ref (cap a : Nat) (h : PV w0 blk off d sb so s w) (hsb : w0.heap.size ≤ sb) (ha0 : 0 < a) (ha : a + 1 < d.size) (hsz : d.size < 4611686018427387904) (hs0 : 0 ≤ s) (hs : s < 4611686018427387000) :
    Calls Tryz.prog 112 #[.slice (some ⟨blk, off, none⟩) d.size cap, .int .i64 a, .pointer (some ⟨sb, so, none⟩)] w fun e w' =>
      ∃ (x : Nat) (t : Int), e = .returned (.int .i64 x) ∧ (x + 1 = a ∨ x = a ∨ x = a + 1) ∧ s ≤ t ∧ t ≤ s + 3 ∧ PV w0 blk off d sb so t w' := by
  have HP : Hid (PV w0 blk off d sb so s w) := h
  clear h
  have e1 : Hid ((a : Int) - 1 = ((a - 1 : Nat) : Int)) := by show _ = _; omega
  have e2 : Hid ((a : Int) + 1 = ((a + 1 : Nat) : Int)) := by show _ = _; omega
  go_enter Tryz.func112, Tryz.ntmps112
  go_wp2_with (go_at_call 113; rw [e1.out, e2.out]; refine (med_ref cap (a - 1) a (a + 1) HP.out hsb (by omega) (by omega) (by omega) hs0 (by omega)).mono ?_; rintro e w1 ⟨x1, t1, rfl, h1, l1, u1, P1⟩)
  go_ret
  exact ⟨x1, t1, rfl, by omega, by omega, by omega, P1⟩
end
end Go.Proofs.YtikhpbidbcfedaaGreat

