/- slices.siftDownOrdered at references. -/
import Derived.Test.YtikhpbidbcfedaaGreatKk3
import Derived.Deep.LoopGhost
namespace Go.Proofs.YtikhpbidbcfedaaGreat
open Go.RowKit

section
variable {α : Type} [Inhabited α] (lt : α → α → Bool)
theorem rs_sift_end {hi F root : Nat} (d : Array α) (h : hi ≤ 2 * root + 1) : Sort.siftDown lt hi F root d = d := by rw [Sort.siftDown, dif_pos h]
theorem rs_sift {hi F root c : Nat} (d : Array α) (h0 : 2 * root + 1 < hi) (hc : (c = 2 * root + 2 ∧ 2 * root + 2 < hi ∧ lt d[F + (2 * root + 1)]! d[F + (2 * root + 2)]! = true) ∨ (c = 2 * root + 1 ∧ (2 * root + 2 < hi → lt d[F + (2 * root + 1)]! d[F + (2 * root + 2)]! = false))) :
    Sort.siftDown lt hi F root d = if lt d[F + root]! d[F + c]! = true then Sort.siftDown lt hi F c (Sort.swp d (F + root) (F + c)) else d := by
  rw [Sort.siftDown, dif_neg (by omega), show F + (2 * root + 1) + 1 = F + (2 * root + 2) by omega]
  rcases hc with ⟨rfl, h1, h2⟩ | ⟨rfl, h1⟩
  · rw [h2]
    cases h3 : lt d[F + root]! d[F + (2 * root + 2)]! <;> simp [show 2 * root + 1 + 1 < hi by omega]
  · by_cases h : 2 * root + 2 < hi
    · rw [h1 h]
      cases h3 : lt d[F + root]! d[F + (2 * root + 1)]! <;> simp
    · cases h3 : lt d[F + root]! d[F + (2 * root + 1)]! <;> simp [show ¬ 2 * root + 1 + 1 < hi by omega]
end

set_option maxRecDepth 1000000 in
set_option maxHeartbeats 4000000 in
theorem sift_ref (blk off len cap : Nat) (d : Array Int) (lo hi first : Nat) (w : World) (hH : Sort.Holds (Value.int .u64) w blk off d) (hblk : blk < w.heap.size) (hlen : d.size = len) (hlo : lo ≤ hi) (hb : first + hi ≤ d.size) (hsz : d.size < 4611686018427387904) :
    Calls Tryz.prog 111 #[.slice (some ⟨blk, off, none⟩) len cap, .int .i64 lo, .int .i64 hi, .int .i64 first] w fun e w' =>
      e = .returned (.tuple #[]) ∧ SR w blk off d (Sort.siftDown Sort.ltInt hi first lo d) w' := by
  subst hlen
  have HS : Hid (SR w blk off d d w) := SR.refl hH hblk
  clear hH hblk
  go_enter Tryz.func111, Tryz.ntmps111
  go_wp2
  go_loopg [8] (hi - lo) (fun k s8 wr => ∃ (root : Nat) (dk : Array Int), s8 = .int .i64 root ∧ root ≤ hi ∧ hi - root ≤ k ∧ dk.size = d.size ∧ Hid (SR w blk off d dk wr ∧ Sort.siftDown Sort.ltInt hi first root dk = Sort.siftDown Sort.ltInt hi first lo d))
  case atStart => exact ⟨lo, d, rfl, hlo, Nat.le_refl _, rfl, HS.out, rfl⟩
  case round =>
    obtain ⟨root, dk, rfl, hr, hk, hds, HK⟩ := hrel
    obtain ⟨G, hG⟩ : ∃ G : Nat → Int, ∀ t, G t = dk[t]! := ⟨fun t => dk[t]!, fun _ => rfl⟩
    have hcw : ∀ t, t < d.size → wr.cell? ⟨blk, off + t, none⟩ = some (.int .u64 (G t)) := fun t ht => by rw [hG]; exact (HK.out.1.holds t (by omega)).1
    have hfw : ∀ t, t < d.size → wr.frozen? ⟨blk, off + t, none⟩ = false := fun t ht => (HK.out.1.holds t (by omega)).2
    have HG : Hid (∀ t, G t = dk[t]!) := hG
    clear hG
    by_cases h0 : hi ≤ 2 * root + 1
    · have h0z : (hi : Int) ≤ 2 * (root : Int) + 1 := by omega
      go_wp2
      go_end0
      exact ⟨rfl, by rw [← HK.out.2, rs_sift_end _ _ h0]; exact HK.out.1⟩
    · have h0z : ¬ ((hi : Int) ≤ 2 * (root : Int) + 1) := by omega
      by_cases h1 : 2 * root + 2 < hi
      · have h1z : 2 * (root : Int) + 1 + 1 < (hi : Int) := by omega
        go_wp2_with fail
        go_big_quiet (first | (go_at_call 91; refine Calls.quiet_of_same (less_ref _ _ _)))
        go_wp2_with fail
        · have hL : Sort.ltInt (G (first + 2 * root + 1)) (G (first + 2 * root + 2)) = true := by assumption
          have HC : Hid (Sort.siftDown Sort.ltInt hi first root dk = _) := rs_sift Sort.ltInt (F := first) (c := 2 * root + 2) dk (by omega) (.inl ⟨rfl, h1, by rw [← HG.out, ← HG.out]; exact hL⟩)
          revert nq; intro nq1
          have hcw2 : ∀ t, t < d.size → (wr.drewN nq1).cell? ⟨blk, off + t, none⟩ = some (.int .u64 (G t)) := hcw
          have hfw2 : ∀ t, t < d.size → (wr.drewN nq1).frozen? ⟨blk, off + t, none⟩ = false := hfw
          have H2 : Hid (SR w blk off d dk (wr.drewN nq1)) := HK.out.1.drewN nq1
          have HE : Hid (Sort.siftDown Sort.ltInt hi first root dk = Sort.siftDown Sort.ltInt hi first lo d) := HK.out.2
          clear hcw hfw HK
          generalize wr.drewN nq1 = wr2 at hcw2 hfw2 H2 ⊢
          go_big_quiet (first | (go_at_call 91; refine Calls.quiet_of_same (less_ref _ _ _)))
          go_wp2_with fail
          · have hN : Sort.ltInt (G (first + root)) (G (first + (2 * root + 2))) = false := by
              have : (!Sort.ltInt (G (first + root)) (G (first + (2 * root + 2)))) = true := by assumption
              simpa using this
            (try simp only [Exit.inBlock, Exit.then]); refine bodyPost_ret (results_none rfl _ _ _) rfl ?_
            refine ⟨rfl, ?_⟩
            rw [← HE.out, HC.out, if_neg (by rw [← HG.out, ← HG.out, hN]; decide)]
            exact H2.out.drewN _
          · have hN : Sort.ltInt (G (first + root)) (G (first + (2 * root + 2))) = true := by
              have : (!Sort.ltInt (G (first + root)) (G (first + (2 * root + 2)))) = false := by assumption
              simpa using this
            have hcw3 : ∀ t, t < d.size → (wr2.drewN nq).cell? ⟨blk, off + t, none⟩ = some (.int .u64 (G t)) := hcw2
            have hfw3 : ∀ t, t < d.size → (wr2.drewN nq).frozen? ⟨blk, off + t, none⟩ = false := hfw2
            have H3 : Hid (SR w blk off d dk (wr2.drewN nq)) := H2.out.drewN nq
            clear hcw2 hfw2 H2
            generalize wr2.drewN nq = wr3 at hcw3 hfw3 H3 ⊢
            go_region
            go_wp2
            go_roundg (hi - (2 * root + 2))
            case measure => omega
            case rel =>
              refine ⟨2 * root + 2, Sort.swp dk (first + root) (first + (2 * root + 2)), by simp <;> omega, by omega, Nat.le_refl _, by rw [Sort.size_swp]; exact hds, ?_, ?_⟩
              · rw [HG.out, HG.out]; exact (H3.out.swap (by omega) (by omega)).drew
              · rw [← HE.out, HC.out, if_pos (by rw [← HG.out, ← HG.out]; exact hN)]
        · have hL : Sort.ltInt (G (first + 2 * root + 1)) (G (first + 2 * root + 2)) = false := by assumption
          have HC : Hid (Sort.siftDown Sort.ltInt hi first root dk = _) := rs_sift Sort.ltInt (F := first) (c := 2 * root + 1) dk (by omega) (.inr ⟨rfl, fun _ => by rw [← HG.out, ← HG.out]; exact hL⟩)
          revert nq; intro nq1
          have hcw2 : ∀ t, t < d.size → (wr.drewN nq1).cell? ⟨blk, off + t, none⟩ = some (.int .u64 (G t)) := hcw
          have hfw2 : ∀ t, t < d.size → (wr.drewN nq1).frozen? ⟨blk, off + t, none⟩ = false := hfw
          have H2 : Hid (SR w blk off d dk (wr.drewN nq1)) := HK.out.1.drewN nq1
          have HE : Hid (Sort.siftDown Sort.ltInt hi first root dk = Sort.siftDown Sort.ltInt hi first lo d) := HK.out.2
          clear hcw hfw HK
          generalize wr.drewN nq1 = wr2 at hcw2 hfw2 H2 ⊢
          go_big_quiet (first | (go_at_call 91; refine Calls.quiet_of_same (less_ref _ _ _)))
          go_wp2_with fail
          · have hN : Sort.ltInt (G (first + root)) (G (first + (2 * root + 1))) = false := by
              have : (!Sort.ltInt (G (first + root)) (G (first + (2 * root + 1)))) = true := by assumption
              simpa using this
            (try simp only [Exit.inBlock, Exit.then]); refine bodyPost_ret (results_none rfl _ _ _) rfl ?_
            refine ⟨rfl, ?_⟩
            rw [← HE.out, HC.out, if_neg (by rw [← HG.out, ← HG.out, hN]; decide)]
            exact H2.out.drewN _
          · have hN : Sort.ltInt (G (first + root)) (G (first + (2 * root + 1))) = true := by
              have : (!Sort.ltInt (G (first + root)) (G (first + (2 * root + 1)))) = false := by assumption
              simpa using this
            have hcw3 : ∀ t, t < d.size → (wr2.drewN nq).cell? ⟨blk, off + t, none⟩ = some (.int .u64 (G t)) := hcw2
            have hfw3 : ∀ t, t < d.size → (wr2.drewN nq).frozen? ⟨blk, off + t, none⟩ = false := hfw2
            have H3 : Hid (SR w blk off d dk (wr2.drewN nq)) := H2.out.drewN nq
            clear hcw2 hfw2 H2
            generalize wr2.drewN nq = wr3 at hcw3 hfw3 H3 ⊢
            go_region
            go_wp2
            go_roundg (hi - (2 * root + 1))
            case measure => omega
            case rel =>
              refine ⟨2 * root + 1, Sort.swp dk (first + root) (first + (2 * root + 1)), by simp <;> omega, by omega, Nat.le_refl _, by rw [Sort.size_swp]; exact hds, ?_, ?_⟩
              · rw [HG.out, HG.out]; exact (H3.out.swap (by omega) (by omega)).drew
              · rw [← HE.out, HC.out, if_pos (by rw [← HG.out, ← HG.out]; exact hN)]
      · have h1z : decide (2 * (root : Int) + 1 + 1 < (hi : Int)) = false := decide_eq_false (by omega)
        go_wp2_with fail
        go_big_quiet (first | (go_at_call 91; refine Calls.quiet_of_same (less_ref _ _ _)))
        go_wp2_with fail
        · have HC : Hid (Sort.siftDown Sort.ltInt hi first root dk = _) := rs_sift Sort.ltInt (F := first) (c := 2 * root + 1) dk (by omega) (.inr ⟨rfl, fun h => absurd h h1⟩)
          revert nq; intro nq1
          have hcw2 : ∀ t, t < d.size → (wr.drewN nq1).cell? ⟨blk, off + t, none⟩ = some (.int .u64 (G t)) := hcw
          have hfw2 : ∀ t, t < d.size → (wr.drewN nq1).frozen? ⟨blk, off + t, none⟩ = false := hfw
          have H2 : Hid (SR w blk off d dk (wr.drewN nq1)) := HK.out.1.drewN nq1
          have HE : Hid (Sort.siftDown Sort.ltInt hi first root dk = Sort.siftDown Sort.ltInt hi first lo d) := HK.out.2
          clear hcw hfw HK
          generalize wr.drewN nq1 = wr2 at hcw2 hfw2 H2 ⊢
          go_big_quiet (first | (go_at_call 91; refine Calls.quiet_of_same (less_ref _ _ _)))
          go_wp2_with fail
          · have hN : Sort.ltInt (G (first + root)) (G (first + (2 * root + 1))) = false := by
              have : (!Sort.ltInt (G (first + root)) (G (first + (2 * root + 1)))) = true := by assumption
              simpa using this
            (try simp only [Exit.inBlock, Exit.then]); refine bodyPost_ret (results_none rfl _ _ _) rfl ?_
            refine ⟨rfl, ?_⟩
            rw [← HE.out, HC.out, if_neg (by rw [← HG.out, ← HG.out, hN]; decide)]
            exact H2.out.drewN _
          · have hN : Sort.ltInt (G (first + root)) (G (first + (2 * root + 1))) = true := by
              have : (!Sort.ltInt (G (first + root)) (G (first + (2 * root + 1)))) = false := by assumption
              simpa using this
            have hcw3 : ∀ t, t < d.size → (wr2.drewN nq).cell? ⟨blk, off + t, none⟩ = some (.int .u64 (G t)) := hcw2
            have hfw3 : ∀ t, t < d.size → (wr2.drewN nq).frozen? ⟨blk, off + t, none⟩ = false := hfw2
            have H3 : Hid (SR w blk off d dk (wr2.drewN nq)) := H2.out.drewN nq
            clear hcw2 hfw2 H2
            generalize wr2.drewN nq = wr3 at hcw3 hfw3 H3 ⊢
            go_region
            go_wp2
            go_roundg (hi - (2 * root + 1))
            case measure => omega
            case rel =>
              refine ⟨2 * root + 1, Sort.swp dk (first + root) (first + (2 * root + 1)), by simp <;> omega, by omega, Nat.le_refl _, by rw [Sort.size_swp]; exact hds, ?_, ?_⟩
              · rw [HG.out, HG.out]; exact (H3.out.swap (by omega) (by omega)).drew
              · rw [← HE.out, HC.out, if_pos (by rw [← HG.out, ← HG.out]; exact hN)]
end Go.Proofs.YtikhpbidbcfedaaGreat

/- slices.heapSortOrdered and slices.reverseRangeOrdered at references. -/
namespace Go.Proofs.YtikhpbidbcfedaaGreat
open Go.RowKit

theorem rs_half {a b : Nat} (hab : a ≤ b) : ((b : Int) - (a : Int) - 1).tdiv 2 = (((b - a - 1) / 2 + 1 : Nat) : Int) - 1 := by
  by_cases h : a = b
  · subst h; rw [show ((a : Int) - (a : Int) - 1) = -1 by omega]; simp
  · rw [Int.tdiv_eq_ediv_of_nonneg (by omega)]; omega

set_option maxRecDepth 1000000 in
set_option maxHeartbeats 4000000 in
theorem heap_ref (blk off cap : Nat) (d : Array Int) (a b : Nat) (w : World) (hH : Sort.Holds (Value.int .u64) w blk off d) (hblk : blk < w.heap.size) (hab : a ≤ b) (hb : b ≤ d.size) (hsz : d.size < 4611686018427387904) :
    Calls Tryz.prog 86 #[.slice (some ⟨blk, off, none⟩) d.size cap, .int .i64 a, .int .i64 b] w fun e w' =>
      e = .returned (.tuple #[]) ∧ SR w blk off d (Sort.heapSort Sort.ltInt d a b) w' := by
  have HS : Hid (SR w blk off d d w) := SR.refl hH hblk
  clear hH hblk
  have ecast : ((b - a : Nat) : Int) = (b : Int) - (a : Int) := by omega
  go_enter Tryz.func86, Tryz.ntmps86
  go_wp2
  go_loopg [9] ((b - a - 1) / 2 + 1) (fun k s9 wr => s9 = .int .i64 ((k : Int) - 1) ∧ k ≤ (b - a - 1) / 2 + 1 ∧ ∃ dk : Array Int, dk.size = d.size ∧ Hid (SR w blk off d dk wr ∧ Sort.heapBuild Sort.ltInt (b - a) a k dk = Sort.heapBuild Sort.ltInt (b - a) a ((b - a - 1) / 2 + 1) d))
  case atStart => exact ⟨by rw [rs_half hab], Nat.le_refl _, d, rfl, HS.out, rfl⟩
  case round =>
    obtain ⟨rfl, hkk, dk, hds, HK⟩ := hrel
    cases gk with
    | zero =>
      have HB : Hid (dk = Sort.heapBuild Sort.ltInt (b - a) a ((b - a - 1) / 2 + 1) d) := HK.out.2
      go_wp2
      go_loopg [10] (b - a) (fun k s10 wr2 => s10 = .int .i64 ((k : Int) - 1) ∧ k ≤ b - a ∧ ∃ dj : Array Int, dj.size = d.size ∧ Hid (SR w blk off d dj wr2 ∧ Sort.heapPop Sort.ltInt a k dj = Sort.heapPop Sort.ltInt a (b - a) dk))
      case atStart => exact ⟨by rw [ecast], Nat.le_refl _, dk, hds, HK.out.1, rfl⟩
      case round =>
        obtain ⟨rfl, hkk, dj, hdj, HJ⟩ := hrel
        cases gk with
        | zero =>
          go_wp2
          go_end0
          refine ⟨rfl, ?_⟩
          have e : dj = Sort.heapSort Sort.ltInt d a b := by rw [Sort.heapSort, ← HB.out, ← HJ.out.2]; rfl
          rw [← e]; exact HJ.out.1
        | succ k =>
          obtain ⟨G, hG⟩ : ∃ G : Nat → Int, ∀ t, G t = dj[t]! := ⟨fun t => dj[t]!, fun _ => rfl⟩
          have hcw : ∀ t, t < d.size → wr.cell? ⟨blk, off + t, none⟩ = some (.int .u64 (G t)) := fun t ht => by rw [hG]; exact (HJ.out.1.holds t (by omega)).1
          have hfw : ∀ t, t < d.size → wr.frozen? ⟨blk, off + t, none⟩ = false := fun t ht => (HJ.out.1.holds t (by omega)).2
          have HG : Hid (∀ t, G t = dj[t]!) := hG
          clear hG
          rcases Nat.eq_zero_or_pos k with hk0 | hkp
          · subst hk0
            go_wp2_with fail
            go_region
            go_wp2_with fail
            rw [HG.out]
            have S2 : SR w blk off d (Sort.swp dj a a) _ := (HJ.out.1.swap (i := a) (j := a) (by omega) (by omega)).drew
            refine (sift_ref blk off d.size cap (Sort.swp dj a a) 0 0 a _ S2.holds S2.blt S2.sz (Nat.le_refl _) (by rw [Sort.size_swp]; omega) (by rw [Sort.size_swp]; omega)).mono ?_
            rintro e w1 ⟨rfl, h1⟩
            have S3 := S2.trans h1
            go_wp2
            go_roundg 0
            case measure => omega
            case rel => exact ⟨by simp, by omega, _, S3.sz, S3, by rw [← HJ.out.2]; rfl⟩
          · go_wp2_with fail
            go_region
            go_wp2_with fail
            rw [HG.out, HG.out]
            have S2 : SR w blk off d (Sort.swp dj a (a + k)) _ := (HJ.out.1.swap (i := a) (j := a + k) (by omega) (by omega)).drew
            refine (sift_ref blk off d.size cap (Sort.swp dj a (a + k)) 0 k a _ S2.holds S2.blt S2.sz (Nat.zero_le _) (by rw [Sort.size_swp]; omega) (by rw [Sort.size_swp]; omega)).mono ?_
            rintro e w1 ⟨rfl, h1⟩
            have S3 := S2.trans h1
            go_wp2
            go_roundg k
            case measure => omega
            case rel => exact ⟨by simp, by omega, _, S3.sz, S3, by rw [← HJ.out.2]; rfl⟩
    | succ k =>
      have S1 := HK.out.1
      have hk2 : k ≤ (b - a - 1) / 2 := by omega
      go_wp2_with (go_at_call 111; rw [show ((b : Int) - (a : Int)) = ((b - a : Nat) : Int) from ecast.symm]; refine (sift_ref blk off d.size cap dk k (b - a) a _ S1.holds S1.blt S1.sz (by omega) (by omega) (by omega)).mono ?_; rintro e w1 ⟨rfl, h1⟩)
      have S3 := S1.trans h1
      go_roundg k
      case measure => omega
      case rel => exact ⟨by simp, by omega, _, S3.sz, S3, by rw [← HK.out.2]; rfl⟩

set_option maxRecDepth 1000000 in
set_option maxHeartbeats 4000000 in
theorem rev_ref (blk off cap : Nat) (d : Array Int) (a b : Nat) (w : World) (hH : Sort.Holds (Value.int .u64) w blk off d) (hblk : blk < w.heap.size) (hab : a ≤ b) (hb : b ≤ d.size) (hsz : d.size < 4611686018427387904) :
    Calls Tryz.prog 89 #[.slice (some ⟨blk, off, none⟩) d.size cap, .int .i64 a, .int .i64 b] w fun e w' =>
      e = .returned (.tuple #[]) ∧ ∃ d', Sort.PermIn a b d d' ∧ SR w blk off d d' w' := by
  have HS : Hid (SR w blk off d d w) := SR.refl hH hblk
  clear hH hblk
  go_enter Tryz.func89, Tryz.ntmps89
  go_wp2
  go_loopg [6, 7] (b - a) (fun k s6 s7 wr => ∃ (i : Nat) (jz : Int) (dk : Array Int), s6 = .int .i64 i ∧ s7 = .int .i64 jz ∧ a ≤ i ∧ jz < b ∧ -1 ≤ jz ∧ i ≤ b ∧ (jz - i).toNat ≤ k ∧ dk.size = d.size ∧ Hid (Sort.PermIn a b d dk ∧ SR w blk off d dk wr))
  case atStart => exact ⟨a, (b : Int) - 1, d, rfl, rfl, by omega, by omega, by omega, by omega, by omega, rfl, Sort.permIn_refl _ _ _, HS.out⟩
  case round =>
    obtain ⟨i, jz, dk, rfl, rfl, h1, h2, h3, h4, hk, hds, HK⟩ := hrel
    by_cases hlt : (i : Int) < jz
    · obtain ⟨jn, rfl⟩ : ∃ jn : Nat, jz = jn := ⟨jz.toNat, by omega⟩
      obtain ⟨G, hG⟩ : ∃ G : Nat → Int, ∀ t, G t = dk[t]! := ⟨fun t => dk[t]!, fun _ => rfl⟩
      have hcw : ∀ t, t < d.size → wr.cell? ⟨blk, off + t, none⟩ = some (.int .u64 (G t)) := fun t ht => by rw [hG]; exact (HK.out.2.holds t (by omega)).1
      have hfw : ∀ t, t < d.size → wr.frozen? ⟨blk, off + t, none⟩ = false := fun t ht => (HK.out.2.holds t (by omega)).2
      have HG : Hid (∀ t, G t = dk[t]!) := hG
      clear hG
      have hij : i < jn := by omega
      go_wp2_with fail
      go_region
      go_wp2
      go_roundg (jn - 1 - (i + 1))
      case measure => omega
      case rel =>
        refine ⟨i + 1, (jn : Int) - 1, Sort.swp dk i jn, by simp, rfl, by omega, by omega, by omega, by omega, by omega, by rw [Sort.size_swp]; exact hds, Sort.permIn_trans _ _ _ _ _ HK.out.1 (Sort.swp_permIn _ _ _ _ _ h1 (by omega) (by omega) (by omega) (by omega)), ?_⟩
        rw [HG.out, HG.out]; exact (HK.out.2.swap (by omega) (by omega)).drew
    · go_wp2
      go_end0
      exact ⟨rfl, dk, HK.out.1, HK.out.2⟩
end Go.Proofs.YtikhpbidbcfedaaGreat

/- slices.insertionSortOrdered at references. -/
namespace Go.Proofs.YtikhpbidbcfedaaGreat
open Go.RowKit

section
variable {α : Type} [Inhabited α] (lt : α → α → Bool)
theorem rsInner_go (a j : Nat) (d : Array α) (hj : a < j) (hl : lt d[j]! d[j - 1]! = true) : Sort.insInner lt a j d = Sort.insInner lt a (j - 1) (Sort.swp d j (j - 1)) := by
  cases j with
  | zero => omega
  | succ k => rw [Sort.insInner]; simp only [Nat.add_sub_cancel] at hl ⊢; simp [hj, hl]
theorem rsInner_stop (a j : Nat) (d : Array α) (h : j ≤ a ∨ lt d[j]! d[j - 1]! = false) : Sort.insInner lt a j d = d := by
  cases j with
  | zero => rw [Sort.insInner]
  | succ k =>
    rw [Sort.insInner]
    rcases h with h | h
    · rw [if_neg]; simp; omega
    · simp only [Nat.add_sub_cancel] at h; simp [h]
end

set_option maxRecDepth 100000 in
set_option maxHeartbeats 4000000 in
theorem ins_ref (blk off cap a b : Nat) (d : Array Int) (w : World) (hH : Sort.Holds (Value.int .u64) w blk off d) (hblk : blk < w.heap.size) (hab : a ≤ b) (hb : b ≤ d.size) (hsz : d.size < 4611686018427387904) :
    Calls Tryz.prog 85 #[.slice (some ⟨blk, off, none⟩) d.size cap, .int .i64 a, .int .i64 b] w fun e w' =>
      e = .returned (.tuple #[]) ∧ SR w blk off d (Sort.insertionSort Sort.ltInt d a b) w' := by
  have hS := SR.refl hH hblk
  have HS : Hid (SR w blk off d d w) := hS
  clear hS hH hblk
  go_enter Tryz.func85, Tryz.ntmps85
  go_wp2
  go_loopw [6] (fun vi wr => ∃ (i : Nat) (dk : Array Int), vi = .int .i64 i ∧ a < i ∧ i ≤ b + 1 ∧ dk.size = d.size ∧ Hid (SR w blk off d dk wr ∧
      Sort.insOuter Sort.ltInt a b i dk = Sort.insOuter Sort.ltInt a b (a + 1) d)) (fun vi _ => b + 1 - (intOf vi).toNat)
  case atStart => exact ⟨a + 1, d, by go_num, by omega, by omega, rfl, HS.out, rfl⟩
  case round =>
    obtain ⟨i, dk, rfl, hai, hib, hsk, HO⟩ := hrel
    go_wp2
    · go_loopw [7] (fun vj wr2 => ∃ (j : Nat) (dj : Array Int), vj = .int .i64 j ∧ a ≤ j ∧ j ≤ i ∧ dj.size = d.size ∧ Hid (SR w blk off d dj wr2 ∧
          Sort.insInner Sort.ltInt a j dj = Sort.insInner Sort.ltInt a i dk)) (fun vj _ => (intOf vj).toNat)
      case atStart => exact ⟨i, dk, rfl, by omega, Nat.le_refl _, hsk, HO.out.1, rfl⟩
      case round =>
        obtain ⟨j, dj, rfl, haj, hji, hsj, HI⟩ := hrel
        have hlt : i < b := by assumption
        obtain ⟨G, hG⟩ : ∃ G : Nat → Int, ∀ t, G t = dj[t]! := ⟨fun t => dj[t]!, fun _ => rfl⟩
        have hcw : ∀ t, t < d.size → wr.cell? ⟨blk, off + t, none⟩ = some (.int .u64 (G t)) := fun t ht => by
          rw [hG]; exact (HI.out.1.holds t (by omega)).1
        have hfw : ∀ t, t < d.size → wr.frozen? ⟨blk, off + t, none⟩ = false := fun t ht => (HI.out.1.holds t (by omega)).2
        have HG : Hid (∀ t, G t = dj[t]!) := hG
        clear hG
        have OUT : Hid ((j ≤ a ∨ Sort.ltInt dj[j]! dj[j - 1]! = false) → ∀ q, ∃ (i' : Nat) (dk' : Array Int), Value.int .i64 ((i : Int) + 1) = .int .i64 (i' : Nat) ∧ a < i' ∧ i' ≤ b + 1 ∧ dk'.size = d.size ∧
            Hid (SR w blk off d dk' (wr.drewN q) ∧ Sort.insOuter Sort.ltInt a b i' dk' = Sort.insOuter Sort.ltInt a b (a + 1) d)) := fun hs q =>
          ⟨i + 1, dj, by go_num, by omega, by omega, hsj, HI.out.1.drewN q, by
            rw [← HO.out.2, show Sort.insOuter Sort.ltInt a b i dk = _ from by rw [Sort.insOuter, if_pos hlt], ← HI.out.2, rsInner_stop _ _ _ _ hs]⟩
        go_wp2
        by_cases hja : a < j
        · go_quiet (first | (go_at_call 91; refine Calls.quiet_of_same (less_ref _ _ _)))
          go_wp2
          · have hl : Sort.ltInt (G j) (G (j - 1)) = true := by assumption
            go_region
            all_goals go_wp2
            go_roundw
            case rel =>
              refine ⟨j - 1, Sort.swp dj j (j - 1), by congr 1; omega, by omega, by omega, by rw [Sort.size_swp]; exact hsj, ?_, ?_⟩
              · rw [HG.out, HG.out]
                exact (HI.out.1.drewN _).swap (by omega) (by omega)
              · rw [← HI.out.2, rsInner_go Sort.ltInt a j dj hja (by rw [← HG.out, ← HG.out]; exact hl)]
            case measure => simp [intOf]; omega
          · have hl : Sort.ltInt (G j) (G (j - 1)) = false := by assumption
            go_roundw
            case rel => exact OUT.out (Or.inr (by rw [← HG.out, ← HG.out]; exact hl)) nq
            case measure => simp [intOf]; omega
        · go_quiet (first | (go_at_call 91; refine Calls.quiet_of_same (less_ref _ _ _)))
          go_wp2
          go_roundw
          case rel => exact OUT.out (Or.inl (by omega)) nq
          case measure => simp [intOf]; omega
    · have hge : ¬ i < b := by assumption
      go_end0
      refine ⟨rfl, ?_⟩
      have h := HO.out.2
      rw [Sort.insOuter, if_neg hge] at h
      unfold Sort.insertionSort
      rw [← h]; exact HO.out.1
end Go.Proofs.YtikhpbidbcfedaaGreat

