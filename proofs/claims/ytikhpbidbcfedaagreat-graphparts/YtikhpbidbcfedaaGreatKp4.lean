/- slices.insertionSortOrdered at references. -/
import Derived.Test.YtikhpbidbcfedaaGreatKp3
namespace Go.Proofs.YtikhpbidbcfedaaGreat
open Go.RowKit

section
variable {α : Type} [Inhabited α] (lt : α → α → Bool)
theorem rsInner_go (a j : Nat) (d : Array α) (hj : a < j) (hl : lt d[j]! d[j - 1]! = true) : Sort.insInner lt a j d = Sort.insInner lt a (j - 1) (Sort.swp d j (j - 1)) := by
  cases j with
  | zero => omega
  | succ k => rw [Sort.insInner]; simp only [Nat.add_sub_cancel] at hl ⊢; simp [hj, hl]
theorem rsInner_stop (a j : Nat) (d : Array α) (h : j ≤ a ∨ lt d[j]! d[j - 1]! = false) : Sort.insInner lt a j d = d := by
  cases j with
  | zero => rw [Sort.insInner]
  | succ k =>
    rw [Sort.insInner]
    rcases h with h | h
    · rw [if_neg]; simp; omega
    · simp only [Nat.add_sub_cancel] at h; simp [h]
end

set_option maxRecDepth 100000 in
set_option maxHeartbeats 4000000 in
theorem ins_ref (blk off cap a b : Nat) (d : Array Int) (w : World) (hH : Sort.Holds (Value.int .u64) w blk off d) (hblk : blk < w.heap.size) (hab : a ≤ b) (hb : b ≤ d.size) (hsz : d.size < 4611686018427387904) :
    Calls Tryz.prog 85 #[.slice (some ⟨blk, off, none⟩) d.size cap, .int .i64 a, .int .i64 b] w fun e w' =>
      e = .returned (.tuple #[]) ∧ SR w blk off d (Sort.insertionSort Sort.ltInt d a b) w' := by
  have hS := SR.refl hH hblk
  have HS : Hid (SR w blk off d d w) := hS
  clear hS hH hblk
  go_enter Tryz.func85, Tryz.ntmps85
  go_wp2
  go_loopw [6] (fun vi wr => ∃ (i : Nat) (dk : Array Int), vi = .int .i64 i ∧ a < i ∧ i ≤ b + 1 ∧ dk.size = d.size ∧ Hid (SR w blk off d dk wr ∧
      Sort.insOuter Sort.ltInt a b i dk = Sort.insOuter Sort.ltInt a b (a + 1) d)) (fun vi _ => b + 1 - (intOf vi).toNat)
  case atStart => exact ⟨a + 1, d, by go_num, by omega, by omega, rfl, HS.out, rfl⟩
  case round =>
    obtain ⟨i, dk, rfl, hai, hib, hsk, HO⟩ := hrel
    go_wp2
    · go_loopw [7] (fun vj wr2 => ∃ (j : Nat) (dj : Array Int), vj = .int .i64 j ∧ a ≤ j ∧ j ≤ i ∧ dj.size = d.size ∧ Hid (SR w blk off d dj wr2 ∧
          Sort.insInner Sort.ltInt a j dj = Sort.insInner Sort.ltInt a i dk)) (fun vj _ => (intOf vj).toNat)
      case atStart => exact ⟨i, dk, rfl, by omega, Nat.le_refl _, hsk, HO.out.1, rfl⟩
      case round =>
        obtain ⟨j, dj, rfl, haj, hji, hsj, HI⟩ := hrel
        have hlt : i < b := by assumption
        obtain ⟨G, hG⟩ : ∃ G : Nat → Int, ∀ t, G t = dj[t]! := ⟨fun t => dj[t]!, fun _ => rfl⟩
        have hcw : ∀ t, t < d.size → wr.cell? ⟨blk, off + t, none⟩ = some (.int .u64 (G t)) := fun t ht => by
          rw [hG]; exact (HI.out.1.holds t (by omega)).1
        have hfw : ∀ t, t < d.size → wr.frozen? ⟨blk, off + t, none⟩ = false := fun t ht => (HI.out.1.holds t (by omega)).2
        have HG : Hid (∀ t, G t = dj[t]!) := hG
        clear hG
        have OUT : Hid ((j ≤ a ∨ Sort.ltInt dj[j]! dj[j - 1]! = false) → ∀ q, ∃ (i' : Nat) (dk' : Array Int), Value.int .i64 ((i : Int) + 1) = .int .i64 (i' : Nat) ∧ a < i' ∧ i' ≤ b + 1 ∧ dk'.size = d.size ∧
            Hid (SR w blk off d dk' (wr.drewN q) ∧ Sort.insOuter Sort.ltInt a b i' dk' = Sort.insOuter Sort.ltInt a b (a + 1) d)) := fun hs q =>
          ⟨i + 1, dj, by go_num, by omega, by omega, hsj, HI.out.1.drewN q, by
            rw [← HO.out.2, show Sort.insOuter Sort.ltInt a b i dk = _ from by rw [Sort.insOuter, if_pos hlt], ← HI.out.2, rsInner_stop _ _ _ _ hs]⟩
        go_wp2
        by_cases hja : a < j
        · go_quiet (first | (go_at_call 91; refine Calls.quiet_of_same (less_ref _ _ _)))
          go_wp2
          · have hl : Sort.ltInt (G j) (G (j - 1)) = true := by assumption
            go_region
            all_goals go_wp2
            go_roundw
            case rel =>
              refine ⟨j - 1, Sort.swp dj j (j - 1), by congr 1; omega, by omega, by omega, by rw [Sort.size_swp]; exact hsj, ?_, ?_⟩
              · rw [HG.out, HG.out]
                exact (HI.out.1.drewN _).swap (by omega) (by omega)
              · rw [← HI.out.2, rsInner_go Sort.ltInt a j dj hja (by rw [← HG.out, ← HG.out]; exact hl)]
            case measure => simp [intOf]; omega
          · have hl : Sort.ltInt (G j) (G (j - 1)) = false := by assumption
            go_roundw
            case rel => exact OUT.out (Or.inr (by rw [← HG.out, ← HG.out]; exact hl)) nq
            case measure => simp [intOf]; omega
        · go_quiet (first | (go_at_call 91; refine Calls.quiet_of_same (less_ref _ _ _)))
          go_wp2
          go_roundw
          case rel => exact OUT.out (Or.inl (by omega)) nq
          case measure => simp [intOf]; omega
    · have hge : ¬ i < b := by assumption
      go_end0
      refine ⟨rfl, ?_⟩
      have h := HO.out.2
      rw [Sort.insOuter, if_neg hge] at h
      unfold Sort.insertionSort
      rw [← h]; exact HO.out.1
end Go.Proofs.YtikhpbidbcfedaaGreat

/- slices.partitionEqualOrdered at references: the equals, and then the greater ones. -/
namespace Go.Proofs.YtikhpbidbcfedaaGreat
open Go.RowKit

def QE (a b : Nat) (x : Int) (d dk : Array Int) : Prop := Sort.PermIn a b d dk ∧ dk[a]! = x
def QEu (a i : Nat) (dk : Array Int) : Prop := ∀ t, a < t → t < i → Sort.ltInt dk[a]! dk[t]! = false
def QEd (a j b : Nat) (dk : Array Int) : Prop := ∀ t, j < t → t < b → Sort.ltInt dk[a]! dk[t]! = true
theorem QE.swap {a b i' j' : Nat} {x : Int} {d dk : Array Int} (hs : dk.size = d.size) (h : QE a b x d dk) (hu : QEu a i' dk) (hd : QEd a j' b dk) (hy : Sort.ltInt dk[a]! dk[j']! = false) (hx : Sort.ltInt dk[a]! dk[i']! = true) {i : Nat} (hai : a < i) (hlt : i' < j') (hi : i ≤ i' ∧ j' < b) (hb : b ≤ d.size) :
    QE a b x d (Sort.swp dk i' j') ∧ QEu a (i' + 1) (Sort.swp dk i' j') ∧ QEd a (j' - 1) b (Sort.swp dk i' j') := by
  have e0 : (Sort.swp dk i' j')[a]! = dk[a]! := Sort.swp_other _ _ _ _ (by omega) (by omega)
  have e1 : (Sort.swp dk i' j')[i']! = dk[j']! := Sort.swp_left _ _ _ (by omega) (by omega)
  have e2 : (Sort.swp dk i' j')[j']! = dk[i']! := Sort.swp_right _ _ _ (by omega)
  have e3 : ∀ t, t ≠ i' → t ≠ j' → (Sort.swp dk i' j')[t]! = dk[t]! := fun t h1 h2 => Sort.swp_other _ _ _ _ h1 h2
  refine ⟨⟨Sort.permIn_trans _ _ _ _ _ h.1 (Sort.swp_permIn _ _ _ _ _ (by omega) (by omega) (by omega) (by omega) (by omega)), by rw [e0]; exact h.2⟩, fun t h1 h2 => ?_, fun t h1 h2 => ?_⟩
  · rw [e0]
    by_cases e : t = i'
    · rw [e, e1]; exact hy
    · rw [e3 t e (by omega)]; exact hu t h1 (by omega)
  · rw [e0]
    by_cases e : t = j'
    · rw [e, e2]; exact hx
    · rw [e3 t (by omega) e]; exact hd t (by omega) h2
theorem QE.out {a b i' j' : Nat} {x : Int} {d dk : Array Int} (h : QE a b x d dk) (hu : QEu a i' dk) (hd : QEd a j' b dk) (h2 : j' < i') :
    (∀ t, a ≤ t → t < i' → Sort.ltInt x dk[t]! = false) ∧ (∀ t, i' ≤ t → t < b → Sort.ltInt x dk[t]! = true) := by
  refine ⟨fun t h3 h4 => ?_, fun t h3 h4 => ?_⟩
  · by_cases e : t = a
    · rw [e, h.2]; exact swo_ref.irrefl _
    · rw [← h.2]; exact hu t (by omega) h4
  · rw [← h.2]; exact hd t (by omega) h4

set_option maxRecDepth 100000 in
set_option maxHeartbeats 6400000 in
theorem peq_ref (blk off cap a b pivot : Nat) (d : Array Int) (w : World) (hH : Sort.Holds (Value.int .u64) w blk off d) (hblk : blk < w.heap.size) (hap : a ≤ pivot) (hpb : pivot < b) (hb : b ≤ d.size) (hsz : d.size < 4611686018427387904) :
    Calls Tryz.prog 92 #[.slice (some ⟨blk, off, none⟩) d.size cap, .int .i64 a, .int .i64 b, .int .i64 pivot] w fun e w' =>
      ∃ (m : Nat) (d' : Array Int), e = .returned (.int .i64 m) ∧ a < m ∧ m ≤ b ∧ Sort.PermIn a b d d' ∧ SR w blk off d d' w' ∧ (∀ t, a ≤ t → t < m → Sort.ltInt d[pivot]! d'[t]! = false) ∧ (∀ t, m ≤ t → t < b → Sort.ltInt d[pivot]! d'[t]! = true) := by
  have HS : Hid (SR w blk off d d w) := SR.refl hH hblk
  have hla : a < d.size := by omega
  have hlp : pivot < d.size := by omega
  obtain ⟨G, hG⟩ : ∃ G : Nat → Int, ∀ j, G j = d[j]! := ⟨fun j => d[j]!, fun _ => rfl⟩
  have ca : w.cell? ⟨blk, off + a, none⟩ = some (.int .u64 (G a)) := by rw [hG]; exact (hH a hla).1
  have fa := (hH a hla).2
  have cp : w.cell? ⟨blk, off + pivot, none⟩ = some (.int .u64 (G pivot)) := by rw [hG]; exact (hH pivot hlp).1
  have fp := (hH pivot hlp).2
  obtain ⟨v', hy'⟩ := cell?_setCell_some (w := w) (p := ⟨blk, off + a, none⟩) (x := .int .u64 (G pivot)) (q := ⟨blk, off + pivot, none⟩) cp
  have A0 : Hid (∀ j, G j = d[j]!) := hG
  clear hG hH hblk

  go_enter Tryz.func92, Tryz.ntmps92
  go_wp2
  go_region
  go_wp2
  go_loopw [9, 10] (fun vi vj wr => ∃ (i j : Nat) (dk : Array Int), vi = .int .i64 i ∧ vj = .int .i64 j ∧ a < i ∧ i ≤ j + 1 ∧ j < b ∧ dk.size = d.size ∧ Hid (SR w blk off d dk wr) ∧ Hid (QE a b d[pivot]! d dk ∧ QEu a i dk ∧ QEd a j b dk))
    (fun vi vj _ => (intOf vj).toNat + 1 - (intOf vi).toNat)
  case atStart =>
    refine ⟨a + 1, b - 1, Sort.swp d a pivot, by go_num, by go_num, by omega, by omega, by omega, Sort.size_swp _ _ _, ?_, ⟨Sort.swp_permIn _ _ _ _ _ (by omega) (by omega) (by omega) (by omega) (by omega), ?_⟩, fun t h1 h2 => by omega, fun t h1 h2 => by omega⟩
    · rw [A0.out a, A0.out pivot]; exact (HS.out.swap hla hlp).drew
    · by_cases e : a = pivot
      · subst e; exact Sort.swp_right _ _ _ hla
      · exact Sort.swp_left _ _ _ hla e
  case round =>
    obtain ⟨i, j, dk, rfl, rfl, hai, hij, hjb, hs, HW, HQ⟩ := hrel
    clear ca fa cp fp hy' v' A0
    have HP : Hid (QE a b d[pivot]! d dk) := HQ.out.1
    have HU : Hid (QEu a i dk) := HQ.out.2.1
    have HD : Hid (QEd a j b dk) := HQ.out.2.2
    clear HQ
    obtain ⟨Gk, hG⟩ : ∃ Gk : Nat → Int, ∀ t, Gk t = dk[t]! := ⟨fun t => dk[t]!, fun _ => rfl⟩
    have AG : Hid (∀ t, Gk t = dk[t]!) := hG
    clear hG
    go_wp2
    go_loopw [9] (fun vi w1 => ∃ i' : Nat, vi = .int .i64 i' ∧ i ≤ i' ∧ i' ≤ j + 1 ∧ Hid (SR w blk off d dk w1 ∧ ∀ t, a < t → t < i' → Sort.ltInt dk[a]! dk[t]! = false))
      (fun vi _ => j + 1 - (intOf vi).toNat)
    case atStart => exact ⟨i, rfl, Nat.le_refl _, hij, HW.out, HU.out⟩
    case round =>
      obtain ⟨i', rfl, hii, hij', HR⟩ := hrel
      have hcw : ∀ t, t < d.size → wr.cell? ⟨blk, off + t, none⟩ = some (.int .u64 (Gk t)) := fun t ht => by rw [AG.out]; exact (HR.out.1.holds t (by omega)).1
      by_cases hle : i' ≤ j
      · go_wp2_with fail
        go_big_quiet (first | (go_at_call 91; refine Calls.quiet_of_same (less_ref _ _ _)))
        go_wp2
        · have ht : (!Sort.ltInt (Gk a) (Gk i')) = true := by assumption
          go_roundw
          case rel => exact ⟨i' + 1, by go_num, by omega, by omega, HR.out.1.drewN _, fun t h1 h2 => by
            by_cases e : t = i'
            · subst e; rw [← AG.out, ← AG.out]; simpa using ht
            · exact HR.out.2 t h1 (by omega)⟩
          case measure => simp [intOf]; omega
        · have ht : (!Sort.ltInt (Gk a) (Gk i')) = false := by assumption
          have HX : Hid (j < i' ∨ Sort.ltInt dk[a]! dk[i']! = true) := .inr (by rw [← AG.out, ← AG.out]; simpa using ht)
          have HV : Hid (SR w blk off d dk (wr.drewN nq)) := HR.out.1.drewN nq
          have HU2 : Hid (∀ t, a < t → t < i' → Sort.ltInt dk[a]! dk[t]! = false) := HR.out.2
          clear ht hcw HR
          go_loopw [10] (fun vj w2 => ∃ j' : Nat, vj = .int .i64 j' ∧ j' ≤ j ∧ i' ≤ j' + 1 ∧ Hid (SR w blk off d dk w2 ∧ ∀ t, j' < t → t < b → Sort.ltInt dk[a]! dk[t]! = true))
            (fun vj _ => (intOf vj).toNat)
          case atStart => exact ⟨j, rfl, Nat.le_refl _, hij', HV.out, HD.out⟩
          case round =>
            clear HV
            obtain ⟨j', rfl, hjj, hij2, HR2⟩ := hrel
            have hcw : ∀ t, t < d.size → wr.cell? ⟨blk, off + t, none⟩ = some (.int .u64 (Gk t)) := fun t ht => by rw [AG.out]; exact (HR2.out.1.holds t (by omega)).1
            by_cases hle2 : i' ≤ j'
            · go_wp2_with fail
              go_big_quiet (first | (go_at_call 91; refine Calls.quiet_of_same (less_ref _ _ _)))
              go_wp2
              · have ht : Sort.ltInt (Gk a) (Gk j') = true := by assumption
                go_roundw
                case rel => exact ⟨j' - 1, by go_num, by omega, by omega, HR2.out.1.drewN _, fun t h1 h2 => by
                  by_cases e : t = j'
                  · subst e; rw [← AG.out, ← AG.out]; simpa using ht
                  · exact HR2.out.2 t (by omega) h2⟩
                case measure => simp [intOf]; omega
              · have ht : Sort.ltInt (Gk a) (Gk j') = false := by assumption
                have HY : Hid (Sort.ltInt dk[a]! dk[j']! = false) := by show _ = _; rw [← AG.out, ← AG.out]; simpa using ht
                have H3 : Hid (SR w blk off d dk (wr.drewN nq)) := HR2.out.1.drewN nq
                have HD2 : Hid (∀ t, j' < t → t < b → Sort.ltInt dk[a]! dk[t]! = true) := HR2.out.2
                clear ht hcw HR2
                have hlt3 : i' < j' := by
                  rcases HX.out with h | h
                  · omega
                  · rcases Nat.lt_or_ge i' j' with h1 | h1
                    · exact h1
                    · exfalso
                      have h2 := HY.out
                      rw [show j' = i' by omega, h] at h2
                      cases h2
                generalize wr.drewN nq = W3 at H3 ⊢
                have hc3 : ∀ t, t < d.size → W3.cell? ⟨blk, off + t, none⟩ = some (.int .u64 (Gk t)) := fun t ht => by rw [AG.out]; exact (H3.out.holds t (by omega)).1
                have hf3 : ∀ t, t < d.size → W3.frozen? ⟨blk, off + t, none⟩ = false := fun t ht => (H3.out.holds t (by omega)).2
                obtain ⟨v3, hy3⟩ := cell?_setCell_some (w := W3) (p := ⟨blk, off + i', none⟩) (x := .int .u64 (Gk j')) (q := ⟨blk, off + j', none⟩) (hc3 j' (by omega))
                go_wp2
                go_region
                all_goals go_wp2
                all_goals go_roundw
                case rel =>
                  refine ⟨i' + 1, j' - 1, Sort.swp dk i' j', by go_num, by go_num, by omega, by omega, by omega, by rw [Sort.size_swp]; exact hs, ?_, ?_⟩
                  · rw [AG.out i', AG.out j']; exact (H3.out.swap (by omega) (by omega)).drew
                  · exact QE.swap hs HP.out HU2.out HD2.out HY.out (HX.out.resolve_left (by omega)) hai hlt3 (by omega) hb
                case measure => simp [intOf]; omega
            · go_wp2_with fail
              go_big_quiet (first | (go_at_call 91; refine Calls.quiet_of_same (less_ref _ _ _)))
              have H3 : Hid (SR w blk off d dk (wr.drewN nq)) := HR2.out.1.drewN nq
              have HD2 : Hid (∀ t, j' < t → t < b → Sort.ltInt dk[a]! dk[t]! = true) := HR2.out.2
              clear hcw HR2
              generalize wr.drewN nq = W3 at H3 ⊢
              have hc3 : ∀ t, t < d.size → W3.cell? ⟨blk, off + t, none⟩ = some (.int .u64 (Gk t)) := fun t ht => by rw [AG.out]; exact (H3.out.holds t (by omega)).1
              have hf3 : ∀ t, t < d.size → W3.frozen? ⟨blk, off + t, none⟩ = false := fun t ht => (H3.out.holds t (by omega)).2
              go_wp2
              go_ret
              exact ⟨i', dk, rfl, by omega, by omega, HP.out.1, H3.out, QE.out HP.out HU2.out HD2.out (by omega)⟩
      · go_wp2_with fail
        go_big_quiet (first | (go_at_call 91; refine Calls.quiet_of_same (less_ref _ _ _)))
        go_wp2
        have HX : Hid (j < i' ∨ Sort.ltInt dk[a]! dk[i']! = true) := .inl (by omega)
        have HV : Hid (SR w blk off d dk (wr.drewN nq)) := HR.out.1.drewN nq
        have HU2 : Hid (∀ t, a < t → t < i' → Sort.ltInt dk[a]! dk[t]! = false) := HR.out.2
        clear hcw HR
        go_loopw [10] (fun vj w2 => ∃ j' : Nat, vj = .int .i64 j' ∧ j' ≤ j ∧ i' ≤ j' + 1 ∧ Hid (SR w blk off d dk w2 ∧ ∀ t, j' < t → t < b → Sort.ltInt dk[a]! dk[t]! = true))
          (fun vj _ => (intOf vj).toNat)
        case atStart => exact ⟨j, rfl, Nat.le_refl _, hij', HV.out, HD.out⟩
        case round =>
          clear HV
          obtain ⟨j', rfl, hjj, hij2, HR2⟩ := hrel
          have hcw : ∀ t, t < d.size → wr.cell? ⟨blk, off + t, none⟩ = some (.int .u64 (Gk t)) := fun t ht => by rw [AG.out]; exact (HR2.out.1.holds t (by omega)).1
          by_cases hle2 : i' ≤ j'
          · exfalso; omega
          · go_wp2_with fail
            go_big_quiet (first | (go_at_call 91; refine Calls.quiet_of_same (less_ref _ _ _)))
            have H3 : Hid (SR w blk off d dk (wr.drewN nq)) := HR2.out.1.drewN nq
            have HD2 : Hid (∀ t, j' < t → t < b → Sort.ltInt dk[a]! dk[t]! = true) := HR2.out.2
            clear hcw HR2
            generalize wr.drewN nq = W3 at H3 ⊢
            have hc3 : ∀ t, t < d.size → W3.cell? ⟨blk, off + t, none⟩ = some (.int .u64 (Gk t)) := fun t ht => by rw [AG.out]; exact (H3.out.holds t (by omega)).1
            have hf3 : ∀ t, t < d.size → W3.frozen? ⟨blk, off + t, none⟩ = false := fun t ht => (H3.out.holds t (by omega)).2
            go_wp2
            go_ret
            exact ⟨i', dk, rfl, by omega, by omega, HP.out.1, H3.out, QE.out HP.out HU2.out HD2.out (by omega)⟩
end Go.Proofs.YtikhpbidbcfedaaGreat

