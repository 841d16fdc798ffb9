/- slices.partitionOrdered at references: the lesser ones, the pivot, the others. -/
import Derived.Test.YtikhpbidbcfedaaGreatKp3
namespace Go.Proofs.YtikhpbidbcfedaaGreat
open Go.RowKit

def QP (a b : Nat) (x : Int) (d dk : Array Int) : Prop := Sort.PermIn a b d dk ∧ dk[a]! = x
def QPu (a i : Nat) (dk : Array Int) : Prop := ∀ t, a < t → t < i → Sort.ltInt dk[t]! dk[a]! = true
def QPd (a j b : Nat) (dk : Array Int) : Prop := ∀ t, j < t → t < b → Sort.ltInt dk[t]! dk[a]! = false
theorem QP.swap {a b i' j' : Nat} {x : Int} {d dk : Array Int} (hs : dk.size = d.size) (h : QP a b x d dk) (hu : QPu a i' dk) (hd : QPd a j' b dk) (hy : Sort.ltInt dk[j']! dk[a]! = true) (hx : Sort.ltInt dk[i']! dk[a]! = false) {i : Nat} (hai : a < i) (hlt : i' < j') (hi : i ≤ i' ∧ j' < b) (hb : b ≤ d.size) :
    QP a b x d (Sort.swp dk i' j') ∧ QPu a (i' + 1) (Sort.swp dk i' j') ∧ QPd a (j' - 1) b (Sort.swp dk i' j') := by
  have e0 : (Sort.swp dk i' j')[a]! = dk[a]! := Sort.swp_other _ _ _ _ (by omega) (by omega)
  have e1 : (Sort.swp dk i' j')[i']! = dk[j']! := Sort.swp_left _ _ _ (by omega) (by omega)
  have e2 : (Sort.swp dk i' j')[j']! = dk[i']! := Sort.swp_right _ _ _ (by omega)
  have e3 : ∀ t, t ≠ i' → t ≠ j' → (Sort.swp dk i' j')[t]! = dk[t]! := fun t h1 h2 => Sort.swp_other _ _ _ _ h1 h2
  refine ⟨⟨Sort.permIn_trans _ _ _ _ _ h.1 (Sort.swp_permIn _ _ _ _ _ (by omega) (by omega) (by omega) (by omega) (by omega)), by rw [e0]; exact h.2⟩, fun t h1 h2 => ?_, fun t h1 h2 => ?_⟩
  · rw [e0]
    by_cases e : t = i'
    · rw [e, e1]; exact hy
    · rw [e3 t e (by omega)]; exact hu t h1 (by omega)
  · rw [e0]
    by_cases e : t = j'
    · rw [e, e2]; exact hx
    · rw [e3 t (by omega) e]; exact hd t (by omega) h2
theorem QP.out {a b i' j' : Nat} {x : Int} {d dk : Array Int} (hs : dk.size = d.size) (h : QP a b x d dk) (hu : QPu a i' dk) (hd : QPd a j' b dk) (h1 : a < i') (h2 : j' + 1 = i') (h3 : j' < b) (hb : b ≤ d.size) :
    (∀ t, a ≤ t → t < j' → Sort.ltInt (Sort.swp dk j' a)[t]! (Sort.swp dk j' a)[j']! = true) ∧ (∀ t, j' < t → t < b → Sort.ltInt (Sort.swp dk j' a)[t]! (Sort.swp dk j' a)[j']! = false) := by
  have e0 : (Sort.swp dk j' a)[a]! = dk[j']! := Sort.swp_right _ _ _ (by omega)
  have e1 : (Sort.swp dk j' a)[j']! = dk[a]! := by
    by_cases e : j' = a
    · subst e; exact Sort.swp_right _ _ _ (by omega)
    · exact Sort.swp_left _ _ _ (by omega) e
  refine ⟨fun t h4 h5 => ?_, fun t h4 h5 => ?_⟩
  · rw [e1]
    by_cases e : t = a
    · rw [e, e0]; exact hu j' (by omega) (by omega)
    · rw [Sort.swp_other _ _ _ _ (by omega) e]; exact hu t (by omega) (by omega)
  · rw [e1, Sort.swp_other _ _ _ _ (by omega) (by omega)]; exact hd t h4 h5

set_option maxRecDepth 100000 in
set_option maxHeartbeats 12800000 in
theorem part_ref (blk off cap a b pivot : Nat) (d : Array Int) (w : World) (hH : Sort.Holds (Value.int .u64) w blk off d) (hblk : blk < w.heap.size) (hap : a ≤ pivot) (hpb : pivot < b) (hb : b ≤ d.size) (hsz : d.size < 4611686018427387904) :
    Calls Tryz.prog 93 #[.slice (some ⟨blk, off, none⟩) d.size cap, .int .i64 a, .int .i64 b, .int .i64 pivot] w fun e w' =>
      ∃ (m : Nat) (d' : Array Int) (al : Bool), e = .returned (.tuple #[.int .i64 m, .bool al]) ∧ a ≤ m ∧ m < b ∧ Sort.PermIn a b d d' ∧ SR w blk off d d' w' ∧ (∀ t, a ≤ t → t < m → Sort.ltInt d'[t]! d'[m]! = true) ∧ (∀ t, m < t → t < b → Sort.ltInt d'[t]! d'[m]! = false) := by
  have HS : Hid (SR w blk off d d w) := SR.refl hH hblk
  have hla : a < d.size := by omega
  have hlp : pivot < d.size := by omega
  obtain ⟨G, hG⟩ : ∃ G : Nat → Int, ∀ j, G j = d[j]! := ⟨fun j => d[j]!, fun _ => rfl⟩
  have ca : w.cell? ⟨blk, off + a, none⟩ = some (.int .u64 (G a)) := by rw [hG]; exact (hH a hla).1
  have fa := (hH a hla).2
  have cp : w.cell? ⟨blk, off + pivot, none⟩ = some (.int .u64 (G pivot)) := by rw [hG]; exact (hH pivot hlp).1
  have fp := (hH pivot hlp).2
  obtain ⟨v', hy'⟩ := cell?_setCell_some (w := w) (p := ⟨blk, off + a, none⟩) (x := .int .u64 (G pivot)) (q := ⟨blk, off + pivot, none⟩) cp
  have A0 : Hid (∀ j, G j = d[j]!) := hG
  clear hG hH hblk

  go_enter Tryz.func93, Tryz.ntmps93
  go_wp2
  go_region
  go_wp2
  obtain ⟨i, hi0⟩ : ∃ i, i = a + 1 := ⟨_, rfl⟩
  obtain ⟨j, hj0⟩ : ∃ j, j = b - 1 := ⟨_, rfl⟩
  have hai : a < i := by omega
  have hij : i ≤ j + 1 := by omega
  have hjb : j < b := by omega
  obtain ⟨dk, hdk⟩ : ∃ dk, dk = Sort.swp d a pivot := ⟨_, rfl⟩
  have hs : dk.size = d.size := by rw [hdk]; exact Sort.size_swp _ _ _
  have HW : Hid (SR w blk off d dk ((w.setCell ⟨blk, off + a, none⟩ (.int .u64 (G pivot))).setCell ⟨blk, off + pivot, none⟩ (.int .u64 (G a))).drew) := by
    rw [hdk, A0.out a, A0.out pivot]; exact (HS.out.swap hla hlp).drew
  have HP : Hid (QP a b d[pivot]! d dk) := by
    rw [hdk]
    refine ⟨Sort.swp_permIn _ _ _ _ _ (by omega) (by omega) (by omega) (by omega) (by omega), ?_⟩
    by_cases e : a = pivot
    · subst e; exact Sort.swp_right _ _ _ hla
    · exact Sort.swp_left _ _ _ hla e
  have HU : Hid (QPu a i dk) := fun t h1 h2 => by omega
  have HD : Hid (QPd a j b dk) := fun t h1 h2 => by omega
  have ei : (a : Int) + 1 = (i : Int) := by omega
  have ej : (b : Int) - 1 = (j : Int) := by omega
  clear hdk ca fa cp fp hy' v' A0 HS
  simp only [ei, ej]
  clear ei ej hi0 hj0
  obtain ⟨Gk, hG⟩ : ∃ Gk : Nat → Int, ∀ t, Gk t = dk[t]! := ⟨fun t => dk[t]!, fun _ => rfl⟩
  have AG : Hid (∀ t, Gk t = dk[t]!) := hG
  clear hG
  go_loopw [10] (fun vi w1 => ∃ i' : Nat, vi = .int .i64 i' ∧ i ≤ i' ∧ i' ≤ j + 1 ∧ Hid (SR w blk off d dk w1 ∧ ∀ t, a < t → t < i' → Sort.ltInt dk[t]! dk[a]! = true))
    (fun vi _ => j + 1 - (intOf vi).toNat)
  case atStart => exact ⟨i, rfl, Nat.le_refl _, hij, HW.out, HU.out⟩
  case round =>
    obtain ⟨i', rfl, hii, hij', HR⟩ := hrel
    have hcw : ∀ t, t < d.size → wr.cell? ⟨blk, off + t, none⟩ = some (.int .u64 (Gk t)) := fun t ht => by rw [AG.out]; exact (HR.out.1.holds t (by omega)).1
    by_cases hle : i' ≤ j
    · go_wp2_with fail
      go_big_quiet (first | (go_at_call 91; refine Calls.quiet_of_same (less_ref _ _ _)))
      go_wp2
      · have ht : Sort.ltInt (Gk i') (Gk a) = true := by assumption
        go_roundw
        case rel => exact ⟨i' + 1, by go_num, by omega, by omega, HR.out.1.drewN _, fun t h1 h2 => by
          by_cases e : t = i'
          · subst e; rw [← AG.out, ← AG.out]; simpa using ht
          · exact HR.out.2 t h1 (by omega)⟩
        case measure => simp [intOf]; omega
      · have ht : Sort.ltInt (Gk i') (Gk a) = false := by assumption
        have HX : Hid (j < i' ∨ Sort.ltInt dk[i']! dk[a]! = false) := .inr (by rw [← AG.out, ← AG.out]; simpa using ht)
        have HV : Hid (SR w blk off d dk (wr.drewN nq)) := HR.out.1.drewN nq
        have HU2 : Hid (∀ t, a < t → t < i' → Sort.ltInt dk[t]! dk[a]! = true) := HR.out.2
        clear ht hcw HR
        go_loopw [11] (fun vj w2 => ∃ j' : Nat, vj = .int .i64 j' ∧ j' ≤ j ∧ i' ≤ j' + 1 ∧ Hid (SR w blk off d dk w2 ∧ ∀ t, j' < t → t < b → Sort.ltInt dk[t]! dk[a]! = false))
          (fun vj _ => (intOf vj).toNat)
        case atStart => exact ⟨j, rfl, Nat.le_refl _, hij', HV.out, HD.out⟩
        case round =>
          clear HV
          obtain ⟨j', rfl, hjj, hij2, HR2⟩ := hrel
          have hcw : ∀ t, t < d.size → wr.cell? ⟨blk, off + t, none⟩ = some (.int .u64 (Gk t)) := fun t ht => by rw [AG.out]; exact (HR2.out.1.holds t (by omega)).1
          by_cases hle2 : i' ≤ j'
          · go_wp2_with fail
            go_big_quiet (first | (go_at_call 91; refine Calls.quiet_of_same (less_ref _ _ _)))
            go_wp2
            · have ht : (!Sort.ltInt (Gk j') (Gk a)) = true := by assumption
              go_roundw
              case rel => exact ⟨j' - 1, by go_num, by omega, by omega, HR2.out.1.drewN _, fun t h1 h2 => by
                by_cases e : t = j'
                · subst e; rw [← AG.out, ← AG.out]; simpa using ht
                · exact HR2.out.2 t (by omega) h2⟩
              case measure => simp [intOf]; omega
            · have ht : (!Sort.ltInt (Gk j') (Gk a)) = false := by assumption
              have HY : Hid (Sort.ltInt dk[j']! dk[a]! = true) := by show _ = _; rw [← AG.out, ← AG.out]; simpa using ht
              have H3 : Hid (SR w blk off d dk (wr.drewN nq)) := HR2.out.1.drewN nq
              have HD2 : Hid (∀ t, j' < t → t < b → Sort.ltInt dk[t]! dk[a]! = false) := HR2.out.2
              clear ht hcw HR2
              have hlt3 : i' < j' := by
                rcases HX.out with h | h
                · omega
                · rcases Nat.lt_or_ge i' j' with h1 | h1
                  · exact h1
                  · exfalso
                    have h2 := HY.out
                    rw [show j' = i' by omega, h] at h2
                    cases h2
              generalize wr.drewN nq = W3 at H3 ⊢
              have hc3 : ∀ t, t < d.size → W3.cell? ⟨blk, off + t, none⟩ = some (.int .u64 (Gk t)) := fun t ht => by rw [AG.out]; exact (H3.out.holds t (by omega)).1
              have hf3 : ∀ t, t < d.size → W3.frozen? ⟨blk, off + t, none⟩ = false := fun t ht => (H3.out.holds t (by omega)).2
              obtain ⟨v3, hy3⟩ := cell?_setCell_some (w := W3) (p := ⟨blk, off + i', none⟩) (x := .int .u64 (Gk j')) (q := ⟨blk, off + j', none⟩) (hc3 j' (by omega))
              go_wp2
              go_region
              all_goals go_wp2
              have HZ : Hid (SR w blk off d (Sort.swp dk i' j') ((W3.setCell ⟨blk, off + i', none⟩ (.int .u64 (Gk j'))).setCell ⟨blk, off + j', none⟩ (.int .u64 (Gk i'))).drew) := by
                rw [AG.out i', AG.out j']; exact (H3.out.swap (i := i') (j := j') (by omega) (by omega)).drew
              have HZ2 := QP.swap hs HP.out HU2.out HD2.out HY.out (HX.out.resolve_left (by omega)) hai hlt3 (by omega) hb
              have HZ3 : Hid _ := HZ2
              clear HZ2 v3 hy3 hc3 hf3
              go_loopw [10, 11] (fun vi vj wr => ∃ (i j : Nat) (dk : Array Int), vi = .int .i64 i ∧ vj = .int .i64 j ∧ a < i ∧ i ≤ j + 1 ∧ j < b ∧ dk.size = d.size ∧ Hid (SR w blk off d dk wr) ∧ Hid (QP a b d[pivot]! d dk ∧ QPu a i dk ∧ QPd a j b dk))
                (fun vi vj _ => (intOf vj).toNat + 1 - (intOf vi).toNat)
              case atStart => exact ⟨i' + 1, j' - 1, Sort.swp dk i' j', by go_num, by go_num, by omega, by omega, by omega, by rw [Sort.size_swp]; exact hs, HZ, HZ3.out⟩
              case round =>
                clear HZ HZ3 HP HU HD HU2 HD2 HX HY H3 AG HW
                clear hij' hii hjj hij2 hle hle2 hlt3 hij hai hjb hs
                obtain ⟨i, j, dk, rfl, rfl, hai, hij, hjb, hs, HW, HQ⟩ := hrel
                have HP : Hid (QP a b d[pivot]! d dk) := HQ.out.1
                have HU : Hid (QPu a i dk) := HQ.out.2.1
                have HD : Hid (QPd a j b dk) := HQ.out.2.2
                clear HQ
                obtain ⟨Gk, hG⟩ : ∃ Gk : Nat → Int, ∀ t, Gk t = dk[t]! := ⟨fun t => dk[t]!, fun _ => rfl⟩
                have AG : Hid (∀ t, Gk t = dk[t]!) := hG
                clear hG
                go_wp2
                go_loopw [10] (fun vi w1 => ∃ i' : Nat, vi = .int .i64 i' ∧ i ≤ i' ∧ i' ≤ j + 1 ∧ Hid (SR w blk off d dk w1 ∧ ∀ t, a < t → t < i' → Sort.ltInt dk[t]! dk[a]! = true))
                  (fun vi _ => j + 1 - (intOf vi).toNat)
                case atStart => exact ⟨i, rfl, Nat.le_refl _, hij, HW.out, HU.out⟩
                case round =>
                  obtain ⟨i', rfl, hii, hij', HR⟩ := hrel
                  have hcw : ∀ t, t < d.size → wr.cell? ⟨blk, off + t, none⟩ = some (.int .u64 (Gk t)) := fun t ht => by rw [AG.out]; exact (HR.out.1.holds t (by omega)).1
                  by_cases hle : i' ≤ j
                  · go_wp2_with fail
                    go_big_quiet (first | (go_at_call 91; refine Calls.quiet_of_same (less_ref _ _ _)))
                    go_wp2
                    · have ht : Sort.ltInt (Gk i') (Gk a) = true := by assumption
                      go_roundw
                      case rel => exact ⟨i' + 1, by go_num, by omega, by omega, HR.out.1.drewN _, fun t h1 h2 => by
                        by_cases e : t = i'
                        · subst e; rw [← AG.out, ← AG.out]; simpa using ht
                        · exact HR.out.2 t h1 (by omega)⟩
                      case measure => simp [intOf]; omega
                    · have ht : Sort.ltInt (Gk i') (Gk a) = false := by assumption
                      have HX : Hid (j < i' ∨ Sort.ltInt dk[i']! dk[a]! = false) := .inr (by rw [← AG.out, ← AG.out]; simpa using ht)
                      have HV : Hid (SR w blk off d dk (wr.drewN nq)) := HR.out.1.drewN nq
                      have HU2 : Hid (∀ t, a < t → t < i' → Sort.ltInt dk[t]! dk[a]! = true) := HR.out.2
                      clear ht hcw HR
                      go_loopw [11] (fun vj w2 => ∃ j' : Nat, vj = .int .i64 j' ∧ j' ≤ j ∧ i' ≤ j' + 1 ∧ Hid (SR w blk off d dk w2 ∧ ∀ t, j' < t → t < b → Sort.ltInt dk[t]! dk[a]! = false))
                        (fun vj _ => (intOf vj).toNat)
                      case atStart => exact ⟨j, rfl, Nat.le_refl _, hij', HV.out, HD.out⟩
                      case round =>
                        clear HV
                        obtain ⟨j', rfl, hjj, hij2, HR2⟩ := hrel
                        have hcw : ∀ t, t < d.size → wr.cell? ⟨blk, off + t, none⟩ = some (.int .u64 (Gk t)) := fun t ht => by rw [AG.out]; exact (HR2.out.1.holds t (by omega)).1
                        by_cases hle2 : i' ≤ j'
                        · go_wp2_with fail
                          go_big_quiet (first | (go_at_call 91; refine Calls.quiet_of_same (less_ref _ _ _)))
                          go_wp2
                          · have ht : (!Sort.ltInt (Gk j') (Gk a)) = true := by assumption
                            go_roundw
                            case rel => exact ⟨j' - 1, by go_num, by omega, by omega, HR2.out.1.drewN _, fun t h1 h2 => by
                              by_cases e : t = j'
                              · subst e; rw [← AG.out, ← AG.out]; simpa using ht
                              · exact HR2.out.2 t (by omega) h2⟩
                            case measure => simp [intOf]; omega
                          · have ht : (!Sort.ltInt (Gk j') (Gk a)) = false := by assumption
                            have HY : Hid (Sort.ltInt dk[j']! dk[a]! = true) := by show _ = _; rw [← AG.out, ← AG.out]; simpa using ht
                            have H3 : Hid (SR w blk off d dk (wr.drewN nq)) := HR2.out.1.drewN nq
                            have HD2 : Hid (∀ t, j' < t → t < b → Sort.ltInt dk[t]! dk[a]! = false) := HR2.out.2
                            clear ht hcw HR2
                            have hlt3 : i' < j' := by
                              rcases HX.out with h | h
                              · omega
                              · rcases Nat.lt_or_ge i' j' with h1 | h1
                                · exact h1
                                · exfalso
                                  have h2 := HY.out
                                  rw [show j' = i' by omega, h] at h2
                                  cases h2
                            generalize wr.drewN nq = W3 at H3 ⊢
                            have hc3 : ∀ t, t < d.size → W3.cell? ⟨blk, off + t, none⟩ = some (.int .u64 (Gk t)) := fun t ht => by rw [AG.out]; exact (H3.out.holds t (by omega)).1
                            have hf3 : ∀ t, t < d.size → W3.frozen? ⟨blk, off + t, none⟩ = false := fun t ht => (H3.out.holds t (by omega)).2
                            obtain ⟨v3, hy3⟩ := cell?_setCell_some (w := W3) (p := ⟨blk, off + i', none⟩) (x := .int .u64 (Gk j')) (q := ⟨blk, off + j', none⟩) (hc3 j' (by omega))
                            go_wp2
                            go_region
                            all_goals go_wp2
                            all_goals go_roundw
                            case rel =>
                              refine ⟨i' + 1, j' - 1, Sort.swp dk i' j', by go_num, by go_num, by omega, by omega, by omega, by rw [Sort.size_swp]; exact hs, ?_, ?_⟩
                              · rw [AG.out i', AG.out j']; exact (H3.out.swap (by omega) (by omega)).drew
                              · exact QP.swap hs HP.out HU2.out HD2.out HY.out (HX.out.resolve_left (by omega)) hai hlt3 (by omega) hb
                            case measure => simp [intOf]; omega
                        · go_wp2_with fail
                          go_big_quiet (first | (go_at_call 91; refine Calls.quiet_of_same (less_ref _ _ _)))
                          have H3 : Hid (SR w blk off d dk (wr.drewN nq)) := HR2.out.1.drewN nq
                          have HD2 : Hid (∀ t, j' < t → t < b → Sort.ltInt dk[t]! dk[a]! = false) := HR2.out.2
                          clear hcw HR2
                          generalize wr.drewN nq = W3 at H3 ⊢
                          have hc3 : ∀ t, t < d.size → W3.cell? ⟨blk, off + t, none⟩ = some (.int .u64 (Gk t)) := fun t ht => by rw [AG.out]; exact (H3.out.holds t (by omega)).1
                          have hf3 : ∀ t, t < d.size → W3.frozen? ⟨blk, off + t, none⟩ = false := fun t ht => (H3.out.holds t (by omega)).2
                          obtain ⟨v3, hy3⟩ := cell?_setCell_some (w := W3) (p := ⟨blk, off + j', none⟩) (x := .int .u64 (Gk a)) (q := ⟨blk, off + a, none⟩) (hc3 a (by omega))
                          go_wp2
                          go_region
                          all_goals go_wp2
                          go_ret2
                          have hja : j' = i' - 1 := by omega
                          refine ⟨j', Sort.swp dk j' a, false, rfl, by omega, by omega, ?_, ?_, QP.out hs HP.out HU2.out HD2.out (by omega) (by omega) (by omega) hb⟩
                          · exact Sort.permIn_trans _ _ _ _ _ HP.out.1 (Sort.swp_permIn _ _ _ _ _ (by omega) (by omega) (by omega) (by omega) (by omega))
                          · rw [AG.out j', AG.out a]; exact (H3.out.swap (by omega) (by omega)).drew
                  · go_wp2_with fail
                    go_big_quiet (first | (go_at_call 91; refine Calls.quiet_of_same (less_ref _ _ _)))
                    go_wp2
                    have HX : Hid (j < i' ∨ Sort.ltInt dk[i']! dk[a]! = false) := .inl (by omega)
                    have HV : Hid (SR w blk off d dk (wr.drewN nq)) := HR.out.1.drewN nq
                    have HU2 : Hid (∀ t, a < t → t < i' → Sort.ltInt dk[t]! dk[a]! = true) := HR.out.2
                    clear hcw HR
                    go_loopw [11] (fun vj w2 => ∃ j' : Nat, vj = .int .i64 j' ∧ j' ≤ j ∧ i' ≤ j' + 1 ∧ Hid (SR w blk off d dk w2 ∧ ∀ t, j' < t → t < b → Sort.ltInt dk[t]! dk[a]! = false))
                      (fun vj _ => (intOf vj).toNat)
                    case atStart => exact ⟨j, rfl, Nat.le_refl _, hij', HV.out, HD.out⟩
                    case round =>
                      clear HV
                      obtain ⟨j', rfl, hjj, hij2, HR2⟩ := hrel
                      have hcw : ∀ t, t < d.size → wr.cell? ⟨blk, off + t, none⟩ = some (.int .u64 (Gk t)) := fun t ht => by rw [AG.out]; exact (HR2.out.1.holds t (by omega)).1
                      by_cases hle2 : i' ≤ j'
                      · exfalso; omega
                      · go_wp2_with fail
                        go_big_quiet (first | (go_at_call 91; refine Calls.quiet_of_same (less_ref _ _ _)))
                        have H3 : Hid (SR w blk off d dk (wr.drewN nq)) := HR2.out.1.drewN nq
                        have HD2 : Hid (∀ t, j' < t → t < b → Sort.ltInt dk[t]! dk[a]! = false) := HR2.out.2
                        clear hcw HR2
                        generalize wr.drewN nq = W3 at H3 ⊢
                        have hc3 : ∀ t, t < d.size → W3.cell? ⟨blk, off + t, none⟩ = some (.int .u64 (Gk t)) := fun t ht => by rw [AG.out]; exact (H3.out.holds t (by omega)).1
                        have hf3 : ∀ t, t < d.size → W3.frozen? ⟨blk, off + t, none⟩ = false := fun t ht => (H3.out.holds t (by omega)).2
                        obtain ⟨v3, hy3⟩ := cell?_setCell_some (w := W3) (p := ⟨blk, off + j', none⟩) (x := .int .u64 (Gk a)) (q := ⟨blk, off + a, none⟩) (hc3 a (by omega))
                        go_wp2
                        go_region
                        all_goals go_wp2
                        go_ret2
                        have hja : j' = i' - 1 := by omega
                        refine ⟨j', Sort.swp dk j' a, false, rfl, by omega, by omega, ?_, ?_, QP.out hs HP.out HU2.out HD2.out (by omega) (by omega) (by omega) hb⟩
                        · exact Sort.permIn_trans _ _ _ _ _ HP.out.1 (Sort.swp_permIn _ _ _ _ _ (by omega) (by omega) (by omega) (by omega) (by omega))
                        · rw [AG.out j', AG.out a]; exact (H3.out.swap (by omega) (by omega)).drew
          · go_wp2_with fail
            go_big_quiet (first | (go_at_call 91; refine Calls.quiet_of_same (less_ref _ _ _)))
            have H3 : Hid (SR w blk off d dk (wr.drewN nq)) := HR2.out.1.drewN nq
            have HD2 : Hid (∀ t, j' < t → t < b → Sort.ltInt dk[t]! dk[a]! = false) := HR2.out.2
            clear hcw HR2
            generalize wr.drewN nq = W3 at H3 ⊢
            have hc3 : ∀ t, t < d.size → W3.cell? ⟨blk, off + t, none⟩ = some (.int .u64 (Gk t)) := fun t ht => by rw [AG.out]; exact (H3.out.holds t (by omega)).1
            have hf3 : ∀ t, t < d.size → W3.frozen? ⟨blk, off + t, none⟩ = false := fun t ht => (H3.out.holds t (by omega)).2
            obtain ⟨v3, hy3⟩ := cell?_setCell_some (w := W3) (p := ⟨blk, off + j', none⟩) (x := .int .u64 (Gk a)) (q := ⟨blk, off + a, none⟩) (hc3 a (by omega))
            go_wp2
            go_region
            all_goals go_wp2
            go_ret2
            have hja : j' = i' - 1 := by omega
            refine ⟨j', Sort.swp dk j' a, true, rfl, by omega, by omega, ?_, ?_, QP.out hs HP.out HU2.out HD2.out (by omega) (by omega) (by omega) hb⟩
            · exact Sort.permIn_trans _ _ _ _ _ HP.out.1 (Sort.swp_permIn _ _ _ _ _ (by omega) (by omega) (by omega) (by omega) (by omega))
            · rw [AG.out j', AG.out a]; exact (H3.out.swap (by omega) (by omega)).drew
    · go_wp2_with fail
      go_big_quiet (first | (go_at_call 91; refine Calls.quiet_of_same (less_ref _ _ _)))
      go_wp2
      have HX : Hid (j < i' ∨ Sort.ltInt dk[i']! dk[a]! = false) := .inl (by omega)
      have HV : Hid (SR w blk off d dk (wr.drewN nq)) := HR.out.1.drewN nq
      have HU2 : Hid (∀ t, a < t → t < i' → Sort.ltInt dk[t]! dk[a]! = true) := HR.out.2
      clear hcw HR
      go_loopw [11] (fun vj w2 => ∃ j' : Nat, vj = .int .i64 j' ∧ j' ≤ j ∧ i' ≤ j' + 1 ∧ Hid (SR w blk off d dk w2 ∧ ∀ t, j' < t → t < b → Sort.ltInt dk[t]! dk[a]! = false))
        (fun vj _ => (intOf vj).toNat)
      case atStart => exact ⟨j, rfl, Nat.le_refl _, hij', HV.out, HD.out⟩
      case round =>
        clear HV
        obtain ⟨j', rfl, hjj, hij2, HR2⟩ := hrel
        have hcw : ∀ t, t < d.size → wr.cell? ⟨blk, off + t, none⟩ = some (.int .u64 (Gk t)) := fun t ht => by rw [AG.out]; exact (HR2.out.1.holds t (by omega)).1
        by_cases hle2 : i' ≤ j'
        · exfalso; omega
        · go_wp2_with fail
          go_big_quiet (first | (go_at_call 91; refine Calls.quiet_of_same (less_ref _ _ _)))
          have H3 : Hid (SR w blk off d dk (wr.drewN nq)) := HR2.out.1.drewN nq
          have HD2 : Hid (∀ t, j' < t → t < b → Sort.ltInt dk[t]! dk[a]! = false) := HR2.out.2
          clear hcw HR2
          generalize wr.drewN nq = W3 at H3 ⊢
          have hc3 : ∀ t, t < d.size → W3.cell? ⟨blk, off + t, none⟩ = some (.int .u64 (Gk t)) := fun t ht => by rw [AG.out]; exact (H3.out.holds t (by omega)).1
          have hf3 : ∀ t, t < d.size → W3.frozen? ⟨blk, off + t, none⟩ = false := fun t ht => (H3.out.holds t (by omega)).2
          obtain ⟨v3, hy3⟩ := cell?_setCell_some (w := W3) (p := ⟨blk, off + j', none⟩) (x := .int .u64 (Gk a)) (q := ⟨blk, off + a, none⟩) (hc3 a (by omega))
          go_wp2
          go_region
          all_goals go_wp2
          go_ret2
          have hja : j' = i' - 1 := by omega
          refine ⟨j', Sort.swp dk j' a, true, rfl, by omega, by omega, ?_, ?_, QP.out hs HP.out HU2.out HD2.out (by omega) (by omega) (by omega) hb⟩
          · exact Sort.permIn_trans _ _ _ _ _ HP.out.1 (Sort.swp_permIn _ _ _ _ _ (by omega) (by omega) (by omega) (by omega) (by omega))
          · rw [AG.out j', AG.out a]; exact (H3.out.swap (by omega) (by omega)).drew
end Go.Proofs.YtikhpbidbcfedaaGreat

