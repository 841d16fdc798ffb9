/- tenonref16.New: which definitions can be. -/
import Derived.Test.YtghnipbcbbphbaaDoorInNews
namespace Go.Proofs.YtghnipbcbbphbaaDoor
open Go.RowKit

/-- what the document's New leaves -/
def RxN (w w' : World) (c s : ByteArray) (p : Option Addr) : Prop := Below w.heap.size w w' ∧ (p = none ↔ Sp.ixE c s ≠ 0)
set_option maxRecDepth 100000 in
set_option maxHeartbeats 4000000 in
theorem rNew_any (c s : ByteArray) (u q : Bool) (w : World) (hc : c.size ≤ 140737488355328) (hs : s.size ≤ 140737488355328) :
    Calls Tryd.prog 5 #[.agg #[.string c, .string s, .bool u, .bool q]] w fun e w' => ∃ p, e = .returned (.tuple #[.pointer p, .int .i64 (Sp.ixE c s)]) ∧ RxN w w' c s p := by
  have HN : Hid (∀ W, Calls Tryd.prog 10 #[.string c] W fun e w' => e = .returned (.bool (Sp.isNm c)) ∧ W = w') := fun W => Name_any c W (by unfold maxLen; omega)
  have HP : Hid (∀ W : World, Below w.heap.size w W → Calls Tryd.prog 11 #[.string s] W fun e w' => (Sp.way s).is W.heap.size w' e ∧ Below W.heap.size W w') := fun W hW => rParse_any s W (by omega)
  by_cases h0 : c.size ≠ 0 ∧ Sp.isNm c = false
  · have HE : Hid (Sp.ixE c s = 8) := by show _ = _; unfold Sp.ixE; rw [if_pos h0]
    have hb := toList_ne h0.1
    have h2 := h0.2
    go_enter Tryd.func5, Tryd.ntmps5
    go_wp2_with (go_at_call 10; refine (HN.out _).mono ?_; rintro e w' ⟨rfl, rfl⟩)
    go_ret2
    exact ⟨none, by rw [HE.out]; rfl, (Below.refl _ _).alloc (Nat.le_refl _) _, ⟨fun _ => by rw [HE.out]; decide, fun _ => rfl⟩⟩
  · have HE : Hid (Sp.ixE c s = match Sp.way s with | .err _ e => e | .ok [] => 1 | .ok (x :: _) => if x.at' then 1 else 0) := by show _ = _; unfold Sp.ixE; rw [if_neg h0]; rfl
    have H0 : Hid (c.size = 0 ∨ c.size ≠ 0 ∧ Sp.isNm c = true) := by
      show _ ∨ _
      rcases Nat.eq_zero_or_pos c.size with h | h
      · exact .inl h
      · refine .inr ⟨by omega, ?_⟩
        cases hi : Sp.isNm c with
        | true => rfl
        | false => exact absurd ⟨by omega, hi⟩ h0
    clear h0
    cases hway : Sp.way s with
    | err n er =>
      rw [hway] at HP HE
      unfold PWay.is at HP
      have HE2 : Hid (Sp.ixE c s = er) := HE.out
      clear HE
      rcases H0.out with h0 | ⟨h0, h1⟩
      · have := ba_noneI h0; subst this
        go_enter Tryd.func5, Tryd.ntmps5
        go_wp2_with (first
          | fail
          | (go_at_call 11; refine (HP.out _ ((Below.refl _ _).alloc (Nat.le_refl _) _)).mono ?_; rintro e w1 ⟨⟨rfl, he1, _⟩, hb⟩; have hne : (er != 0) = true := (by simp; omega); have HER : Hid (er ≠ 0) := (by show ¬ _; omega); have HB : Hid (Below w.heap.size w w1) := below_to ((Below.refl _ _).alloc (Nat.le_refl _) _) hb; clear hb he1))
        go_ret2
        exact ⟨none, by rw [HE2.out]; rfl, HB.out, ⟨fun _ => by rw [HE2.out]; exact HER.out, fun _ => rfl⟩⟩
      · have hbe := toList_ne h0
        go_enter Tryd.func5, Tryd.ntmps5
        go_wp2_with (first
          | (go_at_call 10; refine (HN.out _).mono ?_; rintro e w' ⟨rfl, rfl⟩)
          | (go_at_call 11; refine (HP.out _ ((Below.refl _ _).alloc (Nat.le_refl _) _)).mono ?_; rintro e w1 ⟨⟨rfl, he1, _⟩, hb⟩; have hne : (er != 0) = true := (by simp; omega); have HER : Hid (er ≠ 0) := (by show ¬ _; omega); have HB : Hid (Below w.heap.size w w1) := below_to ((Below.refl _ _).alloc (Nat.le_refl _) _) hb; clear hb he1))
        go_ret2
        exact ⟨none, by rw [HE2.out]; rfl, HB.out, ⟨fun _ => by rw [HE2.out]; exact HER.out, fun _ => rfl⟩⟩
    | ok l =>
      rw [hway] at HP HE
      unfold PWay.is at HP
      match l with
      | [] =>
        have HE2 : Hid (Sp.ixE c s = 1) := HE.out
        clear HE
        rcases H0.out with h0 | ⟨h0, h1⟩
        · have := ba_noneI h0; subst this
          go_enter Tryd.func5, Tryd.ntmps5
          go_wp2_with (first
            | fail
            | (go_at_call 11; refine (HP.out _ ((Below.refl _ _).alloc (Nat.le_refl _) _)).mono ?_; rintro e w1 ⟨⟨a, cap, rfl, _, _, _⟩, hb⟩; have HB : Hid (Below w.heap.size w w1) := below_to ((Below.refl _ _).alloc (Nat.le_refl _) _) hb; clear hb))
          go_ret2
          exact ⟨none, by rw [HE2.out]; rfl, HB.out, ⟨fun _ => by rw [HE2.out]; decide, fun _ => rfl⟩⟩
        · have hbe := toList_ne h0
          go_enter Tryd.func5, Tryd.ntmps5
          go_wp2_with (first
            | (go_at_call 10; refine (HN.out _).mono ?_; rintro e w' ⟨rfl, rfl⟩)
            | (go_at_call 11; refine (HP.out _ ((Below.refl _ _).alloc (Nat.le_refl _) _)).mono ?_; rintro e w1 ⟨⟨a, cap, rfl, _, _, _⟩, hb⟩; have HB : Hid (Below w.heap.size w w1) := below_to ((Below.refl _ _).alloc (Nat.le_refl _) _) hb; clear hb))
          go_ret2
          exact ⟨none, by rw [HE2.out]; rfl, HB.out, ⟨fun _ => by rw [HE2.out]; decide, fun _ => rfl⟩⟩
      | x :: l =>
        have hrow : ∀ {B : Nat} {a : Option Addr} {n cap : Nat} (w1 : World), w1.ownsRow B 39 3 (.slice a n cap) n (Sp.wcells (x :: l)) → (∀ y ∈ x :: l, y.name.size ≤ maxLen) → ∃ g o, a = some ⟨g, o, none⟩ ∧ g < w1.heap.size ∧ w1.cell? ⟨g, o, none⟩ = some (.string x.name) ∧ w1.cell? ⟨g, o + 1, none⟩ = some (.bool x.at') ∧ n ≤ cap := fun {B a n cap} w1 h1 h2 => by
          obtain ⟨g, o, e, hg, h3, h4, _, _⟩ := (Rdw.of_own h1 h2) 0 x rfl
          refine ⟨g, o, e, hg, by simpa using h3, by simpa using h4, ?_⟩
          rcases h1.2 with ⟨e', _⟩ | ⟨g', c', cur, e', _, _, hnc, _⟩
          · rw [e] at e'; cases e'
          · injection e' with e1 e2 e3; omega
        cases hat : x.at' with
        | true =>
          have HE2 : Hid (Sp.ixE c s = 1) := by show _ = _; rw [HE.out]; simp [hat]
          clear HE
          rcases H0.out with h0 | ⟨h0, h1⟩
          · have := ba_noneI h0; subst this
            go_enter Tryd.func5, Tryd.ntmps5
            go_wp2_with (first
              | fail
              | (go_at_call 11; refine (HP.out _ ((Below.refl _ _).alloc (Nat.le_refl _) _)).mono ?_; rintro e w1 ⟨⟨a, cap, rfl, ho, hnm, _⟩, hb⟩; obtain ⟨g, o, rfl, hg, hc0, hc1, hcap⟩ := hrow w1 ho hnm; rw [hat] at hc1; have HB : Hid (Below w.heap.size w w1) := below_to ((Below.refl _ _).alloc (Nat.le_refl _) _) hb; have hn0 : ¬ ((x :: l).length : Int) = 0 := (by rw [List.length_cons]; omega); have hn1 : (0 : Int) < ((x :: l).length : Int) := (by rw [List.length_cons]; omega); clear hb ho hnm; generalize (x :: l).length = n at hn0 hn1 hcap ⊢))
            go_ret2
            exact ⟨none, by rw [HE2.out]; rfl, HB.out, ⟨fun _ => by rw [HE2.out]; decide, fun _ => rfl⟩⟩
          · have hbe := toList_ne h0
            go_enter Tryd.func5, Tryd.ntmps5
            go_wp2_with (first
              | (go_at_call 10; refine (HN.out _).mono ?_; rintro e w' ⟨rfl, rfl⟩)
              | (go_at_call 11; refine (HP.out _ ((Below.refl _ _).alloc (Nat.le_refl _) _)).mono ?_; rintro e w1 ⟨⟨a, cap, rfl, ho, hnm, _⟩, hb⟩; obtain ⟨g, o, rfl, hg, hc0, hc1, hcap⟩ := hrow w1 ho hnm; rw [hat] at hc1; have HB : Hid (Below w.heap.size w w1) := below_to ((Below.refl _ _).alloc (Nat.le_refl _) _) hb; have hn0 : ¬ ((x :: l).length : Int) = 0 := (by rw [List.length_cons]; omega); have hn1 : (0 : Int) < ((x :: l).length : Int) := (by rw [List.length_cons]; omega); clear hb ho hnm; generalize (x :: l).length = n at hn0 hn1 hcap ⊢))
            go_ret2
            exact ⟨none, by rw [HE2.out]; rfl, HB.out, ⟨fun _ => by rw [HE2.out]; decide, fun _ => rfl⟩⟩
        | false =>
          have HE2 : Hid (Sp.ixE c s = 0) := by show _ = _; rw [HE.out]; simp [hat]
          clear HE
          rcases H0.out with h0 | ⟨h0, h1⟩
          · have := ba_noneI h0; subst this
            go_enter Tryd.func5, Tryd.ntmps5
            go_wp2_with (first
              | fail
              | (go_at_call 11; refine (HP.out _ ((Below.refl _ _).alloc (Nat.le_refl _) _)).mono ?_; rintro e w1 ⟨⟨a, cap, rfl, ho, hnm, _⟩, hb⟩; obtain ⟨g, o, rfl, hg, hc0, hc1, hcap⟩ := hrow w1 ho hnm; rw [hat] at hc1; have HB : Hid (Below w.heap.size w w1) := below_to ((Below.refl _ _).alloc (Nat.le_refl _) _) hb; have hn0 : ¬ ((x :: l).length : Int) = 0 := (by rw [List.length_cons]; omega); have hn1 : (0 : Int) < ((x :: l).length : Int) := (by rw [List.length_cons]; omega); have hn2 : (1 : Int) ≤ ((x :: l).length : Int) := (by rw [List.length_cons]; omega); have HBX : Hid (w1.heap[w.heap.size]? = some (.cells #[.string ⟨#[]⟩, .string s, .bool u, .bool q] 23)) := ((hb.block w.heap.size (by simp)).trans (heap_alloc_new w _)); have hx0 : w1.cell? ⟨w.heap.size, 0, none⟩ = some (.string ⟨#[]⟩) := (by simp [World.cell?, HBX.out]); have hx1 : w1.cell? ⟨w.heap.size, 1, none⟩ = some (.string s) := (by simp [World.cell?, HBX.out]); have hx2 : w1.cell? ⟨w.heap.size, 2, none⟩ = some (.bool u) := (by simp [World.cell?, HBX.out]); have hx3 : w1.cell? ⟨w.heap.size, 3, none⟩ = some (.bool q) := (by simp [World.cell?, HBX.out]); clear hb ho hnm; generalize (x :: l).length = n at hn0 hn1 hn2 hcap ⊢; have hcapz : (n : Int) ≤ (cap : Int) := (by omega); have hn3 : 1 ≤ n := (by omega)))
            all_goals
              go_ret2
              exact ⟨some ⟨w1.heap.size, 0, none⟩, by rw [HE2.out]; rfl, HB.out.alloc HB.out.size _, ⟨(fun h => by cases h), fun h => absurd HE2.out h⟩⟩

          · have hbe := toList_ne h0
            go_enter Tryd.func5, Tryd.ntmps5
            go_wp2_with (first
              | (go_at_call 10; refine (HN.out _).mono ?_; rintro e w' ⟨rfl, rfl⟩)
              | (go_at_call 11; refine (HP.out _ ((Below.refl _ _).alloc (Nat.le_refl _) _)).mono ?_; rintro e w1 ⟨⟨a, cap, rfl, ho, hnm, _⟩, hb⟩; obtain ⟨g, o, rfl, hg, hc0, hc1, hcap⟩ := hrow w1 ho hnm; rw [hat] at hc1; have HB : Hid (Below w.heap.size w w1) := below_to ((Below.refl _ _).alloc (Nat.le_refl _) _) hb; have hn0 : ¬ ((x :: l).length : Int) = 0 := (by rw [List.length_cons]; omega); have hn1 : (0 : Int) < ((x :: l).length : Int) := (by rw [List.length_cons]; omega); have hn2 : (1 : Int) ≤ ((x :: l).length : Int) := (by rw [List.length_cons]; omega); have HBX : Hid (w1.heap[w.heap.size]? = some (.cells #[.string c, .string s, .bool u, .bool q] 23)) := ((hb.block w.heap.size (by simp)).trans (heap_alloc_new w _)); have hx0 : w1.cell? ⟨w.heap.size, 0, none⟩ = some (.string c) := (by simp [World.cell?, HBX.out]); have hx1 : w1.cell? ⟨w.heap.size, 1, none⟩ = some (.string s) := (by simp [World.cell?, HBX.out]); have hx2 : w1.cell? ⟨w.heap.size, 2, none⟩ = some (.bool u) := (by simp [World.cell?, HBX.out]); have hx3 : w1.cell? ⟨w.heap.size, 3, none⟩ = some (.bool q) := (by simp [World.cell?, HBX.out]); clear hb ho hnm; generalize (x :: l).length = n at hn0 hn1 hn2 hcap ⊢; have hcapz : (n : Int) ≤ (cap : Int) := (by omega); have hn3 : 1 ≤ n := (by omega)))
            all_goals
              go_ret2
              exact ⟨some ⟨w1.heap.size, 0, none⟩, by rw [HE2.out]; rfl, HB.out.alloc HB.out.size _, ⟨(fun h => by cases h), fun h => absurd HE2.out h⟩⟩

end Go.Proofs.YtghnipbcbbphbaaDoor
