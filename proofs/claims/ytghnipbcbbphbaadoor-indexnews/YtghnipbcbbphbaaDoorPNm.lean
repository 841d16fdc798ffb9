/- path.readName and readStep. -/
import Derived.Test.YtghnipbcbbphbaaDoorPIdx
namespace Go.Proofs.YtghnipbcbbphbaaDoor
open Go.RowKit

set_option maxRecDepth 100000 in
set_option maxHeartbeats 2000000 in
theorem readName_any (s : ByteArray) (i : Nat) (w : World) (hs : s.size ≤ 140737488355328) (hi : i ≤ s.size) :
    Calls Tryd.prog 19 #[.string s, .int .i64 (i : Int)] w fun e w' => e = .returned (Sp.rdName s i).val ∧ Below w.heap.size w w' := by
  have HRU : Hid (∀ W, Calls Tryd.prog 22 #[.string (s.extract i s.size), .func (.func 13) #[] #[]] W fun e w' => e = .returned (.string (s.extract i (Sp.span Sp.nb s i))) ∧ W = w') := fun W => by
    have := run_nb (s.extract i s.size) W (by unfold maxLen; rw [Sp.size_ext _ _ _ (Nat.le_refl _)]; omega)
    rw [Sp.run_ext Sp.nb s i hi] at this
    exact this
  obtain ⟨h1, h2, _⟩ := Sp.span_bd Sp.nb s _ i (Nat.le_refl _) hi
  have HSZ : Hid ((s.extract i (Sp.span Sp.nb s i)).size = Sp.span Sp.nb s i - i) := Sp.size_ext _ _ _ h2
  unfold Sp.rdName
  generalize Sp.span Sp.nb s i = j at HRU h1 h2 HSZ ⊢
  simp only
  generalize s.extract i j = d at HRU HSZ ⊢
  have hj : (i : Int) + (d.size : Int) = (j : Int) := by have := HSZ.out; omega
  have hdl : d.size ≤ s.size := by have := HSZ.out; omega
  have HIS : Hid (∀ W, Calls Tryd.prog 8 #[.string d] W fun e w' => e = .returned (.bool (Sp.isNm d)) ∧ W = w') := fun W => isName_any d W (by unfold maxLen; omega)
  by_cases c1 : i = s.size
  · have c1' : ((i : Int) == (s.size : Int)) = true := by simp [c1]
    rw [if_pos c1]
    unfold PRes.val
    clear c1
    go_enter Tryd.func19, Tryd.ntmps19
    go_wp2_with (first | (go_at_call 22; refine (HRU.out _).mono ?_; rintro e w' ⟨rfl, rfl⟩) | (go_at_call 8; refine (HIS.out _).mono ?_; rintro e w' ⟨rfl, rfl⟩))
    exact bodyPost_ret (v := .tuple #[.agg #[.string ByteArray.empty, .bool false, .int .i64 0], .int .i64 (i : Int), .int .i64 4]) (by simp [results, Tryd.results19, go_sem] <;> rfl) rfl ⟨rfl, (Below.refl _ _).alloc (Nat.le_refl _) _⟩
  · have c1' : ((i : Int) == (s.size : Int)) = false := by simp; omega
    rw [if_neg c1]
    clear c1
    by_cases c2 : j = i
    · have hem : d.toList.isEmpty = true := toList_em (by have := HSZ.out; omega)
      rw [if_pos c2]
      unfold PRes.val
      clear c2
      go_enter Tryd.func19, Tryd.ntmps19
      go_wp2_with (first | (go_at_call 22; refine (HRU.out _).mono ?_; rintro e w' ⟨rfl, rfl⟩) | (go_at_call 8; refine (HIS.out _).mono ?_; rintro e w' ⟨rfl, rfl⟩))
      exact bodyPost_ret (v := .tuple #[.agg #[.string ByteArray.empty, .bool false, .int .i64 0], .int .i64 (i : Int), .int .i64 3]) (by simp [results, Tryd.results19, go_sem] <;> rfl) rfl ⟨rfl, (Below.refl _ _).alloc (Nat.le_refl _) _⟩
    · have hem : d.toList.isEmpty = false := toList_ne (by have := HSZ.out; omega)
      rw [if_neg c2]
      clear c2
      cases c3 : Sp.isNm d with
      | false =>
        rw [if_neg (by decide)]
        unfold PRes.val
        go_enter Tryd.func19, Tryd.ntmps19
        go_wp2_with (first | (go_at_call 22; refine (HRU.out _).mono ?_; rintro e w' ⟨rfl, rfl⟩) | (go_at_call 8; refine (HIS.out _).mono ?_; rintro e w' ⟨rfl, rfl⟩))
        exact bodyPost_ret (v := .tuple #[.agg #[.string ByteArray.empty, .bool false, .int .i64 0], .int .i64 (i : Int), .int .i64 8]) (by simp [results, Tryd.results19, go_sem] <;> rfl) rfl ⟨rfl, (Below.refl _ _).alloc (Nat.le_refl _) _⟩
      | true =>
        rw [if_pos rfl]
        unfold PRes.val
        have HCL : Hid (∀ W, Calls Tryd.prog 25 #[.string d] W fun e w' => e = .returned (.string d) ∧ Below W.heap.size W w') := fun W => sClone_any d W (by omega)
        go_enter Tryd.func19, Tryd.ntmps19
        go_wp2_with (first | (go_at_call 22; refine (HRU.out _).mono ?_; rintro e w' ⟨rfl, rfl⟩) | (go_at_call 8; refine (HIS.out _).mono ?_; rintro e w' ⟨rfl, rfl⟩))
        refine (HCL.out _).mono ?_
        rintro e w1 ⟨rfl, hb1⟩
        have HB1 : Hid (Below w.heap.size w w1) := below_to ((Below.refl _ _).alloc (Nat.le_refl _) _) hb1
        obtain ⟨z0, z1, z2, y0, y1, y2⟩ := zbox hb1
        clear hb1
        obtain ⟨k0, k1, k2⟩ := set3 (.string d) (.bool false) (.int .i64 0) z0 z1 z2
        go_wp2_with fail
        exact bodyPost_ret (v := .tuple #[.agg #[.string d, .bool false, .int .i64 0], .int .i64 (j : Int), .int .i64 0]) (by simp [results, Tryd.results19, go_sem, k0, k1, k2] <;> rfl) rfl ⟨rfl, set3_bel HB1.out _ _ _⟩

theorem PRes.val_is (r : PRes) : ∃ (n : ByteArray) (t : Bool) (x q e : Int), r.val = .tuple #[.agg #[.string n, .bool t, .int .i64 x], .int .i64 q, .int .i64 e] := by
  cases r with
  | err n e => exact ⟨_, _, _, _, _, rfl⟩
  | ok x n => exact ⟨_, _, _, _, _, rfl⟩

set_option maxRecDepth 100000 in
set_option maxHeartbeats 2000000 in
theorem readStep_any (s : ByteArray) (i ahead : Nat) (w : World) (hs : s.size ≤ 140737488355328) (hi : i < s.size) (ha : ahead ≤ 64) (henv : Env w) :
    Calls Tryd.prog 14 #[.string s, .int .i64 (i : Int), .int .i64 (ahead : Int)] w fun e w' => e = .returned (Sp.rdStep s i ahead).val ∧ Below w.heap.size w w' := by
  have HX : Hid (∀ W, Below w.heap.size w W → Calls Tryd.prog 18 #[.string s, .int .i64 (i : Int)] W fun e w' => e = .returned (Sp.rdIdx s i).val ∧ Below W.heap.size W w') := fun W hW => readIndex_any s i W hs hi (henv.on hW)
  have HN : Hid (∀ W, Below w.heap.size w W → Calls Tryd.prog 19 #[.string s, .int .i64 (i : Int)] W fun e w' => e = .returned (Sp.rdName s i).val ∧ Below W.heap.size W w') := fun W _ => readName_any s i W hs (by omega)
  have HM : Hid (∀ W, Below w.heap.size w W → Calls Tryd.prog 19 #[.string s, .int .i64 ((i : Int) + 1)] W fun e w' => e = .returned (Sp.rdName s (i + 1)).val ∧ Below W.heap.size W w') := fun W _ => by
    have := readName_any s (i + 1) W hs (by omega)
    exact this
  clear henv
  have hbi := byte_bd s i
  have ei := byte_at s i hi
  unfold Sp.rdStep
  by_cases c0 : i = 0
  · have c0' : ((i : Int) == 0) = true := by simp [c0]
    have HC : Hid (¬ (i ≠ 0 ∧ Sp.byte s i ≠ 46 ∧ Sp.byte s i ≠ 91)) := fun h => h.1 c0
    have HN0 : Hid (Sp.rdName s 0 = Sp.rdName s i) := by show _ = _; rw [c0]
    rw [if_neg HC.out]
    by_cases c1 : 64 ≤ ahead
    · rw [if_pos c1]
      unfold PRes.val
      clear c0
      go_enter Tryd.func14, Tryd.ntmps14
      go_wp2_with fail
      exact bodyPost_ret (v := .tuple #[.agg #[.string ByteArray.empty, .bool false, .int .i64 0], .int .i64 (i : Int), .int .i64 2]) (by simp [results, Tryd.results14, go_sem] <;> rfl) rfl ⟨rfl, (Below.refl _ _).alloc (Nat.le_refl _) _⟩
    · rw [if_neg c1]
      by_cases c2 : Sp.byte s i = 91
      · have c2' : (Sp.byte s i == 91) = true := by simp [c2]
        rw [if_pos c2]
        clear c2 c0
        generalize Sp.rdIdx s i = r at HX ⊢
        go_enter Tryd.func14, Tryd.ntmps14
        go_wp2_with fail
        refine (HX.out _ ((Below.refl _ _).alloc (Nat.le_refl _) _)).mono ?_
        rintro e w1 ⟨rfl, hb1⟩
        have HB1 : Hid (Below w.heap.size w w1) := below_to ((Below.refl _ _).alloc (Nat.le_refl _) _) hb1
        obtain ⟨z0, z1, z2, y0, y1, y2⟩ := zbox hb1
        clear hb1
        obtain ⟨n, t, x, q, e, hv⟩ := PRes.val_is r
        rw [hv]
        obtain ⟨k0, k1, k2⟩ := set3 (.string n) (.bool t) (.int .i64 x) z0 z1 z2
        go_wp2_with fail
        exact bodyPost_ret (v := .tuple #[.agg #[.string n, .bool t, .int .i64 x], .int .i64 q, .int .i64 e]) (by simp [results, Tryd.results14, go_sem, k0, k1, k2] <;> rfl) rfl ⟨by rw [hv], set3_bel HB1.out _ _ _⟩
      · have c2' : (Sp.byte s i == 91) = false := by simp [c2]
        rw [if_neg c2, if_pos c0, HN0.out]
        clear c2 c0 HN0
        generalize Sp.rdName s i = r at HN ⊢
        go_enter Tryd.func14, Tryd.ntmps14
        go_wp2_with fail
        refine (HN.out _ ((Below.refl _ _).alloc (Nat.le_refl _) _)).mono ?_
        rintro e w1 ⟨rfl, hb1⟩
        have HB1 : Hid (Below w.heap.size w w1) := below_to ((Below.refl _ _).alloc (Nat.le_refl _) _) hb1
        obtain ⟨z0, z1, z2, y0, y1, y2⟩ := zbox hb1
        clear hb1
        obtain ⟨n, t, x, q, e, hv⟩ := PRes.val_is r
        rw [hv]
        obtain ⟨k0, k1, k2⟩ := set3 (.string n) (.bool t) (.int .i64 x) z0 z1 z2
        go_wp2_with fail
        exact bodyPost_ret (v := .tuple #[.agg #[.string n, .bool t, .int .i64 x], .int .i64 q, .int .i64 e]) (by simp [results, Tryd.results14, go_sem, k0, k1, k2] <;> rfl) rfl ⟨by rw [hv], set3_bel HB1.out _ _ _⟩
  · have c0' : ((i : Int) == 0) = false := by simp; omega
    by_cases c3 : Sp.byte s i = 46
    · have c3' : (Sp.byte s i != 46) = false := by simp [c3]
      have HC : Hid (¬ (i ≠ 0 ∧ Sp.byte s i ≠ 46 ∧ Sp.byte s i ≠ 91)) := fun h => h.2.1 c3
      have c2' : (Sp.byte s i == 91) = false := by simp [c3]
      have HC2 : Hid (¬ Sp.byte s i = 91) := by intro h; omega
      rw [if_neg HC.out]
      clear c3
      by_cases c1 : 64 ≤ ahead
      · rw [if_pos c1]
        unfold PRes.val
        clear c0
        go_enter Tryd.func14, Tryd.ntmps14
        go_wp2_with fail
        exact bodyPost_ret (v := .tuple #[.agg #[.string ByteArray.empty, .bool false, .int .i64 0], .int .i64 (i : Int), .int .i64 2]) (by simp [results, Tryd.results14, go_sem] <;> rfl) rfl ⟨rfl, (Below.refl _ _).alloc (Nat.le_refl _) _⟩
      · rw [if_neg c1, if_neg HC2.out, if_neg c0]
        clear c0
        generalize Sp.rdName s (i + 1) = r at HM ⊢
        go_enter Tryd.func14, Tryd.ntmps14
        go_wp2_with fail
        refine (HM.out _ ((Below.refl _ _).alloc (Nat.le_refl _) _)).mono ?_
        rintro e w1 ⟨rfl, hb1⟩
        have HB1 : Hid (Below w.heap.size w w1) := below_to ((Below.refl _ _).alloc (Nat.le_refl _) _) hb1
        obtain ⟨z0, z1, z2, y0, y1, y2⟩ := zbox hb1
        clear hb1
        obtain ⟨n, t, x, q, e, hv⟩ := PRes.val_is r
        rw [hv]
        obtain ⟨k0, k1, k2⟩ := set3 (.string n) (.bool t) (.int .i64 x) z0 z1 z2
        go_wp2_with fail
        exact bodyPost_ret (v := .tuple #[.agg #[.string n, .bool t, .int .i64 x], .int .i64 q, .int .i64 e]) (by simp [results, Tryd.results14, go_sem, k0, k1, k2] <;> rfl) rfl ⟨by rw [hv], set3_bel HB1.out _ _ _⟩
    · have c3' : (Sp.byte s i != 46) = true := by simp [c3]
      by_cases c2 : Sp.byte s i = 91
      · have c2' : (Sp.byte s i == 91) = true := by simp [c2]
        have c2'' : (Sp.byte s i != 91) = false := by simp [c2]
        have HC : Hid (¬ (i ≠ 0 ∧ Sp.byte s i ≠ 46 ∧ Sp.byte s i ≠ 91)) := fun h => h.2.2 c2
        rw [if_neg HC.out]
        by_cases c1 : 64 ≤ ahead
        · rw [if_pos c1]
          unfold PRes.val
          clear c0 c2 c3
          go_enter Tryd.func14, Tryd.ntmps14
          go_wp2_with fail
          exact bodyPost_ret (v := .tuple #[.agg #[.string ByteArray.empty, .bool false, .int .i64 0], .int .i64 (i : Int), .int .i64 2]) (by simp [results, Tryd.results14, go_sem] <;> rfl) rfl ⟨rfl, (Below.refl _ _).alloc (Nat.le_refl _) _⟩
        · rw [if_neg c1, if_pos c2]
          clear c0 c2 c3
          generalize Sp.rdIdx s i = r at HX ⊢
          go_enter Tryd.func14, Tryd.ntmps14
          go_wp2_with fail
          refine (HX.out _ ((Below.refl _ _).alloc (Nat.le_refl _) _)).mono ?_
          rintro e w1 ⟨rfl, hb1⟩
          have HB1 : Hid (Below w.heap.size w w1) := below_to ((Below.refl _ _).alloc (Nat.le_refl _) _) hb1
          obtain ⟨z0, z1, z2, y0, y1, y2⟩ := zbox hb1
          clear hb1
          obtain ⟨n, t, x, q, e, hv⟩ := PRes.val_is r
          rw [hv]
          obtain ⟨k0, k1, k2⟩ := set3 (.string n) (.bool t) (.int .i64 x) z0 z1 z2
          go_wp2_with fail
          exact bodyPost_ret (v := .tuple #[.agg #[.string n, .bool t, .int .i64 x], .int .i64 q, .int .i64 e]) (by simp [results, Tryd.results14, go_sem, k0, k1, k2] <;> rfl) rfl ⟨by rw [hv], set3_bel HB1.out _ _ _⟩
      · have c2'' : (Sp.byte s i != 91) = true := by simp [c2]
        rw [if_pos ⟨c0, c3, c2⟩]
        unfold PRes.val
        clear c0 c2 c3
        go_enter Tryd.func14, Tryd.ntmps14
        go_wp2_with fail
        exact bodyPost_ret (v := .tuple #[.agg #[.string ByteArray.empty, .bool false, .int .i64 0], .int .i64 (i : Int), .int .i64 3]) (by simp [results, Tryd.results14, go_sem] <;> rfl) rfl ⟨rfl, (Below.refl _ _).alloc (Nat.le_refl _) _⟩
end Go.Proofs.YtghnipbcbbphbaaDoor
