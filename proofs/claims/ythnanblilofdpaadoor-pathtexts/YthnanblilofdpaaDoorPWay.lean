/- Which ways can be: path.stepRule and wayRule. -/
import Derived.Test.YthnanblilofdpaaDoorPRd
namespace Go.Proofs.YthnanblilofdpaaDoor
open Go.RowKit

theorem toList_em {s : ByteArray} (h : s.size = 0) : s.toList.isEmpty = true := by
  have : s = ByteArray.empty := ba_empty h
  subst this; rw [ByteArray.toList_eq]; rfl

set_option maxRecDepth 100000 in
set_option maxHeartbeats 2000000 in
theorem stepRule_any (x : Stp) (w : World) (hs : x.name.size ≤ maxLen) :
    Calls Tryd.prog 19 #[.agg #[.string x.name, .bool x.at', .int .i64 x.idx]] w fun e w' => e = .returned (.int .i64 x.rule) ∧ Below w.heap.size w w' := by
  obtain ⟨n, a, i⟩ := x
  simp only at hs ⊢
  cases a with
  | false =>
    cases hn : Sp.isNm n with
    | false =>
      have H : Hid (Stp.rule ⟨n, false, i⟩ = 8) := by show _ = _; simp [Stp.rule, hn]
      go_enter Tryd.func19, Tryd.ntmps19
      go_wp2_with fail
      go_quiet ((go_at_call 29; exact Calls.quiet_of_same ((isName_any _ _ hs).mono (fun e w' h => ⟨h.1, h.2.symm⟩))))
      go_wp2_with fail
      go_ret
      exact ⟨ret_int H.out.symm, ((Below.refl _ _).alloc (Nat.le_refl _) _).trans (below_drewN' _ _ _)⟩
    | true =>
      by_cases h0 : i = 0
      · have H : Hid (Stp.rule ⟨n, false, i⟩ = 0) := by show _ = _; simp [Stp.rule, hn, h0]
        have h0' : (i == 0) = true := by simp [h0]
        clear h0
        go_enter Tryd.func19, Tryd.ntmps19
        go_wp2_with fail
        go_quiet ((go_at_call 29; exact Calls.quiet_of_same ((isName_any _ _ hs).mono (fun e w' h => ⟨h.1, h.2.symm⟩))))
        go_wp2_with fail
        go_ret
        exact ⟨ret_int H.out.symm, ((Below.refl _ _).alloc (Nat.le_refl _) _).trans (below_drewN' _ _ _)⟩
      · have H : Hid (Stp.rule ⟨n, false, i⟩ = 1) := by show _ = _; simp [Stp.rule, hn, h0]
        have h0' : (i == 0) = false := by simp [h0]
        clear h0
        go_enter Tryd.func19, Tryd.ntmps19
        go_wp2_with fail
        go_quiet ((go_at_call 29; exact Calls.quiet_of_same ((isName_any _ _ hs).mono (fun e w' h => ⟨h.1, h.2.symm⟩))))
        go_wp2_with fail
        go_ret
        exact ⟨ret_int H.out.symm, ((Below.refl _ _).alloc (Nat.le_refl _) _).trans (below_drewN' _ _ _)⟩
  | true =>
    by_cases hz : n.size = 0
    · have hne := toList_em hz
      by_cases h0 : 0 ≤ i
      · by_cases h1 : i < 4096
        · have H : Hid (Stp.rule ⟨n, true, i⟩ = 0) := by show _ = _; rw [Stp.rule, if_pos rfl, if_pos hz, if_neg (by show ¬ (i < 0 ∨ 4096 ≤ i); omega)]
          clear hz
          go_enter Tryd.func19, Tryd.ntmps19
          go_wp2_with fail
          go_quiet ((go_at_call 29; exact Calls.quiet_of_same ((isName_any _ _ hs).mono (fun e w' h => ⟨h.1, h.2.symm⟩))))
          go_wp2_with fail
          go_quiet (fail)
          go_wp2_with fail
          go_ret
          exact ⟨ret_int H.out.symm, ((Below.refl _ _).alloc (Nat.le_refl _) _).trans (below_drewN' _ _ _)⟩
        · have H : Hid (Stp.rule ⟨n, true, i⟩ = 1) := by show _ = _; rw [Stp.rule, if_pos rfl, if_pos hz, if_pos (by show i < 0 ∨ 4096 ≤ i; omega)]
          clear hz
          have h1' : decide (i < 4096) = false := by simpa using h1
          go_enter Tryd.func19, Tryd.ntmps19
          go_wp2_with fail
          go_quiet ((go_at_call 29; exact Calls.quiet_of_same ((isName_any _ _ hs).mono (fun e w' h => ⟨h.1, h.2.symm⟩))))
          go_wp2_with fail
          go_quiet (fail)
          go_wp2_with fail
          go_ret
          exact ⟨ret_int H.out.symm, ((Below.refl _ _).alloc (Nat.le_refl _) _).trans (below_drewN' _ _ _)⟩
      · have hd : decide (0 ≤ i) = false := by simpa using h0
        have H : Hid (Stp.rule ⟨n, true, i⟩ = 1) := by show _ = _; rw [Stp.rule, if_pos rfl, if_pos hz, if_pos (by show i < 0 ∨ 4096 ≤ i; omega)]
        clear hz h0
        go_enter Tryd.func19, Tryd.ntmps19
        go_wp2_with fail
        go_quiet ((go_at_call 29; exact Calls.quiet_of_same ((isName_any _ _ hs).mono (fun e w' h => ⟨h.1, h.2.symm⟩))))
        go_wp2_with fail
        go_quiet (fail)
        go_wp2_with fail
        go_ret
        exact ⟨ret_int H.out.symm, ((Below.refl _ _).alloc (Nat.le_refl _) _).trans (below_drewN' _ _ _)⟩
    · have hne := toList_ne hz
      have H : Hid (Stp.rule ⟨n, true, i⟩ = 8) := by show _ = _; rw [Stp.rule, if_pos rfl, if_neg hz]
      clear hz
      by_cases h0 : 0 ≤ i
      · by_cases h1 : i < 4096
        · go_enter Tryd.func19, Tryd.ntmps19
          go_wp2_with fail
          go_quiet ((go_at_call 29; exact Calls.quiet_of_same ((isName_any _ _ hs).mono (fun e w' h => ⟨h.1, h.2.symm⟩))))
          go_wp2_with fail
          go_quiet (fail)
          go_wp2_with fail
          go_ret
          exact ⟨ret_int H.out.symm, ((Below.refl _ _).alloc (Nat.le_refl _) _).trans (below_drewN' _ _ _)⟩
        · have h1' : decide (i < 4096) = false := by simpa using h1
          go_enter Tryd.func19, Tryd.ntmps19
          go_wp2_with fail
          go_quiet ((go_at_call 29; exact Calls.quiet_of_same ((isName_any _ _ hs).mono (fun e w' h => ⟨h.1, h.2.symm⟩))))
          go_wp2_with fail
          go_quiet (fail)
          go_wp2_with fail
          go_ret
          exact ⟨ret_int H.out.symm, ((Below.refl _ _).alloc (Nat.le_refl _) _).trans (below_drewN' _ _ _)⟩
      · have hd : decide (0 ≤ i) = false := by simpa using h0
        clear h0
        go_enter Tryd.func19, Tryd.ntmps19
        go_wp2_with fail
        go_quiet ((go_at_call 29; exact Calls.quiet_of_same ((isName_any _ _ hs).mono (fun e w' h => ⟨h.1, h.2.symm⟩))))
        go_wp2_with fail
        go_quiet (fail)
        go_wp2_with fail
        go_ret
        exact ⟨ret_int H.out.symm, ((Below.refl _ _).alloc (Nat.le_refl _) _).trans (below_drewN' _ _ _)⟩

set_option maxRecDepth 100000 in
set_option maxHeartbeats 2000000 in
theorem wayRule_any (l : List Stp) (a : Option Addr) (cap b : Nat) (w : World) (hb : b ≤ w.heap.size) (h : Rdw w b a l) (hl : l.length ≤ maxLen) :
    Calls Tryd.prog 11 #[.slice a l.length cap] w fun e w' => e = .returned (.int .i64 (Sp.wayR l)) ∧ Below w.heap.size w w' := by
  unfold maxLen at hl
  by_cases h64 : 64 < l.length
  · have H : Hid (Sp.wayR l = 2) := by show _ = _; rw [Sp.wayR, if_pos h64]
    go_enter Tryd.func11, Tryd.ntmps11
    go_wp2_with fail
    go_ret
    exact ⟨ret_int H.out.symm, Below.refl _ _⟩
  · have HW : Hid (Sp.wayR l = Sp.rules l) := by show _ = _; rw [Sp.wayR, if_neg h64]
    have HR : Hid (Rdw w b a l) := h
    clear h
    go_enter Tryd.func11, Tryd.ntmps11
    go_wp2_with fail
    go_loopw [11, 4] (fun i _ wr => ∃ k : Nat, k ≤ l.length ∧ i = .int .i64 k ∧ Hid (Sp.rules (l.take k) = 0) ∧ Hid (Below w.heap.size w wr)) (fun i _ _ => l.length - (intOf i).toNat)
    case atStart => exact ⟨0, by omega, rfl, rfl, Below.refl _ _⟩
    case round =>
      obtain ⟨k, hk, rfl, HK, HB⟩ := hrel
      by_cases hlt : k < l.length
      · obtain ⟨g, o, rfl, hg, c0, c1, c2, hnm⟩ := (HR.out.on (HB.out.mono hb) (Nat.le_refl _)) k l[k] (List.getElem?_eq_getElem hlt)
        have HC : Hid (∀ W, Calls Tryd.prog 19 #[.agg #[.string l[k].name, .bool l[k].at', .int .i64 l[k].idx]] W fun e w' => e = .returned (.int .i64 l[k].rule) ∧ Below W.heap.size W w') := fun W => stepRule_any l[k] W hnm
        have HT : Hid (Sp.rules (l.take (k + 1)) = l[k].rule) := Sp.rules_take l k hlt HK.out
        have HA : Hid (l[k].rule ≠ 0 → Sp.rules l = l[k].rule) := fun hr => by rw [Sp.rules_at l k hlt HK.out, if_neg hr]
        generalize l[k] = x at c0 c1 c2 HC HT HA
        clear hnm
        go_wp2_with fail
        refine (HC.out _).mono ?_
        rintro e w1 ⟨rfl, hb1⟩
        have HB1 : Hid (Below w.heap.size w w1) := below_to HB.out (below_to ((Below.refl _ _).alloc (Nat.le_refl _) _) hb1)
        clear hb1
        cases hr : (x.rule == 0) with
        | true =>
          have hr' : (x.rule != 0) = false := by simpa using hr
          have HT' : Hid (Sp.rules (l.take (k + 1)) = 0) := by show _ = _; rw [HT.out]; simpa using hr
          clear hr
          go_wp2_with fail
          go_roundw
          case rel => exact ⟨k + 1, by omega, by go_num, HT', HB1⟩
          case measure => simp [intOf]; omega
        | false =>
          have hr' : (x.rule != 0) = true := by simpa using hr
          have HA' : Hid (Sp.wayR l = x.rule) := by show _ = _; rw [HW.out]; exact HA.out (by simpa using hr)
          clear hr
          go_wp2_with fail
          go_ret
          exact ⟨ret_int HA'.out.symm, HB1.out⟩
      · have HE : Hid (Sp.wayR l = 0) := by show _ = _; rw [HW.out, ← List.take_of_length_le (i := k) (l := l) (by omega)]; exact HK.out
        go_wp2_with fail
        go_ret
        exact ⟨ret_int HE.out.symm, HB.out⟩
end Go.Proofs.YthnanblilofdpaaDoor
