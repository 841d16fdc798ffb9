/- Which ways can be, as the document has it: tenonref04.Can; whether two ways are one: tenonref04.Same. -/
import Derived.Test.YthnanblilofdpaaDoorPWay
namespace Go.Proofs.YthnanblilofdpaaDoor
open Go.RowKit

set_option maxRecDepth 100000 in
set_option maxHeartbeats 4000000 in
theorem Can_any (l : List Stp) (a : Option Addr) (cap b : Nat) (w : World) (hb : b ≤ w.heap.size) (h : Rdw w b a l) (hl : l.length ≤ maxLen) :
    Calls Tryd.prog 13 #[.slice a l.length cap] w fun e w' => e = .returned (.int .i64 (Sp.wayR l)) ∧ Below w.heap.size w w' := by
  unfold maxLen at hl
  by_cases h64 : 64 < l.length
  · have H : Hid (Sp.wayR l = 2) := by show _ = _; rw [Sp.wayR, if_pos h64]
    go_enter Tryd.func13, Tryd.ntmps13
    go_wp2_with fail
    go_ret
    exact ⟨ret_int H.out.symm, Below.refl _ _⟩
  · have HW : Hid (Sp.wayR l = Sp.rules l) := by show _ = _; rw [Sp.wayR, if_neg h64]
    have HR : Hid (Rdw w b a l) := h
    clear h
    go_enter Tryd.func13, Tryd.ntmps13
    go_wp2_with fail
    go_loopw [3, 4] (fun i _ wr => ∃ k : Nat, k ≤ l.length ∧ i = .int .i64 k ∧ Hid (Sp.rules (l.take k) = 0) ∧ Hid (Below w.heap.size w wr)) (fun i _ _ => l.length - (intOf i).toNat)
    case atStart => exact ⟨0, by omega, rfl, rfl, Below.refl _ _⟩
    case round =>
      obtain ⟨k, hk, rfl, HK, HB⟩ := hrel
      by_cases hlt : k < l.length
      · obtain ⟨g, o, rfl, hg, c0, c1, c2, hnm⟩ := (HR.out.on (HB.out.mono hb) (Nat.le_refl _)) k l[k] (List.getElem?_eq_getElem hlt)
        have HT : Hid (Sp.rules (l.take (k + 1)) = l[k].rule) := Sp.rules_take l k hlt HK.out
        have HA : Hid (l[k].rule ≠ 0 → Sp.wayR l = l[k].rule) := fun hr => by rw [HW.out, Sp.rules_at l k hlt HK.out, if_neg hr]
        have HB' : Hid (Below w.heap.size w (wr.alloc (.cells #[.string l[k].name, .bool l[k].at', .int .i64 l[k].idx] 32))) := below_to HB.out ((Below.refl _ _).alloc (Nat.le_refl _) _)
        generalize l[k] = x at c0 c1 c2 HT HA HB' hnm
        obtain ⟨n, t, i⟩ := x
        simp only at c0 c1 c2 hnm HB'
        cases t with
        | false =>
          cases hn : Sp.isNm n with
          | false =>
            have HA' : Hid (Sp.wayR l = 8) := by
              have e : Stp.rule ⟨n, false, i⟩ = 8 := by simp [Stp.rule, hn]
              have := HA.out (by rw [e]; decide)
              show _ = _
              rw [this, e]
            go_wp2_with (go_at_call 23; refine (Name_any _ _ hnm).mono ?_; rintro e w' ⟨rfl, rfl⟩)
            go_ret
            exact ⟨ret_int HA'.out.symm, HB'.out⟩
          | true =>
            by_cases h0 : i = 0
            · have HT' : Hid (Sp.rules (l.take (k + 1)) = 0) := by show _ = _; rw [HT.out]; simp [Stp.rule, hn, h0]
              have h0' : (i != 0) = false := by simp [h0]
              clear h0
              go_wp2_with (go_at_call 23; refine (Name_any _ _ hnm).mono ?_; rintro e w' ⟨rfl, rfl⟩)
              go_roundw
              case rel => exact ⟨k + 1, by omega, by go_num, HT', HB'⟩
              case measure => simp [intOf]; omega
            · have HA' : Hid (Sp.wayR l = 1) := by
                have e : Stp.rule ⟨n, false, i⟩ = 1 := by simp [Stp.rule, hn, h0]
                have := HA.out (by rw [e]; decide)
                show _ = _
                rw [this, e]
              have h0' : (i != 0) = true := by simp [h0]
              clear h0
              go_wp2_with (go_at_call 23; refine (Name_any _ _ hnm).mono ?_; rintro e w' ⟨rfl, rfl⟩)
              go_ret
              exact ⟨ret_int HA'.out.symm, HB'.out⟩
        | true =>
          by_cases hz : n.size = 0
          · have hne := toList_em hz
            by_cases h0 : i < 0
            · have HA' : Hid (Sp.wayR l = 1) := by
                have e : Stp.rule ⟨n, true, i⟩ = 1 := by rw [Stp.rule, if_pos rfl, if_pos hz, if_pos (by show i < 0 ∨ 4096 ≤ i; omega)]
                have := HA.out (by rw [e]; decide)
                show _ = _
                rw [this, e]
              clear hz
              go_wp2_with (go_at_call 23; refine (Name_any _ _ hnm).mono ?_; rintro e w' ⟨rfl, rfl⟩)
              go_ret
              exact ⟨ret_int HA'.out.symm, HB'.out⟩
            · by_cases h1 : i < 4096
              · have HT' : Hid (Sp.rules (l.take (k + 1)) = 0) := by show _ = _; rw [HT.out, Stp.rule, if_pos rfl, if_pos hz, if_neg (by show ¬ (i < 0 ∨ 4096 ≤ i); omega)]
                clear hz
                go_wp2_with (go_at_call 23; refine (Name_any _ _ hnm).mono ?_; rintro e w' ⟨rfl, rfl⟩)
                go_roundw
                case rel => exact ⟨k + 1, by omega, by go_num, HT', HB'⟩
                case measure => simp [intOf]; omega
              · have HA' : Hid (Sp.wayR l = 1) := by
                  have e : Stp.rule ⟨n, true, i⟩ = 1 := by rw [Stp.rule, if_pos rfl, if_pos hz, if_pos (by show i < 0 ∨ 4096 ≤ i; omega)]
                  have := HA.out (by rw [e]; decide)
                  show _ = _
                  rw [this, e]
                clear hz
                go_wp2_with (go_at_call 23; refine (Name_any _ _ hnm).mono ?_; rintro e w' ⟨rfl, rfl⟩)
                go_ret
                exact ⟨ret_int HA'.out.symm, HB'.out⟩
          · have hne := toList_ne hz
            have HA' : Hid (Sp.wayR l = 8) := by
              have e : Stp.rule ⟨n, true, i⟩ = 8 := by rw [Stp.rule, if_pos rfl, if_neg hz]
              have := HA.out (by rw [e]; decide)
              show _ = _
              rw [this, e]
            clear hz
            go_wp2_with (go_at_call 23; refine (Name_any _ _ hnm).mono ?_; rintro e w' ⟨rfl, rfl⟩)
            go_ret
            exact ⟨ret_int HA'.out.symm, HB'.out⟩
      · have HE : Hid (Sp.wayR l = 0) := by show _ = _; rw [HW.out, ← List.take_of_length_le (i := k) (l := l) (by omega)]; exact HK.out
        go_wp2_with fail
        go_ret
        exact ⟨ret_int HE.out.symm, HB.out⟩
end Go.Proofs.YthnanblilofdpaaDoor
