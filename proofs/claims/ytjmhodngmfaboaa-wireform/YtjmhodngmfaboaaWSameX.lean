/- tenonlaw03.same at whatever bytes. -/
import Derived.Test.YtjmhodngmfaboaaDecG
namespace Go.Proofs.Ytjmhodngmfaboaa
open Go.RowKit

set_option maxRecDepth 100000 in
set_option maxHeartbeats 1000000 in
theorem wsame_len (xs ys : List Int) (h : xs.length ≠ ys.length) (a b : Option Addr) (ca cb : Nat) (w : World) :
    Calls Try.prog 24 #[.slice a xs.length ca, .slice b ys.length cb] w fun e w' => e = .returned (.bool (decide (xs = ys))) ∧ Below w.heap.size w w' := by
  have HD : Hid (decide (xs = ys) = false) := decide_eq_false (fun e => h (by rw [e]))
  have hn : ((xs.length : Int) != (ys.length : Int)) = true := by simp; omega
  clear h
  go_enter Try.func24, Try.ntmps24
  go_wp2_with fail
  go_ret
  exact ⟨ret_bool HD.out.symm, Below.refl _ _⟩

set_option maxRecDepth 100000 in
set_option maxHeartbeats 1000000 in
theorem wsame_eq (xs ys : List Int) (hlen : xs.length = ys.length) (a b : Option Addr) (ca cb : Nat) (w : World) (hl : xs.length ≤ 140737488355328) (ha : RdB w (Lo w.heap.size) a xs) (hb : RdB w (Lo w.heap.size) b ys) :
    Calls Try.prog 24 #[.slice a xs.length ca, .slice b ys.length cb] w fun e w' => e = .returned (.bool (decide (xs = ys))) ∧ Below w.heap.size w w' := by
  have HA : Hid (RdB w (Lo w.heap.size) a xs ∧ RdB w (Lo w.heap.size) b ys ∧ xs.length = ys.length) := ⟨ha, hb, hlen⟩
  rw [← hlen]
  clear ha hb hlen
  go_enter Try.func24, Try.ntmps24
  go_wp2_with fail
  go_loopw [5] (fun i wr => ∃ k : Nat, i = .int .i64 k ∧ k ≤ xs.length ∧ Hid (Below w.heap.size w wr ∧ xs.take k = ys.take k)) (fun i _ => xs.length - (intOf i).toNat)
  case atStart => exact ⟨0, rfl, by omega, Below.refl _ _, rfl⟩
  case round =>
    obtain ⟨k, rfl, hk, HB⟩ := hrel
    by_cases hlt : k < xs.length
    · have hlt2 : k < ys.length := by rw [← HA.out.2.2]; exact hlt
      obtain ⟨g1, o1, rfl, hg1, c1⟩ := HA.out.1 k xs[k] (List.getElem?_eq_getElem hlt)
      obtain ⟨g2, o2, rfl, hg2, c2⟩ := HA.out.2.1 k ys[k] (List.getElem?_eq_getElem hlt2)
      have d1 : wr.cell? ⟨g1, o1 + k, none⟩ = some (.int .u8 xs[k]) := by rw [HB.out.1.cell (p := ⟨g1, o1 + k, none⟩) hg1]; exact c1
      have d2 : wr.cell? ⟨g2, o2 + k, none⟩ = some (.int .u8 ys[k]) := by rw [HB.out.1.cell (p := ⟨g2, o2 + k, none⟩) hg2]; exact c2
      have HT : Hid (xs.take (k + 1) = xs.take k ++ [xs[k]] ∧ ys.take (k + 1) = ys.take k ++ [ys[k]]) := by
        refine ⟨?_, ?_⟩
        · rw [List.take_add_one, List.getElem?_eq_getElem hlt]; rfl
        · rw [List.take_add_one, List.getElem?_eq_getElem hlt2]; rfl
      have HE : Hid (xs = ys → xs[k] = ys[k]) := fun e => by subst e; rfl
      generalize xs[k] = x at d1 c1 HT HE
      generalize ys[k] = y at d2 c2 HT HE
      clear c1 c2 hlt2
      by_cases hxy : x = y
      · subst hxy
        clear HE
        go_wp2_with fail
        go_quiet (fail)
        go_wp2_with fail
        go_roundw
        case rel => exact ⟨k + 1, by go_num, by omega, HB.out.1.trans (below_drewN' _ _ _), by rw [HT.out.1, HT.out.2, HB.out.2]⟩
        case measure => simp [intOf]; omega
      · have hne : (x != y) = true := by simp [hxy]
        have HD : Hid (decide (xs = ys) = false) := decide_eq_false (fun e => hxy (HE.out e))
        clear hxy HE HT
        go_wp2_with fail
        go_quiet (fail)
        go_wp2_with fail
        go_ret
        exact ⟨ret_bool HD.out.symm, HB.out.1.trans (below_drewN' _ _ _)⟩
    · have h1 : xs.length ≤ k := by omega
      have HD : Hid (decide (xs = ys) = true) := by
        show _ = _
        have := HB.out.2
        rw [List.take_of_length_le h1, List.take_of_length_le (by rw [← HA.out.2.2]; exact h1)] at this
        exact decide_eq_true this
      go_wp2_with fail
      go_ret
      exact ⟨ret_bool HD.out.symm, HB.out.1⟩
theorem wsame_dec (xs ys : List Int) (a b : Option Addr) (ca cb : Nat) (w : World) (m n : Nat) (hm : m = xs.length) (hn : n = ys.length) (hl : xs.length ≤ 140737488355328) (ha : RdB w (Lo w.heap.size) a xs) (hb : RdB w (Lo w.heap.size) b ys) :
    Calls Try.prog 24 #[.slice a m ca, .slice b n cb] w fun e w' => e = .returned (.bool (decide (xs = ys))) ∧ Below w.heap.size w w' := by
  subst hm
  subst hn
  by_cases h : xs.length = ys.length
  · exact wsame_eq xs ys h a b ca cb w hl ha hb
  · exact wsame_len xs ys h a b ca cb w
end Go.Proofs.Ytjmhodngmfaboaa
