/- wire.appendValue at a value that has no parts. -/
import Derived.Test.YtadcbhdhgobknaaL26
namespace Go.Proofs.Ytadcbhdhgobknaa
open Go.RowKit

/-- what a function that appends answers: bytes ys behind xs -/
def Apd (base : Nat) (a : Option Addr) (w : World) (xs ys : List Int) (e : Ending) (w' : World) : Prop := ∃ a' cap', e = .returned (.slice a' (xs.length + ys.length) cap') ∧ Outs w' base a' cap' (xs ++ ys) ∧ Gr base a a' w w'
theorem appNum_at (n : Nat) (base : Nat) (a : Option Addr) (cap : Nat) (xs : List Int) (w : World) (m : Nat) (hm : m = xs.length) (hn : n < 18446744073709551616) (h : Outs w base a cap xs) (hlen : xs.length + (Sp.numB n).length ≤ 140737488355328) :
    Calls Try.prog 130 #[.slice a m cap, .int .u64 n] w (Apd base a w xs (Sp.numB n)) := by subst hm; exact appNum_any n base a cap xs w hn h hlen
theorem appBits_at (f : Nat) (base : Nat) (a : Option Addr) (cap : Nat) (xs : List Int) (w : World) (m : Nat) (hm : m = xs.length) (h : Outs w base a cap xs) (hlen : xs.length + 8 ≤ 140737488355328) :
    Calls Try.prog 132 #[.slice a m cap, .int .u64 f] w (Apd base a w xs (Sp.bitsTo f 8)) := by
  subst hm
  refine (appBits_any f base a cap xs w h hlen).mono ?_
  rintro e w' ⟨a', cap', rfl, h1, h2⟩
  exact ⟨a', cap', by rw [Sp.bitsTo_len], h1, h2⟩
theorem appText_at (s : ByteArray) (base : Nat) (a : Option Addr) (cap : Nat) (xs : List Int) (w : World) (m : Nat) (hm : m = xs.length) (h : Outs w base a cap xs) (hlen : xs.length + (Sp.txtB s).length ≤ 140737488355328) :
    Calls Try.prog 133 #[.slice a m cap, .string s] w (Apd base a w xs (Sp.txtB s)) := by subst hm; exact appText_any s base a cap xs w h hlen
theorem appBytes_at (s : ByteArray) (ab : Option Addr) (cb : Nat) (base : Nat) (a : Option Addr) (cap : Nat) (xs : List Int) (w : World) (m : Nat) (hm : m = xs.length) (hb : BytesAt w (Lo base) ab s) (h : Outs w base a cap xs) (hlen : xs.length + (Sp.txtB s).length ≤ 140737488355328) :
    Calls Try.prog 134 #[.slice a m cap, .slice ab s.size cb] w (Apd base a w xs (Sp.txtB s)) := by subst hm; exact appBytes_any s ab cb base a cap xs w hb h hlen
theorem Apd.cons {base : Nat} {a a1 : Option Addr} {w w1 w2 : World} {xs ys : List Int} {k : Int} {a' : Option Addr} {cap' : Nat} (hb : Gr base a a1 w w1) (h1 : Outs w2 base a' cap' (xs ++ [k] ++ ys)) (h2 : Gr base a1 a' w1 w2) : Apd base a w xs (k :: ys) (.returned (.slice a' (xs.length + 1 + ys.length) cap')) w2 :=
  ⟨a', cap', by rw [List.length_cons, Nat.add_right_comm, Nat.add_assoc], by rw [List.append_assoc] at h1; exact h1, hb.trans h2⟩
theorem Apd.behind {base : Nat} {a a1 : Option Addr} {w w1 w2 : World} {xs ks ys : List Int} {e : Ending} (hb : Gr base a a1 w w1) (h : Apd base a1 w1 (xs ++ ks) ys e w2) : Apd base a w xs (ks ++ ys) e w2 := by
  obtain ⟨a', cap', rfl, h1, h2⟩ := h
  exact ⟨a', cap', by rw [List.length_append, List.length_append, Nat.add_assoc], by rw [← List.append_assoc]; exact h1, hb.trans h2⟩

set_option maxRecDepth 100000 in
set_option maxHeartbeats 1000000 in
theorem aval_1 (base : Nat) (a : Option Addr) (cap : Nat) (xs : List Int) (w : World) (h : Outs w base a cap xs) (hlen : xs.length + ([1]).length ≤ 140737488355328) :
    Calls Try.prog 102 #[.slice a xs.length cap, .nilIface] w (Apd base a w xs ([1])) := by
  obtain ⟨i0, hi, hz0, hz1, hz2⟩ := info_parts Try.infoB
  have hl : xs.length + 1 ≤ 140737488355328 := by simp at hlen; omega
  have HO : Hid (Outs w base a cap xs) := h
  have HOW : Hid (w.ownsRow base 5 1 (.slice a xs.length cap) xs.length (u8s xs)) := h.1
  clear h
  go_enter Try.func102, Try.ntmps102
  go_wp2_with (at_builtin; refine wpList_app _ rfl _ _ 23 rfl base 5 i0 (.int .u8 0) 1 1 Try.undB hi hz0 hz1 hz2 rfl (by decide) _ _ _ rfl (HOW.out.alloc _) ⟨w.heap.size, 0, none⟩ 1 1 [.int .u8 1] rfl rfl (cell_one_new _ _ _) (fun u hu => by simp at hu; subst hu; rfl) (by decide) (by unfold maxLen; omega) (by omega) (by have := HO.out.2; simp; omega) ?_; intro g' cap2 w3 hown' hgrow hor')
  obtain ⟨h1, h2⟩ := HO.out.step (ys := [1]) hown' rfl (by simp) hgrow hor'
  have HE : Hid (Outs w3 base (some ⟨g', 0, none⟩) cap2 (xs ++ [1]) ∧ Gr base a (some ⟨g', 0, none⟩) w w3) := ⟨h1, h2⟩
  clear h1 h2 hown' hgrow hor'
  go_wp2_with fail
  go_ret
  exact ⟨_, cap2, rfl, HE.out.1, HE.out.2⟩

set_option maxRecDepth 100000 in
set_option maxHeartbeats 1000000 in
theorem aval_2f (base : Nat) (a : Option Addr) (cap : Nat) (xs : List Int) (w : World) (h : Outs w base a cap xs) (hlen : xs.length + ([2] ++ [0]).length ≤ 140737488355328) :
    Calls Try.prog 102 #[.slice a xs.length cap, .iface 4 (.bool false)] w (Apd base a w xs ([2] ++ [0])) := by
  obtain ⟨i0, hi, hz0, hz1, hz2⟩ := info_parts Try.infoB
  have hl : xs.length + 1 ≤ 140737488355328 := by simp at hlen; omega
  have hl2 : xs.length + 2 ≤ 140737488355328 := by simp at hlen; omega
  have HO : Hid (Outs w base a cap xs) := h
  have HOW : Hid (w.ownsRow base 5 1 (.slice a xs.length cap) xs.length (u8s xs)) := h.1
  clear h
  go_enter Try.func102, Try.ntmps102
  go_wp2_with (first | (go_at_call 129; refine (bit_any _ _).mono ?_; rintro e w' ⟨rfl, rfl⟩) | (at_builtin; refine wpList_app _ rfl _ _ 23 rfl base 5 i0 (.int .u8 0) 1 1 Try.undB hi hz0 hz1 hz2 rfl (by decide) _ _ _ rfl (HOW.out.alloc _) ⟨w.heap.size, 0, none⟩ 2 2 [.int .u8 2, .int .u8 0] rfl rfl (cell_two_new _ _ _ _) (fun u hu => by simp at hu; rcases hu with rfl | rfl <;> rfl) (by decide) (by unfold maxLen; omega) (by omega) (by have := HO.out.2; simp; omega) ?_; intro g' cap2 w3 hown' hgrow hor'))
  obtain ⟨h1, h2⟩ := HO.out.step (ys := [2, 0]) hown' rfl (by simp) hgrow hor'
  have HE : Hid (Outs w3 base (some ⟨g', 0, none⟩) cap2 (xs ++ [2, 0]) ∧ Gr base a (some ⟨g', 0, none⟩) w w3) := ⟨h1, h2⟩
  clear h1 h2 hown' hgrow hor'
  go_wp2_with fail
  go_ret
  exact ⟨_, cap2, rfl, HE.out.1, HE.out.2⟩

set_option maxRecDepth 100000 in
set_option maxHeartbeats 1000000 in
theorem aval_2t (base : Nat) (a : Option Addr) (cap : Nat) (xs : List Int) (w : World) (h : Outs w base a cap xs) (hlen : xs.length + ([2] ++ [1]).length ≤ 140737488355328) :
    Calls Try.prog 102 #[.slice a xs.length cap, .iface 4 (.bool true)] w (Apd base a w xs ([2] ++ [1])) := by
  obtain ⟨i0, hi, hz0, hz1, hz2⟩ := info_parts Try.infoB
  have hl : xs.length + 1 ≤ 140737488355328 := by simp at hlen; omega
  have hl2 : xs.length + 2 ≤ 140737488355328 := by simp at hlen; omega
  have HO : Hid (Outs w base a cap xs) := h
  have HOW : Hid (w.ownsRow base 5 1 (.slice a xs.length cap) xs.length (u8s xs)) := h.1
  clear h
  go_enter Try.func102, Try.ntmps102
  go_wp2_with (first | (go_at_call 129; refine (bit_any _ _).mono ?_; rintro e w' ⟨rfl, rfl⟩) | (at_builtin; refine wpList_app _ rfl _ _ 23 rfl base 5 i0 (.int .u8 0) 1 1 Try.undB hi hz0 hz1 hz2 rfl (by decide) _ _ _ rfl (HOW.out.alloc _) ⟨w.heap.size, 0, none⟩ 2 2 [.int .u8 2, .int .u8 1] rfl rfl (cell_two_new _ _ _ _) (fun u hu => by simp at hu; rcases hu with rfl | rfl <;> rfl) (by decide) (by unfold maxLen; omega) (by omega) (by have := HO.out.2; simp; omega) ?_; intro g' cap2 w3 hown' hgrow hor'))
  obtain ⟨h1, h2⟩ := HO.out.step (ys := [2, 1]) hown' rfl (by simp) hgrow hor'
  have HE : Hid (Outs w3 base (some ⟨g', 0, none⟩) cap2 (xs ++ [2, 1]) ∧ Gr base a (some ⟨g', 0, none⟩) w w3) := ⟨h1, h2⟩
  clear h1 h2 hown' hgrow hor'
  go_wp2_with fail
  go_ret
  exact ⟨_, cap2, rfl, HE.out.1, HE.out.2⟩

set_option maxRecDepth 100000 in
set_option maxHeartbeats 1000000 in
theorem aval_3 (i : Int) (base : Nat) (a : Option Addr) (cap : Nat) (xs : List Int) (w : World) (h0 : -9223372036854775808 ≤ i) (h1 : i ≤ 9223372036854775807) (h : Outs w base a cap xs) (hlen : xs.length + (3 :: Sp.numB (Sp.fold i)).length ≤ 140737488355328) :
    Calls Try.prog 102 #[.slice a xs.length cap, .iface 2 (.int .i64 i)] w (Apd base a w xs (3 :: Sp.numB (Sp.fold i))) := by
  obtain ⟨i0, hi, hz0, hz1, hz2⟩ := info_parts Try.infoB
  have hl : xs.length + 1 ≤ 140737488355328 := by simp at hlen; omega
  have hl2 : xs.length + 1 + (Sp.numB (Sp.fold i)).length ≤ 140737488355328 := by simp at hlen; omega
  have HF : Hid (Sp.fold i < 18446744073709551616) := Sp.fold_lt h0 h1
  have HO : Hid (Outs w base a cap xs) := h
  have HOW : Hid (w.ownsRow base 5 1 (.slice a xs.length cap) xs.length (u8s xs)) := h.1
  clear h
  go_enter Try.func102, Try.ntmps102
  go_wp2_with (at_builtin; refine wpList_app _ rfl _ _ 23 rfl base 5 i0 (.int .u8 0) 1 1 Try.undB hi hz0 hz1 hz2 rfl (by decide) _ _ _ rfl (HOW.out.alloc _) ⟨w.heap.size, 0, none⟩ 1 1 [.int .u8 3] rfl rfl (cell_one_new _ _ _) (fun u hu => by simp at hu; subst hu; rfl) (by decide) (by unfold maxLen; omega) (by omega) (by have := HO.out.2; simp; omega) ?_; intro g' cap2 w3 hown' hgrow hor')
  obtain ⟨h1, h2⟩ := HO.out.step (ys := [3]) hown' rfl (by simp) hgrow hor'
  have HE : Hid (Outs w3 base (some ⟨g', 0, none⟩) cap2 (xs ++ [3])) := h1
  have HB : Hid (Gr base a (some ⟨g', 0, none⟩) w w3) := h2
  clear h1 h2 hown' hgrow hor'
  go_wp2_with (first | (go_at_call 131; refine (folded_any _ _ h0 h1).mono ?_; rintro e w' ⟨rfl, rfl⟩) | (go_at_call 130; refine (appNum_at (Sp.fold i) base _ _ (xs ++ [3]) _ _ (by simp) HF.out HE.out (by simp; omega)).mono ?_; rintro e w2 ⟨a2, cap3, rfl, ho2, hb2⟩))
  go_ret
  exact Apd.cons HB.out ho2 hb2

set_option maxRecDepth 100000 in
set_option maxHeartbeats 1000000 in
theorem aval_4 (f : Nat) (base : Nat) (a : Option Addr) (cap : Nat) (xs : List Int) (w : World) (h : Outs w base a cap xs) (hlen : xs.length + (4 :: Sp.bitsTo f 8).length ≤ 140737488355328) :
    Calls Try.prog 102 #[.slice a xs.length cap, .iface 22 (.float .f64 f)] w (Apd base a w xs (4 :: Sp.bitsTo f 8)) := by
  obtain ⟨i0, hi, hz0, hz1, hz2⟩ := info_parts Try.infoB
  have hl : xs.length + 1 ≤ 140737488355328 := by simp at hlen; omega
  have hl2 : xs.length + 1 + 8 ≤ 140737488355328 := by simp [Sp.bitsTo_len] at hlen; omega
  have hbr := bits_run f
  have HO : Hid (Outs w base a cap xs) := h
  have HOW : Hid (w.ownsRow base 5 1 (.slice a xs.length cap) xs.length (u8s xs)) := h.1
  clear h
  go_enter Try.func102, Try.ntmps102
  go_wp2_with (at_builtin; refine wpList_app _ rfl _ _ 23 rfl base 5 i0 (.int .u8 0) 1 1 Try.undB hi hz0 hz1 hz2 rfl (by decide) _ _ _ rfl (HOW.out.alloc _) ⟨w.heap.size, 0, none⟩ 1 1 [.int .u8 4] rfl rfl (cell_one_new _ _ _) (fun u hu => by simp at hu; subst hu; rfl) (by decide) (by unfold maxLen; omega) (by omega) (by have := HO.out.2; simp; omega) ?_; intro g' cap2 w3 hown' hgrow hor')
  obtain ⟨h1, h2⟩ := HO.out.step (ys := [4]) hown' rfl (by simp) hgrow hor'
  have HE : Hid (Outs w3 base (some ⟨g', 0, none⟩) cap2 (xs ++ [4])) := h1
  have HB : Hid (Gr base a (some ⟨g', 0, none⟩) w w3) := h2
  clear h1 h2 hown' hgrow hor'
  go_wp2_with ((go_at_call 132; refine (appBits_at f base _ _ (xs ++ [4]) _ _ (by simp) HE.out (by simp; omega)).mono ?_; rintro e w2 ⟨a2, cap3, rfl, ho2, hb2⟩))
  go_ret
  exact Apd.cons HB.out ho2 hb2

set_option maxRecDepth 100000 in
set_option maxHeartbeats 1000000 in
theorem aval_5 (s : ByteArray) (base : Nat) (a : Option Addr) (cap : Nat) (xs : List Int) (w : World) (h : Outs w base a cap xs) (hlen : xs.length + (5 :: Sp.txtB s).length ≤ 140737488355328) :
    Calls Try.prog 102 #[.slice a xs.length cap, .iface 9 (.string s)] w (Apd base a w xs (5 :: Sp.txtB s)) := by
  obtain ⟨i0, hi, hz0, hz1, hz2⟩ := info_parts Try.infoB
  have hl : xs.length + 1 ≤ 140737488355328 := by simp at hlen; omega
  have hl2 : xs.length + 1 + (Sp.txtB s).length ≤ 140737488355328 := by simp at hlen; omega
  have HO : Hid (Outs w base a cap xs) := h
  have HOW : Hid (w.ownsRow base 5 1 (.slice a xs.length cap) xs.length (u8s xs)) := h.1
  clear h
  go_enter Try.func102, Try.ntmps102
  go_wp2_with (at_builtin; refine wpList_app _ rfl _ _ 23 rfl base 5 i0 (.int .u8 0) 1 1 Try.undB hi hz0 hz1 hz2 rfl (by decide) _ _ _ rfl (HOW.out.alloc _) ⟨w.heap.size, 0, none⟩ 1 1 [.int .u8 5] rfl rfl (cell_one_new _ _ _) (fun u hu => by simp at hu; subst hu; rfl) (by decide) (by unfold maxLen; omega) (by omega) (by have := HO.out.2; simp; omega) ?_; intro g' cap2 w3 hown' hgrow hor')
  obtain ⟨h1, h2⟩ := HO.out.step (ys := [5]) hown' rfl (by simp) hgrow hor'
  have HE : Hid (Outs w3 base (some ⟨g', 0, none⟩) cap2 (xs ++ [5])) := h1
  have HB : Hid (Gr base a (some ⟨g', 0, none⟩) w w3) := h2
  clear h1 h2 hown' hgrow hor'
  go_wp2_with ((go_at_call 133; refine (appText_at s base _ _ (xs ++ [5]) _ _ (by simp) HE.out (by simp; omega)).mono ?_; rintro e w2 ⟨a2, cap3, rfl, ho2, hb2⟩))
  go_ret
  exact Apd.cons HB.out ho2 hb2

set_option maxRecDepth 100000 in
set_option maxHeartbeats 1000000 in
theorem aval_6 (s : ByteArray) (ab : Option Addr) (cb : Nat) (base : Nat) (a : Option Addr) (cap : Nat) (xs : List Int) (w : World) (hs : BytesAt w (Lo base) ab s) (h : Outs w base a cap xs) (hlen : xs.length + (6 :: Sp.txtB s).length ≤ 140737488355328) :
    Calls Try.prog 102 #[.slice a xs.length cap, .iface 23 (.slice ab s.size cb)] w (Apd base a w xs (6 :: Sp.txtB s)) := by
  obtain ⟨i0, hi, hz0, hz1, hz2⟩ := info_parts Try.infoB
  have hl : xs.length + 1 ≤ 140737488355328 := by simp at hlen; omega
  have hl2 : xs.length + 1 + (Sp.txtB s).length ≤ 140737488355328 := by simp at hlen; omega
  have HS : Hid (∀ W, Below base w W → BytesAt W (Lo base) ab s) := fun W hW => hs.same (Same.of_below hW (Nat.le_refl _)) (fun _ h => h)
  clear hs
  have HO : Hid (Outs w base a cap xs) := h
  have HOW : Hid (w.ownsRow base 5 1 (.slice a xs.length cap) xs.length (u8s xs)) := h.1
  clear h
  go_enter Try.func102, Try.ntmps102
  go_wp2_with (at_builtin; refine wpList_app _ rfl _ _ 23 rfl base 5 i0 (.int .u8 0) 1 1 Try.undB hi hz0 hz1 hz2 rfl (by decide) _ _ _ rfl (HOW.out.alloc _) ⟨w.heap.size, 0, none⟩ 1 1 [.int .u8 6] rfl rfl (cell_one_new _ _ _) (fun u hu => by simp at hu; subst hu; rfl) (by decide) (by unfold maxLen; omega) (by omega) (by have := HO.out.2; simp; omega) ?_; intro g' cap2 w3 hown' hgrow hor')
  obtain ⟨h1, h2⟩ := HO.out.step (ys := [6]) hown' rfl (by simp) hgrow hor'
  have HE : Hid (Outs w3 base (some ⟨g', 0, none⟩) cap2 (xs ++ [6])) := h1
  have HB : Hid (Gr base a (some ⟨g', 0, none⟩) w w3) := h2
  clear h1 h2 hown' hgrow hor'
  go_wp2_with ((go_at_call 134; refine (appBytes_at s ab cb base _ _ (xs ++ [6]) _ _ (by simp) (HS.out _ HB.out.1) HE.out (by simp; omega)).mono ?_; rintro e w2 ⟨a2, cap3, rfl, ho2, hb2⟩))
  go_ret
  exact Apd.cons HB.out ho2 hb2

set_option maxRecDepth 100000 in
set_option maxHeartbeats 1000000 in
theorem aval_7 (n : Nat) (base : Nat) (a : Option Addr) (cap : Nat) (xs : List Int) (w : World) (hn : n < 18446744073709551616) (h : Outs w base a cap xs) (hlen : xs.length + (7 :: Sp.numB n).length ≤ 140737488355328) :
    Calls Try.prog 102 #[.slice a xs.length cap, .iface 25 (.int .u64 (n : Int))] w (Apd base a w xs (7 :: Sp.numB n)) := by
  obtain ⟨i0, hi, hz0, hz1, hz2⟩ := info_parts Try.infoB
  have hl : xs.length + 1 ≤ 140737488355328 := by simp at hlen; omega
  have hl2 : xs.length + 1 + (Sp.numB n).length ≤ 140737488355328 := by simp at hlen; omega
  have HO : Hid (Outs w base a cap xs) := h
  have HOW : Hid (w.ownsRow base 5 1 (.slice a xs.length cap) xs.length (u8s xs)) := h.1
  clear h
  go_enter Try.func102, Try.ntmps102
  go_wp2_with (at_builtin; refine wpList_app _ rfl _ _ 23 rfl base 5 i0 (.int .u8 0) 1 1 Try.undB hi hz0 hz1 hz2 rfl (by decide) _ _ _ rfl (HOW.out.alloc _) ⟨w.heap.size, 0, none⟩ 1 1 [.int .u8 7] rfl rfl (cell_one_new _ _ _) (fun u hu => by simp at hu; subst hu; rfl) (by decide) (by unfold maxLen; omega) (by omega) (by have := HO.out.2; simp; omega) ?_; intro g' cap2 w3 hown' hgrow hor')
  obtain ⟨h1, h2⟩ := HO.out.step (ys := [7]) hown' rfl (by simp) hgrow hor'
  have HE : Hid (Outs w3 base (some ⟨g', 0, none⟩) cap2 (xs ++ [7])) := h1
  have HB : Hid (Gr base a (some ⟨g', 0, none⟩) w w3) := h2
  clear h1 h2 hown' hgrow hor'
  go_wp2_with ((go_at_call 130; refine (appNum_at (n) base _ _ (xs ++ [7]) _ _ (by simp) hn HE.out (by simp; omega)).mono ?_; rintro e w2 ⟨a2, cap3, rfl, ho2, hb2⟩))
  go_ret
  exact Apd.cons HB.out ho2 hb2
end Go.Proofs.Ytadcbhdhgobknaa

