/- wire.appendValue at a value that has no parts. -/
import Derived.Test.YtkomcebknllaiaaL26
import Derived.Test.YtkomcebknllaiaaL31
import Derived.Deep.RegionHeld3
import Derived.Deep.AppendLies
namespace Go.Proofs.Ytkomcebknllaiaa
open Go.RowKit

/-- what a function that appends answers: bytes ys behind xs -/
def Apd (base : Nat) (a : Option Addr) (w : World) (xs ys : List Int) (e : Ending) (w' : World) : Prop := ∃ a' cap', e = .returned (.slice a' (xs.length + ys.length) cap') ∧ Outs w' base a' cap' (xs ++ ys) ∧ Gr base a a' w w'
theorem appNum_at (n : Nat) (base : Nat) (a : Option Addr) (cap : Nat) (xs : List Int) (w : World) (m : Nat) (hm : m = xs.length) (hn : n < 18446744073709551616) (h : Outs w base a cap xs) (hlen : xs.length + (Sp.numB n).length ≤ 140737488355328) :
    Calls Try.prog 87 #[.slice a m cap, .int .u64 n] w (Apd base a w xs (Sp.numB n)) := by subst hm; exact appNum_any n base a cap xs w hn h hlen
theorem appBits_at (f : Nat) (base : Nat) (a : Option Addr) (cap : Nat) (xs : List Int) (w : World) (m : Nat) (hm : m = xs.length) (h : Outs w base a cap xs) (hlen : xs.length + 8 ≤ 140737488355328) :
    Calls Try.prog 89 #[.slice a m cap, .int .u64 f] w (Apd base a w xs (Sp.bitsTo f 8)) := by
  subst hm
  refine (appBits_any f base a cap xs w h hlen).mono ?_
  rintro e w' ⟨a', cap', rfl, h1, h2⟩
  exact ⟨a', cap', by rw [Sp.bitsTo_len], h1, h2⟩
theorem appText_at (s : ByteArray) (base : Nat) (a : Option Addr) (cap : Nat) (xs : List Int) (w : World) (m : Nat) (hm : m = xs.length) (h : Outs w base a cap xs) (hlen : xs.length + (Sp.txtB s).length ≤ 140737488355328) :
    Calls Try.prog 90 #[.slice a m cap, .string s] w (Apd base a w xs (Sp.txtB s)) := by subst hm; exact appText_any s base a cap xs w h hlen
theorem appBytes_at (s : ByteArray) (ab : Option Addr) (cb : Nat) (base : Nat) (a : Option Addr) (cap : Nat) (xs : List Int) (w : World) (m : Nat) (hm : m = xs.length) (hb : BytesAt w (Lo base) ab s) (h : Outs w base a cap xs) (hlen : xs.length + (Sp.txtB s).length ≤ 140737488355328) :
    Calls Try.prog 91 #[.slice a m cap, .slice ab s.size cb] w (Apd base a w xs (Sp.txtB s)) := by subst hm; exact appBytes_any s ab cb base a cap xs w hb h hlen
theorem Apd.cons {base : Nat} {a a1 : Option Addr} {w w1 w2 : World} {xs ys : List Int} {k : Int} {a' : Option Addr} {cap' : Nat} (hb : Gr base a a1 w w1) (h1 : Outs w2 base a' cap' (xs ++ [k] ++ ys)) (h2 : Gr base a1 a' w1 w2) : Apd base a w xs (k :: ys) (.returned (.slice a' (xs.length + 1 + ys.length) cap')) w2 :=
  ⟨a', cap', by rw [List.length_cons, Nat.add_right_comm, Nat.add_assoc], by rw [List.append_assoc] at h1; exact h1, hb.trans h2⟩
theorem Apd.behind {base : Nat} {a a1 : Option Addr} {w w1 w2 : World} {xs ks ys : List Int} {e : Ending} (hb : Gr base a a1 w w1) (h : Apd base a1 w1 (xs ++ ks) ys e w2) : Apd base a w xs (ks ++ ys) e w2 := by
  obtain ⟨a', cap', rfl, h1, h2⟩ := h
  exact ⟨a', cap', by rw [List.length_append, List.length_append, Nat.add_assoc], by rw [← List.append_assoc]; exact h1, hb.trans h2⟩

set_option maxRecDepth 100000 in
set_option maxHeartbeats 1000000 in
theorem aval_1 (base : Nat) (a : Option Addr) (cap : Nat) (xs : List Int) (w : World) (h : Outs w base a cap xs) (hlen : xs.length + ([1]).length ≤ 140737488355328) :
    Calls Try.prog 50 #[.slice a xs.length cap, .nilIface] w (Apd base a w xs ([1])) := by
  obtain ⟨i0, hi, hz0, hz1, hz2⟩ := info_parts Try.infoB
  have hl : xs.length + 1 ≤ 140737488355328 := by simp at hlen; omega
  have HO : Hid (Outs w base a cap xs) := h
  have HOW : Hid (w.ownsRow base 5 1 (.slice a xs.length cap) xs.length (u8s xs)) := h.1
  clear h
  go_enter Try.func50, Try.ntmps50
  go_wp2_with (at_builtin; refine wpList_app _ rfl _ _ 23 rfl base 5 i0 (.int .u8 0) 1 1 Try.undB hi hz0 hz1 hz2 rfl (by decide) _ _ _ rfl (HOW.out.alloc _) ⟨w.heap.size, 0, none⟩ 1 1 [.int .u8 1] rfl rfl (cell_one_new _ _ _) (fun u hu => by simp at hu; subst hu; rfl) (by decide) (by unfold maxLen; omega) (by omega) (by have := HO.out.2; simp; omega) ?_; intro g' cap2 w3 hown' hgrow hor')
  obtain ⟨h1, h2⟩ := HO.out.step (ys := [1]) hown' rfl (by simp) hgrow hor'
  have HE : Hid (Outs w3 base (some ⟨g', 0, none⟩) cap2 (xs ++ [1]) ∧ Gr base a (some ⟨g', 0, none⟩) w w3) := ⟨h1, h2⟩
  clear h1 h2 hown' hgrow hor'
  go_wp2_with fail
  go_ret
  exact ⟨_, cap2, rfl, HE.out.1, HE.out.2⟩

set_option maxRecDepth 100000 in
set_option maxHeartbeats 1000000 in
theorem aval_2f (base : Nat) (a : Option Addr) (cap : Nat) (xs : List Int) (w : World) (h : Outs w base a cap xs) (hlen : xs.length + ([2] ++ [0]).length ≤ 140737488355328) :
    Calls Try.prog 50 #[.slice a xs.length cap, .iface 4 (.bool false)] w (Apd base a w xs ([2] ++ [0])) := by
  obtain ⟨i0, hi, hz0, hz1, hz2⟩ := info_parts Try.infoB
  have hl : xs.length + 1 ≤ 140737488355328 := by simp at hlen; omega
  have hl2 : xs.length + 2 ≤ 140737488355328 := by simp at hlen; omega
  have HO : Hid (Outs w base a cap xs) := h
  have HOW : Hid (w.ownsRow base 5 1 (.slice a xs.length cap) xs.length (u8s xs)) := h.1
  clear h
  go_enter Try.func50, Try.ntmps50
  go_wp2_with (first | (go_at_call 86; refine (bit_any _ _).mono ?_; rintro e w' ⟨rfl, rfl⟩) | (at_builtin; refine wpList_app _ rfl _ _ 23 rfl base 5 i0 (.int .u8 0) 1 1 Try.undB hi hz0 hz1 hz2 rfl (by decide) _ _ _ rfl (HOW.out.alloc _) ⟨w.heap.size, 0, none⟩ 2 2 [.int .u8 2, .int .u8 0] rfl rfl (cell_two_new _ _ _ _) (fun u hu => by simp at hu; rcases hu with rfl | rfl <;> rfl) (by decide) (by unfold maxLen; omega) (by omega) (by have := HO.out.2; simp; omega) ?_; intro g' cap2 w3 hown' hgrow hor'))
  obtain ⟨h1, h2⟩ := HO.out.step (ys := [2, 0]) hown' rfl (by simp) hgrow hor'
  have HE : Hid (Outs w3 base (some ⟨g', 0, none⟩) cap2 (xs ++ [2, 0]) ∧ Gr base a (some ⟨g', 0, none⟩) w w3) := ⟨h1, h2⟩
  clear h1 h2 hown' hgrow hor'
  go_wp2_with fail
  go_ret
  exact ⟨_, cap2, rfl, HE.out.1, HE.out.2⟩

set_option maxRecDepth 100000 in
set_option maxHeartbeats 1000000 in
theorem aval_2t (base : Nat) (a : Option Addr) (cap : Nat) (xs : List Int) (w : World) (h : Outs w base a cap xs) (hlen : xs.length + ([2] ++ [1]).length ≤ 140737488355328) :
    Calls Try.prog 50 #[.slice a xs.length cap, .iface 4 (.bool true)] w (Apd base a w xs ([2] ++ [1])) := by
  obtain ⟨i0, hi, hz0, hz1, hz2⟩ := info_parts Try.infoB
  have hl : xs.length + 1 ≤ 140737488355328 := by simp at hlen; omega
  have hl2 : xs.length + 2 ≤ 140737488355328 := by simp at hlen; omega
  have HO : Hid (Outs w base a cap xs) := h
  have HOW : Hid (w.ownsRow base 5 1 (.slice a xs.length cap) xs.length (u8s xs)) := h.1
  clear h
  go_enter Try.func50, Try.ntmps50
  go_wp2_with (first | (go_at_call 86; refine (bit_any _ _).mono ?_; rintro e w' ⟨rfl, rfl⟩) | (at_builtin; refine wpList_app _ rfl _ _ 23 rfl base 5 i0 (.int .u8 0) 1 1 Try.undB hi hz0 hz1 hz2 rfl (by decide) _ _ _ rfl (HOW.out.alloc _) ⟨w.heap.size, 0, none⟩ 2 2 [.int .u8 2, .int .u8 1] rfl rfl (cell_two_new _ _ _ _) (fun u hu => by simp at hu; rcases hu with rfl | rfl <;> rfl) (by decide) (by unfold maxLen; omega) (by omega) (by have := HO.out.2; simp; omega) ?_; intro g' cap2 w3 hown' hgrow hor'))
  obtain ⟨h1, h2⟩ := HO.out.step (ys := [2, 1]) hown' rfl (by simp) hgrow hor'
  have HE : Hid (Outs w3 base (some ⟨g', 0, none⟩) cap2 (xs ++ [2, 1]) ∧ Gr base a (some ⟨g', 0, none⟩) w w3) := ⟨h1, h2⟩
  clear h1 h2 hown' hgrow hor'
  go_wp2_with fail
  go_ret
  exact ⟨_, cap2, rfl, HE.out.1, HE.out.2⟩

set_option maxRecDepth 100000 in
set_option maxHeartbeats 1000000 in
theorem aval_3 (i : Int) (base : Nat) (a : Option Addr) (cap : Nat) (xs : List Int) (w : World) (h0 : -9223372036854775808 ≤ i) (h1 : i ≤ 9223372036854775807) (h : Outs w base a cap xs) (hlen : xs.length + (3 :: Sp.numB (Sp.fold i)).length ≤ 140737488355328) :
    Calls Try.prog 50 #[.slice a xs.length cap, .iface 2 (.int .i64 i)] w (Apd base a w xs (3 :: Sp.numB (Sp.fold i))) := by
  obtain ⟨i0, hi, hz0, hz1, hz2⟩ := info_parts Try.infoB
  have hl : xs.length + 1 ≤ 140737488355328 := by simp at hlen; omega
  have hl2 : xs.length + 1 + (Sp.numB (Sp.fold i)).length ≤ 140737488355328 := by simp at hlen; omega
  have HF : Hid (Sp.fold i < 18446744073709551616) := Sp.fold_lt h0 h1
  have HO : Hid (Outs w base a cap xs) := h
  have HOW : Hid (w.ownsRow base 5 1 (.slice a xs.length cap) xs.length (u8s xs)) := h.1
  clear h
  go_enter Try.func50, Try.ntmps50
  go_wp2_with (at_builtin; refine wpList_app _ rfl _ _ 23 rfl base 5 i0 (.int .u8 0) 1 1 Try.undB hi hz0 hz1 hz2 rfl (by decide) _ _ _ rfl (HOW.out.alloc _) ⟨w.heap.size, 0, none⟩ 1 1 [.int .u8 3] rfl rfl (cell_one_new _ _ _) (fun u hu => by simp at hu; subst hu; rfl) (by decide) (by unfold maxLen; omega) (by omega) (by have := HO.out.2; simp; omega) ?_; intro g' cap2 w3 hown' hgrow hor')
  obtain ⟨h1, h2⟩ := HO.out.step (ys := [3]) hown' rfl (by simp) hgrow hor'
  have HE : Hid (Outs w3 base (some ⟨g', 0, none⟩) cap2 (xs ++ [3])) := h1
  have HB : Hid (Gr base a (some ⟨g', 0, none⟩) w w3) := h2
  clear h1 h2 hown' hgrow hor'
  go_wp2_with (first | (go_at_call 88; refine (folded_any _ _ h0 h1).mono ?_; rintro e w' ⟨rfl, rfl⟩) | (go_at_call 87; refine (appNum_at (Sp.fold i) base _ _ (xs ++ [3]) _ _ (by simp) HF.out HE.out (by simp; omega)).mono ?_; rintro e w2 ⟨a2, cap3, rfl, ho2, hb2⟩))
  go_ret
  exact Apd.cons HB.out ho2 hb2

set_option maxRecDepth 100000 in
set_option maxHeartbeats 1000000 in
theorem aval_4 (f : Nat) (base : Nat) (a : Option Addr) (cap : Nat) (xs : List Int) (w : World) (h : Outs w base a cap xs) (hlen : xs.length + (4 :: Sp.bitsTo f 8).length ≤ 140737488355328) :
    Calls Try.prog 50 #[.slice a xs.length cap, .iface 22 (.float .f64 f)] w (Apd base a w xs (4 :: Sp.bitsTo f 8)) := by
  obtain ⟨i0, hi, hz0, hz1, hz2⟩ := info_parts Try.infoB
  have hl : xs.length + 1 ≤ 140737488355328 := by simp at hlen; omega
  have hl2 : xs.length + 1 + 8 ≤ 140737488355328 := by simp [Sp.bitsTo_len] at hlen; omega
  have hbr := bits_run f
  have HO : Hid (Outs w base a cap xs) := h
  have HOW : Hid (w.ownsRow base 5 1 (.slice a xs.length cap) xs.length (u8s xs)) := h.1
  clear h
  go_enter Try.func50, Try.ntmps50
  go_wp2_with (at_builtin; refine wpList_app _ rfl _ _ 23 rfl base 5 i0 (.int .u8 0) 1 1 Try.undB hi hz0 hz1 hz2 rfl (by decide) _ _ _ rfl (HOW.out.alloc _) ⟨w.heap.size, 0, none⟩ 1 1 [.int .u8 4] rfl rfl (cell_one_new _ _ _) (fun u hu => by simp at hu; subst hu; rfl) (by decide) (by unfold maxLen; omega) (by omega) (by have := HO.out.2; simp; omega) ?_; intro g' cap2 w3 hown' hgrow hor')
  obtain ⟨h1, h2⟩ := HO.out.step (ys := [4]) hown' rfl (by simp) hgrow hor'
  have HE : Hid (Outs w3 base (some ⟨g', 0, none⟩) cap2 (xs ++ [4])) := h1
  have HB : Hid (Gr base a (some ⟨g', 0, none⟩) w w3) := h2
  clear h1 h2 hown' hgrow hor'
  go_wp2_with ((go_at_call 89; refine (appBits_at f base _ _ (xs ++ [4]) _ _ (by simp) HE.out (by simp; omega)).mono ?_; rintro e w2 ⟨a2, cap3, rfl, ho2, hb2⟩))
  go_ret
  exact Apd.cons HB.out ho2 hb2

set_option maxRecDepth 100000 in
set_option maxHeartbeats 1000000 in
theorem aval_5 (s : ByteArray) (base : Nat) (a : Option Addr) (cap : Nat) (xs : List Int) (w : World) (h : Outs w base a cap xs) (hlen : xs.length + (5 :: Sp.txtB s).length ≤ 140737488355328) :
    Calls Try.prog 50 #[.slice a xs.length cap, .iface 9 (.string s)] w (Apd base a w xs (5 :: Sp.txtB s)) := by
  obtain ⟨i0, hi, hz0, hz1, hz2⟩ := info_parts Try.infoB
  have hl : xs.length + 1 ≤ 140737488355328 := by simp at hlen; omega
  have hl2 : xs.length + 1 + (Sp.txtB s).length ≤ 140737488355328 := by simp at hlen; omega
  have HO : Hid (Outs w base a cap xs) := h
  have HOW : Hid (w.ownsRow base 5 1 (.slice a xs.length cap) xs.length (u8s xs)) := h.1
  clear h
  go_enter Try.func50, Try.ntmps50
  go_wp2_with (at_builtin; refine wpList_app _ rfl _ _ 23 rfl base 5 i0 (.int .u8 0) 1 1 Try.undB hi hz0 hz1 hz2 rfl (by decide) _ _ _ rfl (HOW.out.alloc _) ⟨w.heap.size, 0, none⟩ 1 1 [.int .u8 5] rfl rfl (cell_one_new _ _ _) (fun u hu => by simp at hu; subst hu; rfl) (by decide) (by unfold maxLen; omega) (by omega) (by have := HO.out.2; simp; omega) ?_; intro g' cap2 w3 hown' hgrow hor')
  obtain ⟨h1, h2⟩ := HO.out.step (ys := [5]) hown' rfl (by simp) hgrow hor'
  have HE : Hid (Outs w3 base (some ⟨g', 0, none⟩) cap2 (xs ++ [5])) := h1
  have HB : Hid (Gr base a (some ⟨g', 0, none⟩) w w3) := h2
  clear h1 h2 hown' hgrow hor'
  go_wp2_with ((go_at_call 90; refine (appText_at s base _ _ (xs ++ [5]) _ _ (by simp) HE.out (by simp; omega)).mono ?_; rintro e w2 ⟨a2, cap3, rfl, ho2, hb2⟩))
  go_ret
  exact Apd.cons HB.out ho2 hb2

set_option maxRecDepth 100000 in
set_option maxHeartbeats 1000000 in
theorem aval_6 (s : ByteArray) (ab : Option Addr) (cb : Nat) (base : Nat) (a : Option Addr) (cap : Nat) (xs : List Int) (w : World) (hs : BytesAt w (Lo base) ab s) (h : Outs w base a cap xs) (hlen : xs.length + (6 :: Sp.txtB s).length ≤ 140737488355328) :
    Calls Try.prog 50 #[.slice a xs.length cap, .iface 23 (.slice ab s.size cb)] w (Apd base a w xs (6 :: Sp.txtB s)) := by
  obtain ⟨i0, hi, hz0, hz1, hz2⟩ := info_parts Try.infoB
  have hl : xs.length + 1 ≤ 140737488355328 := by simp at hlen; omega
  have hl2 : xs.length + 1 + (Sp.txtB s).length ≤ 140737488355328 := by simp at hlen; omega
  have HS : Hid (∀ W, Below base w W → BytesAt W (Lo base) ab s) := fun W hW => hs.same (Same.of_below hW (Nat.le_refl _)) (fun _ h => h)
  clear hs
  have HO : Hid (Outs w base a cap xs) := h
  have HOW : Hid (w.ownsRow base 5 1 (.slice a xs.length cap) xs.length (u8s xs)) := h.1
  clear h
  go_enter Try.func50, Try.ntmps50
  go_wp2_with (at_builtin; refine wpList_app _ rfl _ _ 23 rfl base 5 i0 (.int .u8 0) 1 1 Try.undB hi hz0 hz1 hz2 rfl (by decide) _ _ _ rfl (HOW.out.alloc _) ⟨w.heap.size, 0, none⟩ 1 1 [.int .u8 6] rfl rfl (cell_one_new _ _ _) (fun u hu => by simp at hu; subst hu; rfl) (by decide) (by unfold maxLen; omega) (by omega) (by have := HO.out.2; simp; omega) ?_; intro g' cap2 w3 hown' hgrow hor')
  obtain ⟨h1, h2⟩ := HO.out.step (ys := [6]) hown' rfl (by simp) hgrow hor'
  have HE : Hid (Outs w3 base (some ⟨g', 0, none⟩) cap2 (xs ++ [6])) := h1
  have HB : Hid (Gr base a (some ⟨g', 0, none⟩) w w3) := h2
  clear h1 h2 hown' hgrow hor'
  go_wp2_with ((go_at_call 91; refine (appBytes_at s ab cb base _ _ (xs ++ [6]) _ _ (by simp) (HS.out _ HB.out.1) HE.out (by simp; omega)).mono ?_; rintro e w2 ⟨a2, cap3, rfl, ho2, hb2⟩))
  go_ret
  exact Apd.cons HB.out ho2 hb2

set_option maxRecDepth 100000 in
set_option maxHeartbeats 1000000 in
theorem aval_7 (n : Nat) (base : Nat) (a : Option Addr) (cap : Nat) (xs : List Int) (w : World) (hn : n < 18446744073709551616) (h : Outs w base a cap xs) (hlen : xs.length + (7 :: Sp.numB n).length ≤ 140737488355328) :
    Calls Try.prog 50 #[.slice a xs.length cap, .iface 25 (.int .u64 (n : Int))] w (Apd base a w xs (7 :: Sp.numB n)) := by
  obtain ⟨i0, hi, hz0, hz1, hz2⟩ := info_parts Try.infoB
  have hl : xs.length + 1 ≤ 140737488355328 := by simp at hlen; omega
  have hl2 : xs.length + 1 + (Sp.numB n).length ≤ 140737488355328 := by simp at hlen; omega
  have HO : Hid (Outs w base a cap xs) := h
  have HOW : Hid (w.ownsRow base 5 1 (.slice a xs.length cap) xs.length (u8s xs)) := h.1
  clear h
  go_enter Try.func50, Try.ntmps50
  go_wp2_with (at_builtin; refine wpList_app _ rfl _ _ 23 rfl base 5 i0 (.int .u8 0) 1 1 Try.undB hi hz0 hz1 hz2 rfl (by decide) _ _ _ rfl (HOW.out.alloc _) ⟨w.heap.size, 0, none⟩ 1 1 [.int .u8 7] rfl rfl (cell_one_new _ _ _) (fun u hu => by simp at hu; subst hu; rfl) (by decide) (by unfold maxLen; omega) (by omega) (by have := HO.out.2; simp; omega) ?_; intro g' cap2 w3 hown' hgrow hor')
  obtain ⟨h1, h2⟩ := HO.out.step (ys := [7]) hown' rfl (by simp) hgrow hor'
  have HE : Hid (Outs w3 base (some ⟨g', 0, none⟩) cap2 (xs ++ [7])) := h1
  have HB : Hid (Gr base a (some ⟨g', 0, none⟩) w w3) := h2
  clear h1 h2 hown' hgrow hor'
  go_wp2_with ((go_at_call 87; refine (appNum_at (n) base _ _ (xs ++ [7]) _ _ (by simp) hn HE.out (by simp; omega)).mono ?_; rintro e w2 ⟨a2, cap3, rfl, ho2, hb2⟩))
  go_ret
  exact Apd.cons HB.out ho2 hb2
end Go.Proofs.Ytkomcebknllaiaa

/- wire.appendFields and wire.appendValue at a list, a dict, a record: by what is proved of smaller values. -/
namespace Go.Proofs.Ytkomcebknllaiaa
open Go.RowKit

/-- the contract of appendValue at terms of at most N parts -/
def EncC (N : Nat) : Prop := ∀ (t : Tm), t.sz ≤ N → ∀ (v : Value) (base : Nat) (a : Option Addr) (cap : Nat) (xs : List Int) (w : World), t.V w (Lo base) v → t.Ok → t.Bdd → Outs w base a cap xs → xs.length + t.enc.length ≤ 140737488355328 →
  Calls Try.prog 50 #[.slice a xs.length cap, v] w (Apd base a w xs t.enc)
/-- what Apd says, its numbers hidden -/
def ApdH (base : Nat) (a : Option Addr) (w : World) (xs ys : List Int) (e : Ending) (w' : World) : Prop := ∃ m a' cap', e = .returned (.slice a' m cap') ∧ Hid (m = (xs ++ ys).length ∧ Outs w' base a' cap' (xs ++ ys) ∧ Gr base a a' w w')
theorem Apd.hid {base : Nat} {a : Option Addr} {w : World} {xs ys : List Int} {e : Ending} {w' : World} (h : Apd base a w xs ys e w') : ApdH base a w xs ys e w' := by
  obtain ⟨a', cap', rfl, h1, h2⟩ := h
  exact ⟨_, a', cap', rfl, List.length_append.symm, h1, h2⟩
theorem Apd.of {base : Nat} {a : Option Addr} {w : World} {xs ys : List Int} {m : Nat} {a' : Option Addr} {cap' : Nat} {w' : World} (hm : m = (xs ++ ys).length) (h1 : Outs w' base a' cap' (xs ++ ys)) (h2 : Gr base a a' w w') : Apd base a w xs ys (.returned (.slice a' m cap')) w' :=
  ⟨a', cap', by rw [hm, List.length_append], h1, h2⟩
theorem EncC.at {N : Nat} (HC : EncC N) {t : Tm} (hN : t.sz ≤ N) {v : Value} {base : Nat} {a : Option Addr} {cap : Nat} {xs : List Int} {w : World} {m : Nat} (hm : m = xs.length) (h : t.V w (Lo base) v) (ho : t.Ok) (hb : t.Bdd) (hx : Outs w base a cap xs) (hl : xs.length + t.enc.length ≤ 140737488355328) :
    Calls Try.prog 50 #[.slice a m cap, v] w (ApdH base a w xs t.enc) := by subst hm; exact (HC t hN v base a cap xs w h ho hb hx hl).mono fun _ _ => Apd.hid
theorem outs_lt {w : World} {base : Nat} {a : Option Addr} {cap : Nat} {xs : List Int} (h : Outs w base a cap xs) (k : Nat) (e : a.map Addr.block = some k) : base ≤ k ∧ k < w.heap.size := h.1.lt k (by rw [own_map]; exact e)
theorem outs_alloc {w : World} {base : Nat} {a : Option Addr} {cap : Nat} {xs : List Int} (h : Outs w base a cap xs) (o : Obj) : Outs (w.alloc o) base a cap xs := ⟨h.1.alloc o, by have := h.2; simp; omega⟩
theorem Gr.alloc {base : Nat} {a a' : Option Addr} {w w' : World} (h : Gr base a a' w w') (hb : base ≤ w'.heap.size) (o : Obj) : Gr base a a' w (w'.alloc o) :=
  ⟨h.1.alloc hb o, fun k hk hn => by rw [Below.heap_alloc _ _ _ (Nat.lt_of_lt_of_le hk h.1.size)]; exact h.2.1 k hk hn, h.2.2⟩

set_option maxRecDepth 100000 in
set_option maxHeartbeats 1000000 in
theorem appFields_any (N : Nat) (HC : EncC N) (L : TmF) (hN : L.sz ≤ N) (al : Option Addr) (cl : Nat) (base : Nat) (a : Option Addr) (cap : Nat) (xs : List Int) (w : World) (m : Nat) (hm : m = xs.length) (hv : L.V w (Lo base) al 0) (hll : L.len ≤ 4096) (hok : L.Ok) (hbd : L.Bdd) (h : Outs w base a cap xs) (hlen : xs.length + L.encR.length ≤ 140737488355328) :
    Calls Try.prog 92 #[.slice a m cap, .slice al L.len cl] w (Apd base a w xs L.encR) := by
  have HCH : Hid (EncC N) := HC
  have HL : Hid (xs.length + (Sp.numB L.len).length + L.enc.length ≤ 140737488355328) := by show _ ≤ _; simp [TmF.encR] at hlen; omega
  have HN : Hid (Calls Try.prog 87 #[.slice a m cap, .int .u64 (L.len : Int)] w (ApdH base a w xs (Sp.numB L.len))) := (appNum_at L.len base a cap xs w m hm (by omega) h (by have := HL.out; omega)).mono fun _ _ => Apd.hid
  have HV0 : Hid (L.V w (Lo base) al 0 ∧ L.Ok ∧ L.Bdd) := ⟨hv, hok, hbd⟩
  clear h HC hm hlen hv hok hbd
  go_enter Try.func92, Try.ntmps92
  go_wp2_with fail
  refine HN.out.mono ?_
  rintro e w1 ⟨m1, a1, cap1, rfl, H1⟩
  clear HN
  go_wp2_with fail
  go_loopw [0, 14] (fun u i wr => ∃ (m k : Nat) (a' : Option Addr) (cap' : Nat) (done : List Int) (l : TmF), u = .slice a' m cap' ∧ i = .int .i64 k ∧ l.len + k = L.len ∧ l.sz ≤ N ∧ Hid (m = (xs ++ Sp.numB L.len ++ done).length ∧ L.enc = done ++ l.enc) ∧ Hid (Outs wr base a' cap' (xs ++ Sp.numB L.len ++ done) ∧ Gr base a a' w wr ∧ l.V w (Lo base) al k ∧ l.Ok ∧ l.Bdd)) (fun _ i _ => L.len - (intOf i).toNat)
  case atStart => exact ⟨m1, 0, a1, cap1, [], L, rfl, rfl, rfl, hN, ⟨by rw [List.append_nil]; exact H1.out.1, rfl⟩, ⟨by rw [List.append_nil]; exact H1.out.2.1, H1.out.2.2, HV0.out⟩⟩
  case round =>
    obtain ⟨m, k, a', cap', done, l, rfl, rfl, hk, hlN, HM, HO⟩ := hrel
    clear H1 HV0
    cases l with
    | nil =>
      have h1 : L.len ≤ k := by simp [TmF.len] at hk; omega
      clear hk
      go_wp2_with fail
      go_ret
      have he := HM.out.2
      rw [TmF.enc, List.append_nil] at he
      refine Apd.of ?_ ?_ HO.out.2.1
      · rw [HM.out.1, TmF.encR, he, List.append_assoc]
      · rw [TmF.encR, he, ← List.append_assoc]; exact HO.out.1
    | cons nm t l =>
      obtain ⟨hout, hgr, hv, hok, hbd⟩ := HO.out
      simp only [TmF.V] at hv
      obtain ⟨g, o, v, rfl, hg, c0, c1, hnl, ht, hv'⟩ := hv
      have hg : g < base := hg
      have hlt : k < L.len := by simp [TmF.len] at hk; omega
      have HK : Hid (l.len + (k + 1) = L.len) := by show _ = _; simp [TmF.len] at hk; omega
      have htN : t.sz ≤ N ∧ l.sz ≤ N := by simp [TmF.sz] at hlN; omega
      have d0 : wr.cell? ⟨g, o + k * 2, none⟩ = some (.string nm) := by rw [hgr.1.cell (p := ⟨g, o + k * 2, none⟩) hg]; exact c0
      have d1 : wr.cell? ⟨g, o + k * 2 + 1, none⟩ = some v := by rw [hgr.1.cell (p := ⟨g, o + k * 2 + 1, none⟩) hg]; exact c1
      have HLN : Hid (((xs ++ Sp.numB L.len ++ done) ++ Sp.txtB nm).length + t.enc.length ≤ 140737488355328) := by
        show _ ≤ _
        have h1 := HL.out
        have h2 := HM.out.2
        rw [h2, TmF.enc] at h1
        simp only [List.length_append] at h1 ⊢
        omega
      have HT : Hid (∀ o, Calls Try.prog 90 #[.slice a' m cap', .string nm] (wr.alloc o) (ApdH base a' (wr.alloc o) (xs ++ Sp.numB L.len ++ done) (Sp.txtB nm))) := fun o =>
        (appText_at nm base a' cap' (xs ++ Sp.numB L.len ++ done) (wr.alloc o) m HM.out.1 (outs_alloc hout o) (by have := HLN.out; rw [List.length_append] at this; omega)).mono fun _ _ => Apd.hid
      have HNV : Hid (l.V w (Lo base) (some ⟨g, o, none⟩) (k + 1) ∧ l.Ok ∧ l.Bdd) := ⟨hv', hok.head.2, hbd.2⟩
      have HTV : Hid ((∀ W, Below base w W → t.V W (Lo base) v) ∧ t.Ok ∧ t.Bdd) := ⟨fun W hW => t.V_same (Same.of_below hW (Nat.le_refl _)) (fun _ h => h) v ht, hok.head.1, hbd.1⟩
      have HBX : Hid (∀ W, Gr base a' none (wr.alloc (.cells #[.string nm, v] 112)) W → W.cell? ⟨wr.heap.size, 0, none⟩ = some (.string nm) ∧ W.cell? ⟨wr.heap.size, 1, none⟩ = some v) := fun W hW => by
        have hblk := hW.2.1 wr.heap.size (by simp) (fun e => by have := (outs_lt hout _ e).2; omega)
        constructor
        · rw [World.cell?_of_block (w := wr.alloc (.cells #[.string nm, v] 112)) (a := ⟨wr.heap.size, 0, none⟩) hblk]; simp
        · rw [World.cell?_of_block (w := wr.alloc (.cells #[.string nm, v] 112)) (a := ⟨wr.heap.size, 1, none⟩) hblk]; simp
      have hsh := t.V_shape v ht
      have HGR : Hid (Gr base a a' w wr ∧ base ≤ wr.heap.size) := ⟨hgr, hout.2⟩
      clear hk hv' ht c0 c1 hlN hout hgr hok hbd
      rcases hsh with rfl | ⟨T, x, rfl⟩
      all_goals
        go_wp2_with fail
        refine (HT.out _).mono ?_
        rintro e w2 ⟨m2, a2, cap2, rfl, H2⟩
        obtain ⟨e0, e1⟩ := HBX.out w2 ⟨H2.out.2.2.1, H2.out.2.2.2.1, fun _ h => by simp at h⟩
        have HG2 : Hid (Gr base a a2 w w2) := (HGR.out.1.alloc HGR.out.2 _).trans H2.out.2.2
        clear HT
        go_wp2_with fail
        refine (HCH.out.at htN.1 H2.out.1 (HTV.out.1 _ HG2.out.1) HTV.out.2.1 HTV.out.2.2 H2.out.2.1 HLN.out).mono ?_
        rintro e w3 ⟨m3, a3, cap3, rfl, H3⟩
        go_wp2_with fail
        go_roundw
        case rel =>
          refine ⟨m3, k + 1, a3, cap3, done ++ (Sp.txtB nm ++ t.enc), l, rfl, by go_num, HK.out, htN.2, ⟨?_, ?_⟩, ⟨?_, HG2.out.trans H3.out.2.2, HNV.out⟩⟩
          · rw [H3.out.1]; simp only [List.append_assoc]
          · rw [HM.out.2, TmF.enc]; simp only [List.append_assoc]
          · have := H3.out.2.1; simp only [List.append_assoc] at this ⊢; exact this
        case measure => simp [intOf]; omega
end Go.Proofs.Ytkomcebknllaiaa

/- wire.appendValue at a list, a dict, a record; at every value that can be; wire.Encode. -/
namespace Go.Proofs.Ytkomcebknllaiaa
open Go.RowKit

theorem Gr.drew {base : Nat} {a a' : Option Addr} {w w' : World} (h : Gr base a a' w w') : Gr base a a' w w'.drew := ⟨h.1.drew, h.2.1, h.2.2⟩

set_option maxRecDepth 100000 in
set_option maxHeartbeats 1000000 in
theorem aval_8 (N : Nat) (HC : EncC N) (L : TmL) (hN : L.sz ≤ N) (al : Option Addr) (cl : Nat) (base : Nat) (a : Option Addr) (cap : Nat) (xs : List Int) (w : World) (hv : L.V w (Lo base) al 0) (hll : L.len ≤ 4096) (hok : L.Ok) (hbd : L.Bdd) (h : Outs w base a cap xs) (hlen : xs.length + (8 :: L.encR).length ≤ 140737488355328) :
    Calls Try.prog 50 #[.slice a xs.length cap, .iface 71 (.slice al L.len cl)] w (Apd base a w xs (8 :: L.encR)) := by
  obtain ⟨i0, hi, hz0, hz1, hz2⟩ := info_parts Try.infoB
  have hl : xs.length + 1 ≤ 140737488355328 := by simp at hlen; omega
  have HCH : Hid (EncC N) := HC
  have HL : Hid (xs.length + 1 + (Sp.numB L.len).length + L.enc.length ≤ 140737488355328) := by show _ ≤ _; simp [TmL.encR] at hlen; omega
  have HV0 : Hid (L.V w (Lo base) al 0 ∧ L.Ok ∧ L.Bdd) := ⟨hv, hok, hbd⟩
  clear hv hok hbd
  have HO : Hid (Outs w base a cap xs) := h
  have HOW : Hid (w.ownsRow base 5 1 (.slice a xs.length cap) xs.length (u8s xs)) := h.1
  clear h HC hlen
  go_enter Try.func50, Try.ntmps50
  go_wp2_with (at_builtin; refine wpList_app _ rfl _ _ 23 rfl base 5 i0 (.int .u8 0) 1 1 Try.undB hi hz0 hz1 hz2 rfl (by decide) _ _ _ rfl (HOW.out.alloc _) ⟨w.heap.size, 0, none⟩ 1 1 [.int .u8 8] rfl rfl (cell_one_new _ _ _) (fun u hu => by simp at hu; subst hu; rfl) (by decide) (by unfold maxLen; omega) (by omega) (by have := HO.out.2; simp; omega) ?_; intro g' cap2 w3 hown' hgrow hor')
  obtain ⟨h1, h2⟩ := HO.out.step (ys := [8]) hown' rfl (by simp) hgrow hor'
  have HE : Hid (Outs w3 base (some ⟨g', 0, none⟩) cap2 (xs ++ [8])) := h1
  have HB : Hid (Gr base a (some ⟨g', 0, none⟩) w w3) := h2
  clear h1 h2 hown' hgrow hor'
  go_wp2_with fail
  refine ((appNum_at L.len base _ _ (xs ++ [8]) _ _ (by simp) (by omega) HE.out (by have := HL.out; simp; omega)).mono fun _ _ => Apd.hid).mono ?_
  rintro e w1 ⟨m1, a1, cap1, rfl, H1⟩
  go_wp2_with fail
  go_loopw [0, 84] (fun u i wr => ∃ (m k : Nat) (a' : Option Addr) (cap' : Nat) (done : List Int) (l : TmL), u = .slice a' m cap' ∧ i = .int .i64 k ∧ l.len + k = L.len ∧ l.sz ≤ N ∧ Hid (m = (xs ++ [8] ++ Sp.numB L.len ++ done).length ∧ L.enc = done ++ l.enc) ∧ Hid (Outs wr base a' cap' (xs ++ [8] ++ Sp.numB L.len ++ done) ∧ Gr base a a' w wr ∧ l.V w (Lo base) al k ∧ l.Ok ∧ l.Bdd)) (fun _ i _ => L.len - (intOf i).toNat)
  case atStart => exact ⟨m1, 0, a1, cap1, [], L, rfl, rfl, rfl, hN, ⟨by rw [List.append_nil]; exact H1.out.1, rfl⟩, ⟨by rw [List.append_nil]; exact H1.out.2.1, HB.out.trans H1.out.2.2, HV0.out⟩⟩
  case round =>
    obtain ⟨m, k, a', cap', done, l, rfl, rfl, hk, hlN, HM, HOU⟩ := hrel
    clear H1 HV0
    cases l with
    | nil =>
      have h1 : L.len ≤ k := by simp [TmL.len] at hk; omega
      clear hk
      go_wp2_with fail
      go_ret
      have he := HM.out.2
      rw [TmL.enc, List.append_nil] at he
      have e8 : xs ++ 8 :: L.encR = xs ++ [8] ++ Sp.numB L.len ++ done := by rw [TmL.encR, he]; simp
      refine Apd.of ?_ ?_ HOU.out.2.1
      · rw [HM.out.1, e8]
      · rw [e8]; exact HOU.out.1
    | cons t l =>
      obtain ⟨hout, hgr, hv, hok, hbd⟩ := HOU.out
      simp only [TmL.V] at hv
      obtain ⟨g, o, v, rfl, hg, c0, ht, hv'⟩ := hv
      have hg : g < base := hg
      have hlt : k < L.len := by simp [TmL.len] at hk; omega
      have HK : Hid (l.len + (k + 1) = L.len) := by show _ = _; simp [TmL.len] at hk; omega
      have htN : t.sz ≤ N ∧ l.sz ≤ N := by simp [TmL.sz] at hlN; omega
      have d0 : wr.cell? ⟨g, o + k, none⟩ = some v := by rw [hgr.1.cell (p := ⟨g, o + k, none⟩) hg]; exact c0
      have HLN : Hid ((xs ++ [8] ++ Sp.numB L.len ++ done).length + t.enc.length ≤ 140737488355328) := by
        show _ ≤ _
        have h1 := HL.out
        have h2 := HM.out.2
        rw [h2, TmL.enc] at h1
        simp only [List.length_append, List.length_cons, List.length_nil] at h1 ⊢
        omega
      have HNV : Hid (l.V w (Lo base) (some ⟨g, o, none⟩) (k + 1) ∧ l.Ok ∧ l.Bdd) := ⟨hv', hok.head.2, hbd.2⟩
      have HTV : Hid (t.V wr (Lo base) v ∧ t.Ok ∧ t.Bdd) := ⟨t.V_same (Same.of_below hgr.1 (Nat.le_refl _)) (fun _ h => h) v ht, hok.head.1, hbd.1⟩
      clear hk hv' ht c0 hlN hout hgr hok hbd
      go_wp2_with fail
      refine (HCH.out.at htN.1 HM.out.1 HTV.out.1 HTV.out.2.1 HTV.out.2.2 HOU.out.1 HLN.out).mono ?_
      rintro e w4 ⟨m4, a4, cap4, rfl, H4⟩
      go_wp2_with fail
      go_roundw
      case rel =>
        refine ⟨m4, k + 1, a4, cap4, done ++ t.enc, l, rfl, by go_num, HK.out, htN.2, ⟨?_, ?_⟩, ⟨?_, HOU.out.2.1.trans H4.out.2.2, HNV.out⟩⟩
        · rw [H4.out.1]; simp only [List.append_assoc]
        · rw [HM.out.2, TmL.enc]; simp only [List.append_assoc]
        · have := H4.out.2.1; simp only [List.append_assoc] at this ⊢; exact this
      case measure => simp [intOf]; omega

set_option maxRecDepth 100000 in
set_option maxHeartbeats 1000000 in
theorem aval_9 (N : Nat) (HC : EncC N) (L : TmF) (hN : L.sz ≤ N) (al : Option Addr) (cl : Nat) (base : Nat) (a : Option Addr) (cap : Nat) (xs : List Int) (w : World) (hv : L.V w (Lo base) al 0) (hll : L.len ≤ 4096) (hok : L.Ok) (hbd : L.Bdd) (h : Outs w base a cap xs) (hlen : xs.length + (9 :: L.encR).length ≤ 140737488355328) :
    Calls Try.prog 50 #[.slice a xs.length cap, .iface 73 (.slice al L.len cl)] w (Apd base a w xs (9 :: L.encR)) := by
  obtain ⟨i0, hi, hz0, hz1, hz2⟩ := info_parts Try.infoB
  have hl : xs.length + 1 ≤ 140737488355328 := by simp at hlen; omega
  have HCH : Hid (EncC N) := HC
  have HL : Hid (xs.length + 1 + L.encR.length ≤ 140737488355328) := by show _ ≤ _; simp at hlen; omega
  have HV0 : Hid ((∀ W, Below base w W → L.V W (Lo base) al 0) ∧ L.Ok ∧ L.Bdd) := ⟨fun W hW => L.V_same (Same.of_below hW (Nat.le_refl _)) (fun _ h => h) al 0 hv, hok, hbd⟩
  clear hv hok hbd
  have HO : Hid (Outs w base a cap xs) := h
  have HOW : Hid (w.ownsRow base 5 1 (.slice a xs.length cap) xs.length (u8s xs)) := h.1
  clear h HC hlen
  go_enter Try.func50, Try.ntmps50
  go_wp2_with (at_builtin; refine wpList_app _ rfl _ _ 23 rfl base 5 i0 (.int .u8 0) 1 1 Try.undB hi hz0 hz1 hz2 rfl (by decide) _ _ _ rfl (HOW.out.alloc _) ⟨w.heap.size, 0, none⟩ 1 1 [.int .u8 9] rfl rfl (cell_one_new _ _ _) (fun u hu => by simp at hu; subst hu; rfl) (by decide) (by unfold maxLen; omega) (by omega) (by have := HO.out.2; simp; omega) ?_; intro g' cap2 w3 hown' hgrow hor')
  obtain ⟨h1, h2⟩ := HO.out.step (ys := [9]) hown' rfl (by simp) hgrow hor'
  have HE : Hid (Outs w3 base (some ⟨g', 0, none⟩) cap2 (xs ++ [9])) := h1
  have HB : Hid (Gr base a (some ⟨g', 0, none⟩) w w3) := h2
  clear h1 h2 hown' hgrow hor'
  go_wp2_with fail
  refine (appFields_any N HCH.out L hN al cl base _ _ (xs ++ [9]) _ _ (by simp) (HV0.out.1 _ HB.out.1) hll HV0.out.2.1 HV0.out.2.2 HE.out (by have := HL.out; simp; omega)).mono ?_
  rintro e w1 ⟨a2, cap3, rfl, ho2, hb2⟩
  go_wp2_with fail
  go_ret
  exact Apd.cons HB.out ho2 hb2

set_option maxRecDepth 100000 in
set_option maxHeartbeats 1000000 in
theorem aval_10 (N : Nat) (HC : EncC N) (L : TmF) (hN : L.sz ≤ N) (g : Nat) (al : Option Addr) (cl : Nat) (s : ByteArray) (vr : Nat) (base : Nat) (a : Option Addr) (cap : Nat) (xs : List Int) (w : World) (hg : g < base) (c0 : w.cell? ⟨g, 0, none⟩ = some (.string s)) (c1 : w.cell? ⟨g, 1, none⟩ = some (.int .i64 (vr : Int))) (c2 : w.cell? ⟨g, 2, none⟩ = some (.slice al L.len cl)) (hvr : vr ≤ 1000) (hv : L.V w (Lo base) al 0) (hll : L.len ≤ 4096) (hok : L.Ok) (hbd : L.Bdd) (h : Outs w base a cap xs) (hlen : xs.length + (10 :: (Sp.txtB s ++ (Sp.numB vr ++ L.encR))).length ≤ 140737488355328) :
    Calls Try.prog 50 #[.slice a xs.length cap, .iface 75 (.pointer (some ⟨g, 0, none⟩))] w (Apd base a w xs (10 :: (Sp.txtB s ++ (Sp.numB vr ++ L.encR)))) := by
  obtain ⟨i0, hi, hz0, hz1, hz2⟩ := info_parts Try.infoB
  have hl : xs.length + 1 ≤ 140737488355328 := by simp at hlen; omega
  have HCH : Hid (EncC N) := HC
  have HL : Hid (xs.length + 1 + (Sp.txtB s).length + (Sp.numB vr).length + L.encR.length ≤ 140737488355328) := by show _ ≤ _; simp at hlen; omega
  have HV0 : Hid ((∀ W, Below base w W → L.V W (Lo base) al 0) ∧ L.Ok ∧ L.Bdd) := ⟨fun W hW => L.V_same (Same.of_below hW (Nat.le_refl _)) (fun _ h => h) al 0 hv, hok, hbd⟩
  have HD : Hid (∀ W, Below base w W → W.cell? ⟨g, 0, none⟩ = some (.string s) ∧ W.cell? ⟨g, 1, none⟩ = some (.int .i64 (vr : Int)) ∧ W.cell? ⟨g, 2, none⟩ = some (.slice al L.len cl)) := fun W hW => ⟨by rw [hW.cell (p := ⟨g, 0, none⟩) hg]; exact c0, by rw [hW.cell (p := ⟨g, 1, none⟩) hg]; exact c1, by rw [hW.cell (p := ⟨g, 2, none⟩) hg]; exact c2⟩
  clear hv hok hbd
  have hbz := h.2
  have HA : Hid (∀ o, Below base w (w.alloc o).drew) := fun o => ((Below.refl base w).alloc hbz o).drew
  have HA0 : Hid (∀ o, Below base w (w.alloc o)) := fun o => ((Below.refl base w).alloc hbz o)
  have HO : Hid (Outs w base a cap xs) := h
  have HOW : Hid (w.ownsRow base 5 1 (.slice a xs.length cap) xs.length (u8s xs)) := h.1
  clear h HC hlen
  go_enter Try.func50, Try.ntmps50
  go_wp2_with fail
  go_region_held3 (fun W => W.cell? ⟨g, 0, none⟩ = some (.string s))
    (first | with_reducible exact (HD.out _ (Below.refl base w)).1 | with_reducible exact (HD.out _ (Below.refl base w).drew).1 | with_reducible exact (HD.out _ (HA.out _)).1 | with_reducible exact (HD.out _ (HA0.out _)).1 | with_reducible exact (HD.out _ HBb.out).1 | with_reducible exact (HD.out _ HGb.out).1 | (show False))
    ((first | (refine step_append_lies _ (by rfl) _ _ _ (by rfl) base 5 i0 _ 1 1 Try.undB hi hz0 hz1 hz2 rfl (by omega) _ xs.length (u8s xs) (by rfl) ((outs_call (outs_alloc HO.out (.cells #[.int .u8 10] 5)) ((Below.refl _ _).drew)).1) ⟨w.heap.size, 0, none⟩ 1 1 [.int .u8 10] (by rfl) (by rfl) (cell_one_new _ _ _) (fun u hu => by simp at hu; subst hu; rfl) (by omega) (by unfold maxLen; omega) (by omega) (by simp; omega) (w.heap.size + 1) (by simp) ?_; intro g' cap2 w3 hown' hgrow hor' hlt3; have h12 := (outs_call HO.out ((Below.refl _ _).drew)).step (o := .cells #[.int .u8 10] 5) (ys := [10]) hown' rfl (by simp) hgrow (by simpa using hor'); have HE : Hid (Outs w3 base (some ⟨g', 0, none⟩) cap2 (xs ++ [10])) := h12.1; have HB : Hid (Gr base a (some ⟨g', 0, none⟩) w w3) := (Gr.refl base a w).drew.trans h12.2; have HBb : Hid (Below base w w3) := HB.out.1) | (go_at_call 90; refine ((appText_at s base _ _ (xs ++ [10]) _ _ (by simp) HE.out (by have := HL.out; simp; omega)).mono fun _ _ => Apd.hid).mono ?_; rintro e w1 ⟨m1, a1, cap1, rfl, H1⟩; have HG1 : Hid (Gr base a a1 w w1) := HB.out.trans H1.out.2.2; have HGb : Hid (Below base w w1) := HG1.out.1)))
  obtain ⟨e0, e1, e2⟩ := HD.out w1 HG1.out.1
  go_wp2_with fail
  refine ((appNum_at vr base _ _ (xs ++ [10] ++ Sp.txtB s) _ _ H1.out.1 (by omega) H1.out.2.1 (by have := HL.out; simp; omega)).mono fun _ _ => Apd.hid).mono ?_
  rintro e w2 ⟨m2, a2, cap4, rfl, H2⟩
  have HG2 : Hid (Gr base a a2 w w2) := HG1.out.trans H2.out.2.2
  obtain ⟨b0, b1, b2⟩ := HD.out w2 HG2.out.1
  go_wp2_with fail
  refine ((appFields_any N HCH.out L hN al cl base _ _ (xs ++ [10] ++ Sp.txtB s ++ Sp.numB vr) _ _ H2.out.1 (HV0.out.1 _ HG2.out.1) hll HV0.out.2.1 HV0.out.2.2 H2.out.2.1 (by have := HL.out; simp; omega)).mono fun _ _ => Apd.hid).mono ?_
  rintro e w4 ⟨m4, a4, cap5, rfl, H4⟩
  go_wp2_with fail
  go_ret
  have e10 : xs ++ 10 :: (Sp.txtB s ++ (Sp.numB vr ++ L.encR)) = xs ++ [10] ++ Sp.txtB s ++ Sp.numB vr ++ L.encR := by simp
  refine Apd.of ?_ ?_ (HG2.out.trans H4.out.2.2)
  · rw [H4.out.1, e10]
  · rw [e10]; exact H4.out.2.1
end Go.Proofs.Ytkomcebknllaiaa

/- wire.appendValue at every value that can be; wire.Encode. -/
namespace Go.Proofs.Ytkomcebknllaiaa
open Go.RowKit

set_option maxHeartbeats 1000000 in
theorem enc_any (N : Nat) : EncC N := by
  induction N with
  | zero => intro t ht; cases t; simp [Tm.sz] at ht
  | succ N ih =>
    intro t hN v base a cap xs w hv ho hbd hx hlen
    cases t with
    | mk k b i f tx by' rf l fs c vr =>
      have hlN : l.sz ≤ N ∧ fs.sz ≤ N := by simp [Tm.sz] at hN; omega
      obtain ⟨p1, p2, p3, p4⟩ := ho.parts
      obtain ⟨q1, q2, q3, q4, q5⟩ := ho.bounds
      simp only [Tm.Bdd] at hbd
      obtain ⟨bi, bf, br, bv, bl, bfs⟩ := hbd
      simp only [Tm.V] at hv
      obtain ⟨h1, h2, h3, h4, h5, h6, h7, h8, h9, h10, h11, h12⟩ := hv
      have hk : k = 1 ∨ k = 2 ∨ k = 3 ∨ k = 4 ∨ k = 5 ∨ k = 6 ∨ k = 7 ∨ k = 8 ∨ k = 9 ∨ k = 10 := by omega
      rcases hk with rfl | rfl | rfl | rfl | rfl | rfl | rfl | rfl | rfl | rfl
      · rw [h1 rfl, Tm.enc_1]; rw [Tm.enc_1] at hlen; exact aval_1 base a cap xs w hx hlen
      · rw [h2 rfl, Tm.enc_2]; rw [Tm.enc_2] at hlen
        cases b with
        | false => exact aval_2f base a cap xs w hx hlen
        | true => exact aval_2t base a cap xs w hx hlen
      · rw [h3 rfl, Tm.enc_3]; rw [Tm.enc_3] at hlen; exact aval_3 i base a cap xs w bi.1 bi.2 hx hlen
      · rw [(h4 rfl).1, Tm.enc_4]; rw [Tm.enc_4] at hlen; exact aval_4 f base a cap xs w hx hlen
      · rw [(h5 rfl).1, Tm.enc_5]; rw [Tm.enc_5] at hlen; exact aval_5 tx base a cap xs w hx hlen
      · obtain ⟨ab, cb, rfl, _, hb⟩ := h6 rfl
        rw [Tm.enc_6]; rw [Tm.enc_6] at hlen; exact aval_6 by' ab cb base a cap xs w hb hx hlen
      · rw [h7 rfl, Tm.enc_7]; rw [Tm.enc_7] at hlen
        have e : rf = (rf.toNat : Int) := by omega
        have := aval_7 rf.toNat base a cap xs w (by omega) hx hlen
        rw [← e] at this
        exact this
      · obtain ⟨al, cl, rfl, _, hb⟩ := h8 rfl
        rw [Tm.enc_8]; rw [Tm.enc_8] at hlen; exact aval_8 N ih l hlN.1 al cl base a cap xs w hb (q3 rfl) (p3 rfl) bl hx hlen
      · obtain ⟨al, cl, rfl, _, hb⟩ := h9 rfl
        rw [Tm.enc_9]; rw [Tm.enc_9] at hlen; exact aval_9 N ih fs hlN.2 al cl base a cap xs w hb (TmF.nm (q4 (.inl rfl))).1 (p4 (.inl rfl)) bfs hx hlen
      · obtain ⟨g, al, cl, rfl, hg, c0, c1, c2, _, _, hb⟩ := h10 rfl
        have hvr := head_ver (q5 rfl)
        have e : vr = (vr.toNat : Int) := by omega
        rw [Tm.enc_10]; rw [Tm.enc_10] at hlen; exact aval_10 N ih fs hlN.2 g al cl c vr.toNat base a cap xs w hg c0 (by rw [← e]; exact c1) c2 (by omega) hb (TmF.nm (q4 (.inr rfl))).1 (p4 (.inr rfl)) bfs hx hlen

theorem Tm.enc_pos (t : Tm) : 0 < t.enc.length := by cases t; simp [Tm.enc]

set_option maxRecDepth 100000 in
set_option maxHeartbeats 1000000 in
theorem Encode_ok (t : Tm) (v : Value) (B : Nat) (w : World) (hB : B ≤ w.heap.size) (h : t.V w (Lo B) v) (hb : t.Bdd) (he : t.all.e = 0) :
    Calls Try.prog 23 #[v] w fun e w' => ∃ g cap, e = .returned (.tuple #[.slice (some ⟨g, 0, none⟩) t.enc.length cap, .int .i64 0]) ∧ Outs w' w.heap.size (some ⟨g, 0, none⟩) cap t.enc ∧ Below w.heap.size w w' := by
  have HCk : Hid (Calls Try.prog 38 #[v] w fun e w' => e = .returned (.tuple #[.int .i64 t.cAt, .int .i64 0]) ∧ Below w.heap.size w w') := by
    have := Check_any t v B w hB h; rw [he] at this; exact this
  have HE : Hid (∀ W, Below w.heap.size w W → Calls Try.prog 50 #[.slice none 0 0, v] W (ApdH w.heap.size none W [] t.enc)) := fun W hW =>
    (enc_any t.sz).at (xs := []) (Nat.le_refl _) rfl (t.V_same (Same.of_below hW hB) (Lo.le hB) v h) (Tm.ok_all he) hb ⟨⟨rfl, .inl ⟨rfl, rfl⟩⟩, hW.size⟩ (by have := Tm.enc_le he hb; simp; omega)
  clear h hb he
  go_enter Try.func23, Try.ntmps23
  go_wp2_with fail
  refine HCk.out.mono ?_
  rintro e w1 ⟨rfl, hb1⟩
  have HB1 : Hid (Below w.heap.size w w1) := hb1
  clear hb1
  go_wp2_with fail
  refine (HE.out _ HB1.out).mono ?_
  rintro e w2 ⟨m2, a2, cap2, rfl, H2⟩
  go_wp2_with fail
  go_ret2
  obtain ⟨g, rfl⟩ := H2.out.2.1.some (by have := t.enc_pos; simp; omega)
  have hm := H2.out.1
  rw [List.nil_append] at hm
  subst hm
  refine ⟨g, cap2, rfl, by have := H2.out.2.1; rw [List.nil_append] at this; exact this, HB1.out.trans H2.out.2.2.1⟩

set_option maxRecDepth 100000 in
set_option maxHeartbeats 1000000 in
theorem Encode_bad (t : Tm) (v : Value) (B : Nat) (w : World) (hB : B ≤ w.heap.size) (h : t.V w (Lo B) v) (he : t.all.e ≠ 0) :
    Calls Try.prog 23 #[v] w fun e w' => e = .returned (.tuple #[.slice none 0 0, .int .i64 t.all.e]) ∧ Below w.heap.size w w' := by
  have HCk : Hid (Calls Try.prog 38 #[v] w fun e w' => e = .returned (.tuple #[.int .i64 t.cAt, .int .i64 t.all.e]) ∧ Below w.heap.size w w') := Check_any t v B w hB h
  have he' := ne_bool he
  clear h he
  go_enter Try.func23, Try.ntmps23
  go_wp2_with fail
  refine HCk.out.mono ?_
  rintro e w1 ⟨rfl, hb1⟩
  go_wp2_with fail
  go_ret2
  exact ⟨rfl, hb1⟩
end Go.Proofs.Ytkomcebknllaiaa

/- Encode, of whatever value, in one form. -/
namespace Go.Proofs.Ytkomcebknllaiaa
open Go.RowKit

/-- the bytes that Encode answers: none of a term that can't be -/
def Tm.encE (t : Tm) : List Int := if t.all.e = 0 then t.enc else []
theorem Tm.encE_le {t : Tm} (hb : t.Bdd) : t.encE.length ≤ 1081344000 := by
  unfold Tm.encE
  split
  · rename_i h; exact Tm.enc_le h hb
  · simp
theorem outs_nil (w : World) (base : Nat) (h : base ≤ w.heap.size) : Outs w base none 0 [] := ⟨⟨rfl, .inl ⟨rfl, rfl⟩⟩, h⟩
/-- what both answer -/
def EncE (t : Tm) (w : World) (e : Ending) (w' : World) : Prop := ∃ m a cap, e = .returned (.tuple #[.slice a m cap, .int .i64 t.all.e]) ∧ Hid (m = t.encE.length ∧ Outs w' w.heap.size a cap t.encE ∧ Below w.heap.size w w')
theorem Encode_all (t : Tm) (v : Value) (B : Nat) (w : World) (hB : B ≤ w.heap.size) (h : t.V w (Lo B) v) (hb : t.Bdd) : Calls Try.prog 23 #[v] w (EncE t w) := by
  by_cases he : t.all.e = 0
  · refine (Encode_ok t v B w hB h hb he).mono ?_
    rintro e w' ⟨g, cap, rfl, h1, h2⟩
    have e1 : t.encE = t.enc := by unfold Tm.encE; rw [if_pos he]
    exact ⟨_, _, cap, by rw [he], by rw [e1], by rw [e1]; exact h1, h2⟩
  · refine (Encode_bad t v B w hB h he).mono ?_
    rintro e w' ⟨rfl, h2⟩
    have e1 : t.encE = [] := by unfold Tm.encE; rw [if_neg he]
    exact ⟨0, none, 0, rfl, by rw [e1]; rfl, by rw [e1]; exact outs_nil _ _ h2.size, h2⟩
end Go.Proofs.Ytkomcebknllaiaa
