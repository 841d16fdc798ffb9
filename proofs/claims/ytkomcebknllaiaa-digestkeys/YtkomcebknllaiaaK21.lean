/- wire.appendValue at a value that has no parts. -/
import Derived.Test.YtkomcebknllaiaaK19
namespace Go.Proofs.Ytkomcebknllaiaa
open Go.RowKit

/-- what a function that appends answers: bytes ys behind xs -/
def Apd (base : Nat) (a : Option Addr) (w : World) (xs ys : List Int) (e : Ending) (w' : World) : Prop := ∃ a' cap', e = .returned (.slice a' (xs.length + ys.length) cap') ∧ Outs w' base a' cap' (xs ++ ys) ∧ Gr base a a' w w'
theorem appNum_at (n : Nat) (base : Nat) (a : Option Addr) (cap : Nat) (xs : List Int) (w : World) (m : Nat) (hm : m = xs.length) (hn : n < 18446744073709551616) (h : Outs w base a cap xs) (hlen : xs.length + (Sp.numB n).length ≤ 140737488355328) :
    Calls Try.prog 87 #[.slice a m cap, .int .u64 n] w (Apd base a w xs (Sp.numB n)) := by subst hm; exact appNum_any n base a cap xs w hn h hlen
theorem appBits_at (f : Nat) (base : Nat) (a : Option Addr) (cap : Nat) (xs : List Int) (w : World) (m : Nat) (hm : m = xs.length) (h : Outs w base a cap xs) (hlen : xs.length + 8 ≤ 140737488355328) :
    Calls Try.prog 89 #[.slice a m cap, .int .u64 f] w (Apd base a w xs (Sp.bitsTo f 8)) := by
  subst hm
  refine (appBits_any f base a cap xs w h hlen).mono ?_
  rintro e w' ⟨a', cap', rfl, h1, h2⟩
  exact ⟨a', cap', by rw [Sp.bitsTo_len], h1, h2⟩
theorem appText_at (s : ByteArray) (base : Nat) (a : Option Addr) (cap : Nat) (xs : List Int) (w : World) (m : Nat) (hm : m = xs.length) (h : Outs w base a cap xs) (hlen : xs.length + (Sp.txtB s).length ≤ 140737488355328) :
    Calls Try.prog 90 #[.slice a m cap, .string s] w (Apd base a w xs (Sp.txtB s)) := by subst hm; exact appText_any s base a cap xs w h hlen
theorem appBytes_at (s : ByteArray) (ab : Option Addr) (cb : Nat) (base : Nat) (a : Option Addr) (cap : Nat) (xs : List Int) (w : World) (m : Nat) (hm : m = xs.length) (hb : BytesAt w (Lo base) ab s) (h : Outs w base a cap xs) (hlen : xs.length + (Sp.txtB s).length ≤ 140737488355328) :
    Calls Try.prog 91 #[.slice a m cap, .slice ab s.size cb] w (Apd base a w xs (Sp.txtB s)) := by subst hm; exact appBytes_any s ab cb base a cap xs w hb h hlen
theorem Apd.cons {base : Nat} {a a1 : Option Addr} {w w1 w2 : World} {xs ys : List Int} {k : Int} {a' : Option Addr} {cap' : Nat} (hb : Gr base a a1 w w1) (h1 : Outs w2 base a' cap' (xs ++ [k] ++ ys)) (h2 : Gr base a1 a' w1 w2) : Apd base a w xs (k :: ys) (.returned (.slice a' (xs.length + 1 + ys.length) cap')) w2 :=
  ⟨a', cap', by rw [List.length_cons, Nat.add_right_comm, Nat.add_assoc], by rw [List.append_assoc] at h1; exact h1, hb.trans h2⟩
theorem Apd.behind {base : Nat} {a a1 : Option Addr} {w w1 w2 : World} {xs ks ys : List Int} {e : Ending} (hb : Gr base a a1 w w1) (h : Apd base a1 w1 (xs ++ ks) ys e w2) : Apd base a w xs (ks ++ ys) e w2 := by
  obtain ⟨a', cap', rfl, h1, h2⟩ := h
  exact ⟨a', cap', by rw [List.length_append, List.length_append, Nat.add_assoc], by rw [← List.append_assoc]; exact h1, hb.trans h2⟩

set_option maxRecDepth 100000 in
set_option maxHeartbeats 1000000 in
theorem aval_1 (base : Nat) (a : Option Addr) (cap : Nat) (xs : List Int) (w : World) (h : Outs w base a cap xs) (hlen : xs.length + ([1]).length ≤ 140737488355328) :
    Calls Try.prog 50 #[.slice a xs.length cap, .nilIface] w (Apd base a w xs ([1])) := by
  obtain ⟨i0, hi, hz0, hz1, hz2⟩ := info_parts Try.infoB
  have hl : xs.length + 1 ≤ 140737488355328 := by simp at hlen; omega
  have HO : Hid (Outs w base a cap xs) := h
  have HOW : Hid (w.ownsRow base 5 1 (.slice a xs.length cap) xs.length (u8s xs)) := h.1
  clear h
  go_enter Try.func50, Try.ntmps50
  go_wp2_with (at_builtin; refine wpList_app _ rfl _ _ 23 rfl base 5 i0 (.int .u8 0) 1 1 Try.undB hi hz0 hz1 hz2 rfl (by decide) _ _ _ rfl (HOW.out.alloc _) ⟨w.heap.size, 0, none⟩ 1 1 [.int .u8 1] rfl rfl (cell_one_new _ _ _) (fun u hu => by simp at hu; subst hu; rfl) (by decide) (by unfold maxLen; omega) (by omega) (by have := HO.out.2; simp; omega) ?_; intro g' cap2 w3 hown' hgrow hor')
  obtain ⟨h1, h2⟩ := HO.out.step (ys := [1]) hown' rfl (by simp) hgrow hor'
  have HE : Hid (Outs w3 base (some ⟨g', 0, none⟩) cap2 (xs ++ [1]) ∧ Gr base a (some ⟨g', 0, none⟩) w w3) := ⟨h1, h2⟩
  clear h1 h2 hown' hgrow hor'
  go_wp2_with fail
  go_ret
  exact ⟨_, cap2, rfl, HE.out.1, HE.out.2⟩

set_option maxRecDepth 100000 in
set_option maxHeartbeats 1000000 in
theorem aval_2f (base : Nat) (a : Option Addr) (cap : Nat) (xs : List Int) (w : World) (h : Outs w base a cap xs) (hlen : xs.length + ([2] ++ [0]).length ≤ 140737488355328) :
    Calls Try.prog 50 #[.slice a xs.length cap, .iface 4 (.bool false)] w (Apd base a w xs ([2] ++ [0])) := by
  obtain ⟨i0, hi, hz0, hz1, hz2⟩ := info_parts Try.infoB
  have hl : xs.length + 1 ≤ 140737488355328 := by simp at hlen; omega
  have hl2 : xs.length + 2 ≤ 140737488355328 := by simp at hlen; omega
  have HO : Hid (Outs w base a cap xs) := h
  have HOW : Hid (w.ownsRow base 5 1 (.slice a xs.length cap) xs.length (u8s xs)) := h.1
  clear h
  go_enter Try.func50, Try.ntmps50
  go_wp2_with (first | (go_at_call 86; refine (bit_any _ _).mono ?_; rintro e w' ⟨rfl, rfl⟩) | (at_builtin; refine wpList_app _ rfl _ _ 23 rfl base 5 i0 (.int .u8 0) 1 1 Try.undB hi hz0 hz1 hz2 rfl (by decide) _ _ _ rfl (HOW.out.alloc _) ⟨w.heap.size, 0, none⟩ 2 2 [.int .u8 2, .int .u8 0] rfl rfl (cell_two_new _ _ _ _) (fun u hu => by simp at hu; rcases hu with rfl | rfl <;> rfl) (by decide) (by unfold maxLen; omega) (by omega) (by have := HO.out.2; simp; omega) ?_; intro g' cap2 w3 hown' hgrow hor'))
  obtain ⟨h1, h2⟩ := HO.out.step (ys := [2, 0]) hown' rfl (by simp) hgrow hor'
  have HE : Hid (Outs w3 base (some ⟨g', 0, none⟩) cap2 (xs ++ [2, 0]) ∧ Gr base a (some ⟨g', 0, none⟩) w w3) := ⟨h1, h2⟩
  clear h1 h2 hown' hgrow hor'
  go_wp2_with fail
  go_ret
  exact ⟨_, cap2, rfl, HE.out.1, HE.out.2⟩

set_option maxRecDepth 100000 in
set_option maxHeartbeats 1000000 in
theorem aval_2t (base : Nat) (a : Option Addr) (cap : Nat) (xs : List Int) (w : World) (h : Outs w base a cap xs) (hlen : xs.length + ([2] ++ [1]).length ≤ 140737488355328) :
    Calls Try.prog 50 #[.slice a xs.length cap, .iface 4 (.bool true)] w (Apd base a w xs ([2] ++ [1])) := by
  obtain ⟨i0, hi, hz0, hz1, hz2⟩ := info_parts Try.infoB
  have hl : xs.length + 1 ≤ 140737488355328 := by simp at hlen; omega
  have hl2 : xs.length + 2 ≤ 140737488355328 := by simp at hlen; omega
  have HO : Hid (Outs w base a cap xs) := h
  have HOW : Hid (w.ownsRow base 5 1 (.slice a xs.length cap) xs.length (u8s xs)) := h.1
  clear h
  go_enter Try.func50, Try.ntmps50
  go_wp2_with (first | (go_at_call 86; refine (bit_any _ _).mono ?_; rintro e w' ⟨rfl, rfl⟩) | (at_builtin; refine wpList_app _ rfl _ _ 23 rfl base 5 i0 (.int .u8 0) 1 1 Try.undB hi hz0 hz1 hz2 rfl (by decide) _ _ _ rfl (HOW.out.alloc _) ⟨w.heap.size, 0, none⟩ 2 2 [.int .u8 2, .int .u8 1] rfl rfl (cell_two_new _ _ _ _) (fun u hu => by simp at hu; rcases hu with rfl | rfl <;> rfl) (by decide) (by unfold maxLen; omega) (by omega) (by have := HO.out.2; simp; omega) ?_; intro g' cap2 w3 hown' hgrow hor'))
  obtain ⟨h1, h2⟩ := HO.out.step (ys := [2, 1]) hown' rfl (by simp) hgrow hor'
  have HE : Hid (Outs w3 base (some ⟨g', 0, none⟩) cap2 (xs ++ [2, 1]) ∧ Gr base a (some ⟨g', 0, none⟩) w w3) := ⟨h1, h2⟩
  clear h1 h2 hown' hgrow hor'
  go_wp2_with fail
  go_ret
  exact ⟨_, cap2, rfl, HE.out.1, HE.out.2⟩

set_option maxRecDepth 100000 in
set_option maxHeartbeats 1000000 in
theorem aval_3 (i : Int) (base : Nat) (a : Option Addr) (cap : Nat) (xs : List Int) (w : World) (h0 : -9223372036854775808 ≤ i) (h1 : i ≤ 9223372036854775807) (h : Outs w base a cap xs) (hlen : xs.length + (3 :: Sp.numB (Sp.fold i)).length ≤ 140737488355328) :
    Calls Try.prog 50 #[.slice a xs.length cap, .iface 2 (.int .i64 i)] w (Apd base a w xs (3 :: Sp.numB (Sp.fold i))) := by
  obtain ⟨i0, hi, hz0, hz1, hz2⟩ := info_parts Try.infoB
  have hl : xs.length + 1 ≤ 140737488355328 := by simp at hlen; omega
  have hl2 : xs.length + 1 + (Sp.numB (Sp.fold i)).length ≤ 140737488355328 := by simp at hlen; omega
  have HF : Hid (Sp.fold i < 18446744073709551616) := Sp.fold_lt h0 h1
  have HO : Hid (Outs w base a cap xs) := h
  have HOW : Hid (w.ownsRow base 5 1 (.slice a xs.length cap) xs.length (u8s xs)) := h.1
  clear h
  go_enter Try.func50, Try.ntmps50
  go_wp2_with (at_builtin; refine wpList_app _ rfl _ _ 23 rfl base 5 i0 (.int .u8 0) 1 1 Try.undB hi hz0 hz1 hz2 rfl (by decide) _ _ _ rfl (HOW.out.alloc _) ⟨w.heap.size, 0, none⟩ 1 1 [.int .u8 3] rfl rfl (cell_one_new _ _ _) (fun u hu => by simp at hu; subst hu; rfl) (by decide) (by unfold maxLen; omega) (by omega) (by have := HO.out.2; simp; omega) ?_; intro g' cap2 w3 hown' hgrow hor')
  obtain ⟨h1, h2⟩ := HO.out.step (ys := [3]) hown' rfl (by simp) hgrow hor'
  have HE : Hid (Outs w3 base (some ⟨g', 0, none⟩) cap2 (xs ++ [3])) := h1
  have HB : Hid (Gr base a (some ⟨g', 0, none⟩) w w3) := h2
  clear h1 h2 hown' hgrow hor'
  go_wp2_with (first | (go_at_call 88; refine (folded_any _ _ h0 h1).mono ?_; rintro e w' ⟨rfl, rfl⟩) | (go_at_call 87; refine (appNum_at (Sp.fold i) base _ _ (xs ++ [3]) _ _ (by simp) HF.out HE.out (by simp; omega)).mono ?_; rintro e w2 ⟨a2, cap3, rfl, ho2, hb2⟩))
  go_ret
  exact Apd.cons HB.out ho2 hb2

set_option maxRecDepth 100000 in
set_option maxHeartbeats 1000000 in
theorem aval_4 (f : Nat) (base : Nat) (a : Option Addr) (cap : Nat) (xs : List Int) (w : World) (h : Outs w base a cap xs) (hlen : xs.length + (4 :: Sp.bitsTo f 8).length ≤ 140737488355328) :
    Calls Try.prog 50 #[.slice a xs.length cap, .iface 22 (.float .f64 f)] w (Apd base a w xs (4 :: Sp.bitsTo f 8)) := by
  obtain ⟨i0, hi, hz0, hz1, hz2⟩ := info_parts Try.infoB
  have hl : xs.length + 1 ≤ 140737488355328 := by simp at hlen; omega
  have hl2 : xs.length + 1 + 8 ≤ 140737488355328 := by simp [Sp.bitsTo_len] at hlen; omega
  have hbr := bits_run f
  have HO : Hid (Outs w base a cap xs) := h
  have HOW : Hid (w.ownsRow base 5 1 (.slice a xs.length cap) xs.length (u8s xs)) := h.1
  clear h
  go_enter Try.func50, Try.ntmps50
  go_wp2_with (at_builtin; refine wpList_app _ rfl _ _ 23 rfl base 5 i0 (.int .u8 0) 1 1 Try.undB hi hz0 hz1 hz2 rfl (by decide) _ _ _ rfl (HOW.out.alloc _) ⟨w.heap.size, 0, none⟩ 1 1 [.int .u8 4] rfl rfl (cell_one_new _ _ _) (fun u hu => by simp at hu; subst hu; rfl) (by decide) (by unfold maxLen; omega) (by omega) (by have := HO.out.2; simp; omega) ?_; intro g' cap2 w3 hown' hgrow hor')
  obtain ⟨h1, h2⟩ := HO.out.step (ys := [4]) hown' rfl (by simp) hgrow hor'
  have HE : Hid (Outs w3 base (some ⟨g', 0, none⟩) cap2 (xs ++ [4])) := h1
  have HB : Hid (Gr base a (some ⟨g', 0, none⟩) w w3) := h2
  clear h1 h2 hown' hgrow hor'
  go_wp2_with ((go_at_call 89; refine (appBits_at f base _ _ (xs ++ [4]) _ _ (by simp) HE.out (by simp; omega)).mono ?_; rintro e w2 ⟨a2, cap3, rfl, ho2, hb2⟩))
  go_ret
  exact Apd.cons HB.out ho2 hb2

set_option maxRecDepth 100000 in
set_option maxHeartbeats 1000000 in
theorem aval_5 (s : ByteArray) (base : Nat) (a : Option Addr) (cap : Nat) (xs : List Int) (w : World) (h : Outs w base a cap xs) (hlen : xs.length + (5 :: Sp.txtB s).length ≤ 140737488355328) :
    Calls Try.prog 50 #[.slice a xs.length cap, .iface 9 (.string s)] w (Apd base a w xs (5 :: Sp.txtB s)) := by
  obtain ⟨i0, hi, hz0, hz1, hz2⟩ := info_parts Try.infoB
  have hl : xs.length + 1 ≤ 140737488355328 := by simp at hlen; omega
  have hl2 : xs.length + 1 + (Sp.txtB s).length ≤ 140737488355328 := by simp at hlen; omega
  have HO : Hid (Outs w base a cap xs) := h
  have HOW : Hid (w.ownsRow base 5 1 (.slice a xs.length cap) xs.length (u8s xs)) := h.1
  clear h
  go_enter Try.func50, Try.ntmps50
  go_wp2_with (at_builtin; refine wpList_app _ rfl _ _ 23 rfl base 5 i0 (.int .u8 0) 1 1 Try.undB hi hz0 hz1 hz2 rfl (by decide) _ _ _ rfl (HOW.out.alloc _) ⟨w.heap.size, 0, none⟩ 1 1 [.int .u8 5] rfl rfl (cell_one_new _ _ _) (fun u hu => by simp at hu; subst hu; rfl) (by decide) (by unfold maxLen; omega) (by omega) (by have := HO.out.2; simp; omega) ?_; intro g' cap2 w3 hown' hgrow hor')
  obtain ⟨h1, h2⟩ := HO.out.step (ys := [5]) hown' rfl (by simp) hgrow hor'
  have HE : Hid (Outs w3 base (some ⟨g', 0, none⟩) cap2 (xs ++ [5])) := h1
  have HB : Hid (Gr base a (some ⟨g', 0, none⟩) w w3) := h2
  clear h1 h2 hown' hgrow hor'
  go_wp2_with ((go_at_call 90; refine (appText_at s base _ _ (xs ++ [5]) _ _ (by simp) HE.out (by simp; omega)).mono ?_; rintro e w2 ⟨a2, cap3, rfl, ho2, hb2⟩))
  go_ret
  exact Apd.cons HB.out ho2 hb2

set_option maxRecDepth 100000 in
set_option maxHeartbeats 1000000 in
theorem aval_6 (s : ByteArray) (ab : Option Addr) (cb : Nat) (base : Nat) (a : Option Addr) (cap : Nat) (xs : List Int) (w : World) (hs : BytesAt w (Lo base) ab s) (h : Outs w base a cap xs) (hlen : xs.length + (6 :: Sp.txtB s).length ≤ 140737488355328) :
    Calls Try.prog 50 #[.slice a xs.length cap, .iface 23 (.slice ab s.size cb)] w (Apd base a w xs (6 :: Sp.txtB s)) := by
  obtain ⟨i0, hi, hz0, hz1, hz2⟩ := info_parts Try.infoB
  have hl : xs.length + 1 ≤ 140737488355328 := by simp at hlen; omega
  have hl2 : xs.length + 1 + (Sp.txtB s).length ≤ 140737488355328 := by simp at hlen; omega
  have HS : Hid (∀ W, Below base w W → BytesAt W (Lo base) ab s) := fun W hW => hs.same (Same.of_below hW (Nat.le_refl _)) (fun _ h => h)
  clear hs
  have HO : Hid (Outs w base a cap xs) := h
  have HOW : Hid (w.ownsRow base 5 1 (.slice a xs.length cap) xs.length (u8s xs)) := h.1
  clear h
  go_enter Try.func50, Try.ntmps50
  go_wp2_with (at_builtin; refine wpList_app _ rfl _ _ 23 rfl base 5 i0 (.int .u8 0) 1 1 Try.undB hi hz0 hz1 hz2 rfl (by decide) _ _ _ rfl (HOW.out.alloc _) ⟨w.heap.size, 0, none⟩ 1 1 [.int .u8 6] rfl rfl (cell_one_new _ _ _) (fun u hu => by simp at hu; subst hu; rfl) (by decide) (by unfold maxLen; omega) (by omega) (by have := HO.out.2; simp; omega) ?_; intro g' cap2 w3 hown' hgrow hor')
  obtain ⟨h1, h2⟩ := HO.out.step (ys := [6]) hown' rfl (by simp) hgrow hor'
  have HE : Hid (Outs w3 base (some ⟨g', 0, none⟩) cap2 (xs ++ [6])) := h1
  have HB : Hid (Gr base a (some ⟨g', 0, none⟩) w w3) := h2
  clear h1 h2 hown' hgrow hor'
  go_wp2_with ((go_at_call 91; refine (appBytes_at s ab cb base _ _ (xs ++ [6]) _ _ (by simp) (HS.out _ HB.out.1) HE.out (by simp; omega)).mono ?_; rintro e w2 ⟨a2, cap3, rfl, ho2, hb2⟩))
  go_ret
  exact Apd.cons HB.out ho2 hb2

set_option maxRecDepth 100000 in
set_option maxHeartbeats 1000000 in
theorem aval_7 (n : Nat) (base : Nat) (a : Option Addr) (cap : Nat) (xs : List Int) (w : World) (hn : n < 18446744073709551616) (h : Outs w base a cap xs) (hlen : xs.length + (7 :: Sp.numB n).length ≤ 140737488355328) :
    Calls Try.prog 50 #[.slice a xs.length cap, .iface 25 (.int .u64 (n : Int))] w (Apd base a w xs (7 :: Sp.numB n)) := by
  obtain ⟨i0, hi, hz0, hz1, hz2⟩ := info_parts Try.infoB
  have hl : xs.length + 1 ≤ 140737488355328 := by simp at hlen; omega
  have hl2 : xs.length + 1 + (Sp.numB n).length ≤ 140737488355328 := by simp at hlen; omega
  have HO : Hid (Outs w base a cap xs) := h
  have HOW : Hid (w.ownsRow base 5 1 (.slice a xs.length cap) xs.length (u8s xs)) := h.1
  clear h
  go_enter Try.func50, Try.ntmps50
  go_wp2_with (at_builtin; refine wpList_app _ rfl _ _ 23 rfl base 5 i0 (.int .u8 0) 1 1 Try.undB hi hz0 hz1 hz2 rfl (by decide) _ _ _ rfl (HOW.out.alloc _) ⟨w.heap.size, 0, none⟩ 1 1 [.int .u8 7] rfl rfl (cell_one_new _ _ _) (fun u hu => by simp at hu; subst hu; rfl) (by decide) (by unfold maxLen; omega) (by omega) (by have := HO.out.2; simp; omega) ?_; intro g' cap2 w3 hown' hgrow hor')
  obtain ⟨h1, h2⟩ := HO.out.step (ys := [7]) hown' rfl (by simp) hgrow hor'
  have HE : Hid (Outs w3 base (some ⟨g', 0, none⟩) cap2 (xs ++ [7])) := h1
  have HB : Hid (Gr base a (some ⟨g', 0, none⟩) w w3) := h2
  clear h1 h2 hown' hgrow hor'
  go_wp2_with ((go_at_call 87; refine (appNum_at (n) base _ _ (xs ++ [7]) _ _ (by simp) hn HE.out (by simp; omega)).mono ?_; rintro e w2 ⟨a2, cap3, rfl, ho2, hb2⟩))
  go_ret
  exact Apd.cons HB.out ho2 hb2
end Go.Proofs.Ytkomcebknllaiaa

/- wire.appendFields and wire.appendValue at a list, a dict, a record: by what is proved of smaller values. -/
namespace Go.Proofs.Ytkomcebknllaiaa
open Go.RowKit

/-- the contract of appendValue at terms of at most N parts -/
def EncC (N : Nat) : Prop := ∀ (t : Tm), t.sz ≤ N → ∀ (v : Value) (base : Nat) (a : Option Addr) (cap : Nat) (xs : List Int) (w : World), t.V w (Lo base) v → t.Ok → t.Bdd → Outs w base a cap xs → xs.length + t.enc.length ≤ 140737488355328 →
  Calls Try.prog 50 #[.slice a xs.length cap, v] w (Apd base a w xs t.enc)
/-- what Apd says, its numbers hidden -/
def ApdH (base : Nat) (a : Option Addr) (w : World) (xs ys : List Int) (e : Ending) (w' : World) : Prop := ∃ m a' cap', e = .returned (.slice a' m cap') ∧ Hid (m = (xs ++ ys).length ∧ Outs w' base a' cap' (xs ++ ys) ∧ Gr base a a' w w')
theorem Apd.hid {base : Nat} {a : Option Addr} {w : World} {xs ys : List Int} {e : Ending} {w' : World} (h : Apd base a w xs ys e w') : ApdH base a w xs ys e w' := by
  obtain ⟨a', cap', rfl, h1, h2⟩ := h
  exact ⟨_, a', cap', rfl, List.length_append.symm, h1, h2⟩
theorem Apd.of {base : Nat} {a : Option Addr} {w : World} {xs ys : List Int} {m : Nat} {a' : Option Addr} {cap' : Nat} {w' : World} (hm : m = (xs ++ ys).length) (h1 : Outs w' base a' cap' (xs ++ ys)) (h2 : Gr base a a' w w') : Apd base a w xs ys (.returned (.slice a' m cap')) w' :=
  ⟨a', cap', by rw [hm, List.length_append], h1, h2⟩
theorem EncC.at {N : Nat} (HC : EncC N) {t : Tm} (hN : t.sz ≤ N) {v : Value} {base : Nat} {a : Option Addr} {cap : Nat} {xs : List Int} {w : World} {m : Nat} (hm : m = xs.length) (h : t.V w (Lo base) v) (ho : t.Ok) (hb : t.Bdd) (hx : Outs w base a cap xs) (hl : xs.length + t.enc.length ≤ 140737488355328) :
    Calls Try.prog 50 #[.slice a m cap, v] w (ApdH base a w xs t.enc) := by subst hm; exact (HC t hN v base a cap xs w h ho hb hx hl).mono fun _ _ => Apd.hid
theorem outs_lt {w : World} {base : Nat} {a : Option Addr} {cap : Nat} {xs : List Int} (h : Outs w base a cap xs) (k : Nat) (e : a.map Addr.block = some k) : base ≤ k ∧ k < w.heap.size := h.1.lt k (by rw [own_map]; exact e)
theorem outs_alloc {w : World} {base : Nat} {a : Option Addr} {cap : Nat} {xs : List Int} (h : Outs w base a cap xs) (o : Obj) : Outs (w.alloc o) base a cap xs := ⟨h.1.alloc o, by have := h.2; simp; omega⟩
theorem Gr.alloc {base : Nat} {a a' : Option Addr} {w w' : World} (h : Gr base a a' w w') (hb : base ≤ w'.heap.size) (o : Obj) : Gr base a a' w (w'.alloc o) :=
  ⟨h.1.alloc hb o, fun k hk hn => by rw [Below.heap_alloc _ _ _ (Nat.lt_of_lt_of_le hk h.1.size)]; exact h.2.1 k hk hn, h.2.2⟩

set_option maxRecDepth 100000 in
set_option maxHeartbeats 1000000 in
theorem appFields_any (N : Nat) (HC : EncC N) (L : TmF) (hN : L.sz ≤ N) (al : Option Addr) (cl : Nat) (base : Nat) (a : Option Addr) (cap : Nat) (xs : List Int) (w : World) (m : Nat) (hm : m = xs.length) (hv : L.V w (Lo base) al 0) (hll : L.len ≤ 4096) (hok : L.Ok) (hbd : L.Bdd) (h : Outs w base a cap xs) (hlen : xs.length + L.encR.length ≤ 140737488355328) :
    Calls Try.prog 92 #[.slice a m cap, .slice al L.len cl] w (Apd base a w xs L.encR) := by
  have HCH : Hid (EncC N) := HC
  have HL : Hid (xs.length + (Sp.numB L.len).length + L.enc.length ≤ 140737488355328) := by show _ ≤ _; simp [TmF.encR] at hlen; omega
  have HN : Hid (Calls Try.prog 87 #[.slice a m cap, .int .u64 (L.len : Int)] w (ApdH base a w xs (Sp.numB L.len))) := (appNum_at L.len base a cap xs w m hm (by omega) h (by have := HL.out; omega)).mono fun _ _ => Apd.hid
  have HV0 : Hid (L.V w (Lo base) al 0 ∧ L.Ok ∧ L.Bdd) := ⟨hv, hok, hbd⟩
  clear h HC hm hlen hv hok hbd
  go_enter Try.func92, Try.ntmps92
  go_wp2_with fail
  refine HN.out.mono ?_
  rintro e w1 ⟨m1, a1, cap1, rfl, H1⟩
  clear HN
  go_wp2_with fail
  go_loopw [0, 14] (fun u i wr => ∃ (m k : Nat) (a' : Option Addr) (cap' : Nat) (done : List Int) (l : TmF), u = .slice a' m cap' ∧ i = .int .i64 k ∧ l.len + k = L.len ∧ l.sz ≤ N ∧ Hid (m = (xs ++ Sp.numB L.len ++ done).length ∧ L.enc = done ++ l.enc) ∧ Hid (Outs wr base a' cap' (xs ++ Sp.numB L.len ++ done) ∧ Gr base a a' w wr ∧ l.V w (Lo base) al k ∧ l.Ok ∧ l.Bdd)) (fun _ i _ => L.len - (intOf i).toNat)
  case atStart => exact ⟨m1, 0, a1, cap1, [], L, rfl, rfl, rfl, hN, ⟨by rw [List.append_nil]; exact H1.out.1, rfl⟩, ⟨by rw [List.append_nil]; exact H1.out.2.1, H1.out.2.2, HV0.out⟩⟩
  case round =>
    obtain ⟨m, k, a', cap', done, l, rfl, rfl, hk, hlN, HM, HO⟩ := hrel
    clear H1 HV0
    cases l with
    | nil =>
      have h1 : L.len ≤ k := by simp [TmF.len] at hk; omega
      clear hk
      go_wp2_with fail
      go_ret
      have he := HM.out.2
      rw [TmF.enc, List.append_nil] at he
      refine Apd.of ?_ ?_ HO.out.2.1
      · rw [HM.out.1, TmF.encR, he, List.append_assoc]
      · rw [TmF.encR, he, ← List.append_assoc]; exact HO.out.1
    | cons nm t l =>
      obtain ⟨hout, hgr, hv, hok, hbd⟩ := HO.out
      simp only [TmF.V] at hv
      obtain ⟨g, o, v, rfl, hg, c0, c1, hnl, ht, hv'⟩ := hv
      have hg : g < base := hg
      have hlt : k < L.len := by simp [TmF.len] at hk; omega
      have HK : Hid (l.len + (k + 1) = L.len) := by show _ = _; simp [TmF.len] at hk; omega
      have htN : t.sz ≤ N ∧ l.sz ≤ N := by simp [TmF.sz] at hlN; omega
      have d0 : wr.cell? ⟨g, o + k * 2, none⟩ = some (.string nm) := by rw [hgr.1.cell (p := ⟨g, o + k * 2, none⟩) hg]; exact c0
      have d1 : wr.cell? ⟨g, o + k * 2 + 1, none⟩ = some v := by rw [hgr.1.cell (p := ⟨g, o + k * 2 + 1, none⟩) hg]; exact c1
      have HLN : Hid (((xs ++ Sp.numB L.len ++ done) ++ Sp.txtB nm).length + t.enc.length ≤ 140737488355328) := by
        show _ ≤ _
        have h1 := HL.out
        have h2 := HM.out.2
        rw [h2, TmF.enc] at h1
        simp only [List.length_append] at h1 ⊢
        omega
      have HT : Hid (∀ o, Calls Try.prog 90 #[.slice a' m cap', .string nm] (wr.alloc o) (ApdH base a' (wr.alloc o) (xs ++ Sp.numB L.len ++ done) (Sp.txtB nm))) := fun o =>
        (appText_at nm base a' cap' (xs ++ Sp.numB L.len ++ done) (wr.alloc o) m HM.out.1 (outs_alloc hout o) (by have := HLN.out; rw [List.length_append] at this; omega)).mono fun _ _ => Apd.hid
      have HNV : Hid (l.V w (Lo base) (some ⟨g, o, none⟩) (k + 1) ∧ l.Ok ∧ l.Bdd) := ⟨hv', hok.head.2, hbd.2⟩
      have HTV : Hid ((∀ W, Below base w W → t.V W (Lo base) v) ∧ t.Ok ∧ t.Bdd) := ⟨fun W hW => t.V_same (Same.of_below hW (Nat.le_refl _)) (fun _ h => h) v ht, hok.head.1, hbd.1⟩
      have HBX : Hid (∀ W, Gr base a' none (wr.alloc (.cells #[.string nm, v] 112)) W → W.cell? ⟨wr.heap.size, 0, none⟩ = some (.string nm) ∧ W.cell? ⟨wr.heap.size, 1, none⟩ = some v) := fun W hW => by
        have hblk := hW.2.1 wr.heap.size (by simp) (fun e => by have := (outs_lt hout _ e).2; omega)
        constructor
        · rw [World.cell?_of_block (w := wr.alloc (.cells #[.string nm, v] 112)) (a := ⟨wr.heap.size, 0, none⟩) hblk]; simp
        · rw [World.cell?_of_block (w := wr.alloc (.cells #[.string nm, v] 112)) (a := ⟨wr.heap.size, 1, none⟩) hblk]; simp
      have hsh := t.V_shape v ht
      have HGR : Hid (Gr base a a' w wr ∧ base ≤ wr.heap.size) := ⟨hgr, hout.2⟩
      clear hk hv' ht c0 c1 hlN hout hgr hok hbd
      rcases hsh with rfl | ⟨T, x, rfl⟩
      all_goals
        go_wp2_with fail
        refine (HT.out _).mono ?_
        rintro e w2 ⟨m2, a2, cap2, rfl, H2⟩
        obtain ⟨e0, e1⟩ := HBX.out w2 ⟨H2.out.2.2.1, H2.out.2.2.2.1, fun _ h => by simp at h⟩
        have HG2 : Hid (Gr base a a2 w w2) := (HGR.out.1.alloc HGR.out.2 _).trans H2.out.2.2
        clear HT
        go_wp2_with fail
        refine (HCH.out.at htN.1 H2.out.1 (HTV.out.1 _ HG2.out.1) HTV.out.2.1 HTV.out.2.2 H2.out.2.1 HLN.out).mono ?_
        rintro e w3 ⟨m3, a3, cap3, rfl, H3⟩
        go_wp2_with fail
        go_roundw
        case rel =>
          refine ⟨m3, k + 1, a3, cap3, done ++ (Sp.txtB nm ++ t.enc), l, rfl, by go_num, HK.out, htN.2, ⟨?_, ?_⟩, ⟨?_, HG2.out.trans H3.out.2.2, HNV.out⟩⟩
          · rw [H3.out.1]; simp only [List.append_assoc]
          · rw [HM.out.2, TmF.enc]; simp only [List.append_assoc]
          · have := H3.out.2.1; simp only [List.append_assoc] at this ⊢; exact this
        case measure => simp [intOf]; omega
end Go.Proofs.Ytkomcebknllaiaa

/- Bytes that a function made: rows that are joined. -/
namespace Go.Proofs.Ytkomcebknllaiaa
open Go.RowKit

/-- what a function that makes bytes answers -/
def NewB (w : World) (ys : List Int) (e : Ending) (w' : World) : Prop := ∃ g cap, e = .returned (.slice (some ⟨g, 0, none⟩) ys.length cap) ∧ Outs w' w.heap.size (some ⟨g, 0, none⟩) cap ys ∧ Below w.heap.size w w'
theorem u8s_one (ys : List Int) : ∀ u ∈ u8s ys, u.oneCell' = true := fun u hu => by
  simp only [u8s, List.mem_map] at hu
  obtain ⟨x, _, rfl⟩ := hu; rfl
theorem outs_src {w : World} {base g cap : Nat} {ys : List Int} (h : Outs w base (some ⟨g, 0, none⟩) cap ys) : Src Try.prog 1 23 (.slice (some ⟨g, 0, none⟩) ys.length cap) ys.length (u8s ys) w :=
  Src.ofSlice _ Try.undB ⟨g, 0, none⟩ ys.length cap _ (by simp [u8s]) (fun j u hu => h.1.cells (g := g) rfl j u hu) (u8s_one ys)
theorem outs_call {w w' : World} {base : Nat} {a : Option Addr} {cap : Nat} {xs : List Int} (h : Outs w base a cap xs) (hb : Below w.heap.size w w') : Outs w' base a cap xs :=
  ⟨owns_below hb h.1, Nat.le_trans h.2 hb.size⟩
theorem outs_join {w1 w2 w3 : World} {base g1 cap1 : Nat} {xs ys : List Int} {g' cap' n : Nat} (h : Outs w1 base (some ⟨g1, 0, none⟩) cap1 xs) (hb : Below w1.heap.size w1 w2) (ho : w3.ownsRow base 5 1 (.slice (some ⟨g', 0, none⟩) n cap') n (u8s xs ++ u8s ys)) (hn : n = (xs ++ ys).length) (hg : w2.grownBy w3 (some g1)) : Outs w3 base (some ⟨g', 0, none⟩) cap' (xs ++ ys) ∧ Below base w1 w3 := by
  have hz := hg.size
  have hz2 := hb.size
  have h2 := h.2
  refine ⟨⟨by rw [u8s_app, ← hn]; exact ho, by omega⟩, ?_⟩
  exact (hb.mono h.2).grown hg (by omega) (fun k e => by injection e with e; subst e; exact (h.1.lt g1 rfl).1)
theorem outs_none (w : World) : Outs (w.alloc (.cells #[] 5)) w.heap.size (some ⟨w.heap.size, 0, none⟩) 0 [] :=
  ⟨⟨rfl, .inr ⟨w.heap.size, 0, #[], rfl, Nat.le_refl _, heap_alloc_new w _, Nat.le_refl _, by simp [maxLen], rfl, rfl⟩⟩, by simp⟩
end Go.Proofs.Ytkomcebknllaiaa
