/- tenonref03.fields and tenonref03.Bytes: the bytes of a term, new ones. -/
import Derived.Test.YtkomcebknllaiaaK37
import Derived.Test.YtkomcebknllaiaaK13
namespace Go.Proofs.Ytkomcebknllaiaa
open Go.RowKit

/-- the contract of Bytes at terms of at most N parts -/
def BytC (N : Nat) : Prop := ∀ (t : Tm), t.sz ≤ N → ∀ (cs : Array Value) (B : Nat → Prop) (w : World), t.In w B cs → Sub B w → t.Ok → t.enc.length ≤ 70368744177664 →
  Calls Try.prog 51 #[.agg cs] w (NewB w t.enc)
theorem outs_one (w : World) (k : Int) (o : Obj) : Outs ((w.alloc o).alloc (.cells #[.int .u8 k] 5)) (w.heap.size + 1) (some ⟨w.heap.size + 1, 0, none⟩) 1 [k] ∧ Below (w.heap.size + 1) (w.alloc o) ((w.alloc o).alloc (.cells #[.int .u8 k] 5)) :=
  ⟨⟨⟨rfl, .inr ⟨w.heap.size + 1, 1, #[.int .u8 k], rfl, Nat.le_refl _, by simpa using heap_alloc_new (w.alloc o) (.cells #[.int .u8 k] 5), Nat.le_refl _, by simp [maxLen], rfl, rfl⟩⟩, by simp⟩, (Below.refl _ _).alloc (by simp) _⟩
theorem cell_one_at (w : World) (x : Value) (t : TypeId) (h : Nat) (e : w.heap.size = h) : ∀ j u, [x][j]? = some u → (w.alloc (.cells #[x] t)).cell? ((⟨h, 0, none⟩ : Addr).add j) = some u := by subst e; exact cell_one_new w x t
theorem NewB.of {w W : World} {o : Obj} {g cap m : Nat} {ys : List Int} (h : Outs W (w.heap.size + 1) (some ⟨g, 0, none⟩) cap ys) (hb : Below (w.heap.size + 1) (w.alloc o) W) (hm : m = ys.length) : NewB w ys (.returned (.slice (some ⟨g, 0, none⟩) m cap)) W := by
  have hz := hb.size
  simp at hz
  refine ⟨g, cap, by rw [hm], ⟨?_, by omega⟩, ((Below.refl _ _).alloc (Nat.le_refl _) o).trans (hb.mono (by omega))⟩
  obtain ⟨⟨h1, h2⟩, h3⟩ := h
  refine ⟨h1, h2.imp id fun ⟨g, c, cur, e1, e2, r⟩ => ⟨g, c, cur, e1, by omega, r⟩⟩

set_option maxRecDepth 100000 in
set_option maxHeartbeats 1000000 in
theorem byt_1 (b : Bool) (i : Int) (f : Nat) (tx : ByteArray) (vb : Value) (rf : Int) (vl : Value) (vf : Value) (c : ByteArray) (vr : Int) (w : World) :
    Calls Try.prog 51 #[.agg (tcells 1 b i f tx (vb) (rf) (vl) (vf) c (vr))] w (NewB w ([1])) := by
  obtain ⟨i0, hi, hz0, hz1, hz2⟩ := info_parts Try.infoB
  have HOne : Hid (∀ o, Outs ((w.alloc o).alloc (.cells #[.int .u8 1] 5)) (w.heap.size + 1) (some ⟨w.heap.size + 1, 0, none⟩) 1 [1] ∧ Below (w.heap.size + 1) (w.alloc o) ((w.alloc o).alloc (.cells #[.int .u8 1] 5))) := outs_one w 1
  unfold tcells
  go_enter Try.func51, Try.ntmps51
  go_wp2_with fail
  go_ret
  exact NewB.of (HOne.out _).1 (HOne.out _).2 rfl

set_option maxRecDepth 100000 in
set_option maxHeartbeats 1000000 in
theorem byt_2f (i : Int) (f : Nat) (tx : ByteArray) (vb : Value) (rf : Int) (vl : Value) (vf : Value) (c : ByteArray) (vr : Int) (w : World) :
    Calls Try.prog 51 #[.agg (tcells 2 false i f tx (vb) (rf) (vl) (vf) c (vr))] w (NewB w ([2] ++ [0])) := by
  obtain ⟨i0, hi, hz0, hz1, hz2⟩ := info_parts Try.infoB
  have HOne : Hid (∀ o, Outs ((w.alloc o).alloc (.cells #[.int .u8 2] 5)) (w.heap.size + 1) (some ⟨w.heap.size + 1, 0, none⟩) 1 [2] ∧ Below (w.heap.size + 1) (w.alloc o) ((w.alloc o).alloc (.cells #[.int .u8 2] 5))) := outs_one w 2
  unfold tcells
  go_enter Try.func51, Try.ntmps51
  go_wp2_with (at_builtin; refine wpList_app _ rfl _ _ 23 rfl (w.heap.size + 1) 5 i0 (.int .u8 0) 1 1 Try.undB hi hz0 hz1 hz2 rfl (by decide) _ _ _ rfl ((HOne.out _).1.1.alloc _) ⟨w.heap.size + 2, 0, none⟩ 1 1 [.int .u8 0] rfl rfl (cell_one_at _ _ _ _ (by simp)) (fun u hu => by simp at hu; subst hu; rfl) (by decide) (by unfold maxLen; simp) (by simp) (by simp) ?_; intro g' cap2 w3 hown' hgrow hor')
  obtain ⟨h1, h2⟩ := (HOne.out _).1.step (ys := [0]) hown' rfl (by simp) hgrow hor'
  go_wp2_with fail
  go_ret
  exact NewB.of h1 ((HOne.out _).2.trans h2.1) rfl

set_option maxRecDepth 100000 in
set_option maxHeartbeats 1000000 in
theorem byt_2t (i : Int) (f : Nat) (tx : ByteArray) (vb : Value) (rf : Int) (vl : Value) (vf : Value) (c : ByteArray) (vr : Int) (w : World) :
    Calls Try.prog 51 #[.agg (tcells 2 true i f tx (vb) (rf) (vl) (vf) c (vr))] w (NewB w ([2] ++ [1])) := by
  obtain ⟨i0, hi, hz0, hz1, hz2⟩ := info_parts Try.infoB
  have HOne : Hid (∀ o, Outs ((w.alloc o).alloc (.cells #[.int .u8 2] 5)) (w.heap.size + 1) (some ⟨w.heap.size + 1, 0, none⟩) 1 [2] ∧ Below (w.heap.size + 1) (w.alloc o) ((w.alloc o).alloc (.cells #[.int .u8 2] 5))) := outs_one w 2
  unfold tcells
  go_enter Try.func51, Try.ntmps51
  go_wp2_with (at_builtin; refine wpList_app _ rfl _ _ 23 rfl (w.heap.size + 1) 5 i0 (.int .u8 0) 1 1 Try.undB hi hz0 hz1 hz2 rfl (by decide) _ _ _ rfl ((HOne.out _).1.1.alloc _) ⟨w.heap.size + 2, 0, none⟩ 1 1 [.int .u8 1] rfl rfl (cell_one_at _ _ _ _ (by simp)) (fun u hu => by simp at hu; subst hu; rfl) (by decide) (by unfold maxLen; simp) (by simp) (by simp) ?_; intro g' cap2 w3 hown' hgrow hor')
  obtain ⟨h1, h2⟩ := (HOne.out _).1.step (ys := [1]) hown' rfl (by simp) hgrow hor'
  go_wp2_with fail
  go_ret
  exact NewB.of h1 ((HOne.out _).2.trans h2.1) rfl

set_option maxRecDepth 100000 in
set_option maxHeartbeats 1000000 in
theorem byt_3n (b : Bool) (i : Int) (f : Nat) (tx : ByteArray) (vb : Value) (rf : Int) (vl : Value) (vf : Value) (c : ByteArray) (vr : Int) (w : World) (h0 : -9223372036854775808 ≤ i) (h1 : i ≤ 9223372036854775807) (hn : i < 0) :
    Calls Try.prog 51 #[.agg (tcells 3 b i f tx (vb) (rf) (vl) (vf) c (vr))] w (NewB w ([3] ++ Sp.numB (Sp.fold i))) := by
  obtain ⟨i0, hi, hz0, hz1, hz2⟩ := info_parts Try.infoB
  have HOne : Hid (∀ o, Outs ((w.alloc o).alloc (.cells #[.int .u8 3] 5)) (w.heap.size + 1) (some ⟨w.heap.size + 1, 0, none⟩) 1 [3] ∧ Below (w.heap.size + 1) (w.alloc o) ((w.alloc o).alloc (.cells #[.int .u8 3] 5))) := outs_one w 3
  have hnl := Sp.numB_64 (Sp.fold_lt h0 h1)
  have HN : Hid (∀ W, Calls Try.prog 93 #[.int .u64 (2 * -(i + 1) + 1)] W (NewB W (Sp.numB (Sp.fold i)))) := fun W => by
    have := number_any (Sp.fold i) W (Sp.fold_lt h0 h1)
    have e : ((Sp.fold i : Nat) : Int) = 2 * -(i + 1) + 1 := by unfold Sp.fold; rw [if_pos hn]; omega
    rw [e] at this; exact this
  unfold tcells
  go_enter Try.func51, Try.ntmps51
  go_wp2_with fail
  refine (HN.out _).mono ?_
  rintro e w2 ⟨g2, cap2, rfl, ho2, hb2⟩
  have HS2 : Hid (Outs w2 _ (some ⟨g2, 0, none⟩) cap2 (Sp.numB (Sp.fold i)) ∧ Outs w2 (w.heap.size + 1) _ _ ([3]) ∧ Below _ _ w2) := ⟨ho2, outs_call (HOne.out _).1 hb2, hb2⟩
  clear ho2 hb2
  go_wp2_with (at_builtin; refine wpList_app_src _ rfl _ _ 23 23 rfl (w.heap.size + 1) 5 i0 (.int .u8 0) 1 1 Try.undB hi hz0 hz1 hz2 rfl _ _ _ _ rfl HS2.out.2.1.1 _ _ _ rfl (outs_src HS2.out.1) (by unfold maxLen; simp; omega) (by simp; omega) HS2.out.2.1.2 ?_; intro gg2 cc2 v2 hown2 hgrow2 _)
  have hj2 := outs_join (HOne.out _).1 HS2.out.2.2 hown2 (by simp; omega) hgrow2
  have HJ2 : Hid (Outs v2 (w.heap.size + 1) (some ⟨gg2, 0, none⟩) cc2 ([3] ++ Sp.numB (Sp.fold i)) ∧ Below (w.heap.size + 1) (w.alloc _) v2) := ⟨hj2.1, Below.trans (HOne.out _).2 hj2.2⟩
  clear hj2 hown2 hgrow2
  go_wp2_with fail
  go_ret
  exact NewB.of HJ2.out.1 HJ2.out.2 (by simp; omega)

set_option maxRecDepth 100000 in
set_option maxHeartbeats 1000000 in
theorem byt_3p (b : Bool) (i : Int) (f : Nat) (tx : ByteArray) (vb : Value) (rf : Int) (vl : Value) (vf : Value) (c : ByteArray) (vr : Int) (w : World) (h0 : -9223372036854775808 ≤ i) (h1 : i ≤ 9223372036854775807) (hn : ¬ i < 0) :
    Calls Try.prog 51 #[.agg (tcells 3 b i f tx (vb) (rf) (vl) (vf) c (vr))] w (NewB w ([3] ++ Sp.numB (Sp.fold i))) := by
  obtain ⟨i0, hi, hz0, hz1, hz2⟩ := info_parts Try.infoB
  have HOne : Hid (∀ o, Outs ((w.alloc o).alloc (.cells #[.int .u8 3] 5)) (w.heap.size + 1) (some ⟨w.heap.size + 1, 0, none⟩) 1 [3] ∧ Below (w.heap.size + 1) (w.alloc o) ((w.alloc o).alloc (.cells #[.int .u8 3] 5))) := outs_one w 3
  have hnl := Sp.numB_64 (Sp.fold_lt h0 h1)
  have HN : Hid (∀ W, Calls Try.prog 93 #[.int .u64 (2 * i)] W (NewB W (Sp.numB (Sp.fold i)))) := fun W => by
    have := number_any (Sp.fold i) W (Sp.fold_lt h0 h1)
    have e : ((Sp.fold i : Nat) : Int) = 2 * i := by unfold Sp.fold; rw [if_neg hn]; omega
    rw [e] at this; exact this
  unfold tcells
  go_enter Try.func51, Try.ntmps51
  go_wp2_with fail
  refine (HN.out _).mono ?_
  rintro e w2 ⟨g2, cap2, rfl, ho2, hb2⟩
  have HS2 : Hid (Outs w2 _ (some ⟨g2, 0, none⟩) cap2 (Sp.numB (Sp.fold i)) ∧ Outs w2 (w.heap.size + 1) _ _ ([3]) ∧ Below _ _ w2) := ⟨ho2, outs_call (HOne.out _).1 hb2, hb2⟩
  clear ho2 hb2
  go_wp2_with (at_builtin; refine wpList_app_src _ rfl _ _ 23 23 rfl (w.heap.size + 1) 5 i0 (.int .u8 0) 1 1 Try.undB hi hz0 hz1 hz2 rfl _ _ _ _ rfl HS2.out.2.1.1 _ _ _ rfl (outs_src HS2.out.1) (by unfold maxLen; simp; omega) (by simp; omega) HS2.out.2.1.2 ?_; intro gg2 cc2 v2 hown2 hgrow2 _)
  have hj2 := outs_join (HOne.out _).1 HS2.out.2.2 hown2 (by simp; omega) hgrow2
  have HJ2 : Hid (Outs v2 (w.heap.size + 1) (some ⟨gg2, 0, none⟩) cc2 ([3] ++ Sp.numB (Sp.fold i)) ∧ Below (w.heap.size + 1) (w.alloc _) v2) := ⟨hj2.1, Below.trans (HOne.out _).2 hj2.2⟩
  clear hj2 hown2 hgrow2
  go_wp2_with fail
  go_ret
  exact NewB.of HJ2.out.1 HJ2.out.2 (by simp; omega)

set_option maxRecDepth 100000 in
set_option maxHeartbeats 1000000 in
theorem byt_5 (b : Bool) (i : Int) (f : Nat) (tx : ByteArray) (vb : Value) (rf : Int) (vl : Value) (vf : Value) (c : ByteArray) (vr : Int) (w : World) (ht : tx.size ≤ 65536) :
    Calls Try.prog 51 #[.agg (tcells 5 b i f tx (vb) (rf) (vl) (vf) c (vr))] w (NewB w ([5] ++ Sp.txtB tx)) := by
  obtain ⟨i0, hi, hz0, hz1, hz2⟩ := info_parts Try.infoB
  have HOne : Hid (∀ o, Outs ((w.alloc o).alloc (.cells #[.int .u8 5] 5)) (w.heap.size + 1) (some ⟨w.heap.size + 1, 0, none⟩) 1 [5] ∧ Below (w.heap.size + 1) (w.alloc o) ((w.alloc o).alloc (.cells #[.int .u8 5] 5))) := outs_one w 5
  have hnl := Sp.txtB_len ht (Nat.le_refl _)
  unfold tcells
  go_enter Try.func51, Try.ntmps51
  go_wp2_with fail
  refine (rtext_any tx _ (by omega)).mono ?_
  rintro e w2 ⟨g2, cap2, rfl, ho2, hb2⟩
  have HS2 : Hid (Outs w2 _ (some ⟨g2, 0, none⟩) cap2 (Sp.txtB tx) ∧ Outs w2 (w.heap.size + 1) _ _ ([5]) ∧ Below _ _ w2) := ⟨ho2, outs_call (HOne.out _).1 hb2, hb2⟩
  clear ho2 hb2
  go_wp2_with (at_builtin; refine wpList_app_src _ rfl _ _ 23 23 rfl (w.heap.size + 1) 5 i0 (.int .u8 0) 1 1 Try.undB hi hz0 hz1 hz2 rfl _ _ _ _ rfl HS2.out.2.1.1 _ _ _ rfl (outs_src HS2.out.1) (by unfold maxLen; simp; omega) (by simp; omega) HS2.out.2.1.2 ?_; intro gg2 cc2 v2 hown2 hgrow2 _)
  have hj2 := outs_join (HOne.out _).1 HS2.out.2.2 hown2 (by simp; omega) hgrow2
  have HJ2 : Hid (Outs v2 (w.heap.size + 1) (some ⟨gg2, 0, none⟩) cc2 ([5] ++ Sp.txtB tx) ∧ Below (w.heap.size + 1) (w.alloc _) v2) := ⟨hj2.1, Below.trans (HOne.out _).2 hj2.2⟩
  clear hj2 hown2 hgrow2
  go_wp2_with fail
  go_ret
  exact NewB.of HJ2.out.1 HJ2.out.2 (by simp; omega)

set_option maxRecDepth 100000 in
set_option maxHeartbeats 1000000 in
theorem byt_6 (L : ByteArray) (ab : Option Addr) (cb : Nat) (B : Nat → Prop) (b : Bool) (i : Int) (f : Nat) (tx : ByteArray) (rf : Int) (vl : Value) (vf : Value) (c : ByteArray) (vr : Int) (w : World) (hB : Sub B w) (hl : BytesAt w B ab L) (ht : L.size ≤ 65536) :
    Calls Try.prog 51 #[.agg (tcells 6 b i f tx (.slice ab L.size cb) (rf) (vl) (vf) c (vr))] w (NewB w ([6] ++ Sp.txtB L)) := by
  obtain ⟨i0, hi, hz0, hz1, hz2⟩ := info_parts Try.infoB
  have HOne : Hid (∀ o, Outs ((w.alloc o).alloc (.cells #[.int .u8 6] 5)) (w.heap.size + 1) (some ⟨w.heap.size + 1, 0, none⟩) 1 [6] ∧ Below (w.heap.size + 1) (w.alloc o) ((w.alloc o).alloc (.cells #[.int .u8 6] 5))) := outs_one w 6
  have hnl := Sp.txtB_len ht (Nat.le_refl _)
  have HL1 : ∀ o p, (convert 23 9 (.slice ab L.size cb)).run Try.prog ((w.alloc o).alloc p) = .ok (.string L) ((w.alloc o).alloc p) := fun o p => conv_run L ab cb B _ (hl.same (hB.same (two_below w o p)) (fun _ h => h))
  unfold tcells
  go_enter Try.func51, Try.ntmps51
  go_wp2_with fail
  refine (rtext_any L _ (by omega)).mono ?_
  rintro e w2 ⟨g2, cap2, rfl, ho2, hb2⟩
  have HS2 : Hid (Outs w2 _ (some ⟨g2, 0, none⟩) cap2 (Sp.txtB L) ∧ Outs w2 (w.heap.size + 1) _ _ ([6]) ∧ Below _ _ w2) := ⟨ho2, outs_call (HOne.out _).1 hb2, hb2⟩
  clear ho2 hb2
  go_wp2_with (at_builtin; refine wpList_app_src _ rfl _ _ 23 23 rfl (w.heap.size + 1) 5 i0 (.int .u8 0) 1 1 Try.undB hi hz0 hz1 hz2 rfl _ _ _ _ rfl HS2.out.2.1.1 _ _ _ rfl (outs_src HS2.out.1) (by unfold maxLen; simp; omega) (by simp; omega) HS2.out.2.1.2 ?_; intro gg2 cc2 v2 hown2 hgrow2 _)
  have hj2 := outs_join (HOne.out _).1 HS2.out.2.2 hown2 (by simp; omega) hgrow2
  have HJ2 : Hid (Outs v2 (w.heap.size + 1) (some ⟨gg2, 0, none⟩) cc2 ([6] ++ Sp.txtB L) ∧ Below (w.heap.size + 1) (w.alloc _) v2) := ⟨hj2.1, Below.trans (HOne.out _).2 hj2.2⟩
  clear hj2 hown2 hgrow2
  go_wp2_with fail
  go_ret
  exact NewB.of HJ2.out.1 HJ2.out.2 (by simp; omega)

set_option maxRecDepth 100000 in
set_option maxHeartbeats 1000000 in
theorem byt_7 (n : Nat) (b : Bool) (i : Int) (f : Nat) (tx : ByteArray) (vb : Value) (vl : Value) (vf : Value) (c : ByteArray) (vr : Int) (w : World) (hn : n < 18446744073709551616) :
    Calls Try.prog 51 #[.agg (tcells 7 b i f tx (vb) ((n : Int)) (vl) (vf) c (vr))] w (NewB w ([7] ++ Sp.numB n)) := by
  obtain ⟨i0, hi, hz0, hz1, hz2⟩ := info_parts Try.infoB
  have HOne : Hid (∀ o, Outs ((w.alloc o).alloc (.cells #[.int .u8 7] 5)) (w.heap.size + 1) (some ⟨w.heap.size + 1, 0, none⟩) 1 [7] ∧ Below (w.heap.size + 1) (w.alloc o) ((w.alloc o).alloc (.cells #[.int .u8 7] 5))) := outs_one w 7
  have hnl := Sp.numB_64 hn
  unfold tcells
  go_enter Try.func51, Try.ntmps51
  go_wp2_with fail
  refine (number_any n _ hn).mono ?_
  rintro e w2 ⟨g2, cap2, rfl, ho2, hb2⟩
  have HS2 : Hid (Outs w2 _ (some ⟨g2, 0, none⟩) cap2 (Sp.numB n) ∧ Outs w2 (w.heap.size + 1) _ _ ([7]) ∧ Below _ _ w2) := ⟨ho2, outs_call (HOne.out _).1 hb2, hb2⟩
  clear ho2 hb2
  go_wp2_with (at_builtin; refine wpList_app_src _ rfl _ _ 23 23 rfl (w.heap.size + 1) 5 i0 (.int .u8 0) 1 1 Try.undB hi hz0 hz1 hz2 rfl _ _ _ _ rfl HS2.out.2.1.1 _ _ _ rfl (outs_src HS2.out.1) (by unfold maxLen; simp; omega) (by simp; omega) HS2.out.2.1.2 ?_; intro gg2 cc2 v2 hown2 hgrow2 _)
  have hj2 := outs_join (HOne.out _).1 HS2.out.2.2 hown2 (by simp; omega) hgrow2
  have HJ2 : Hid (Outs v2 (w.heap.size + 1) (some ⟨gg2, 0, none⟩) cc2 ([7] ++ Sp.numB n) ∧ Below (w.heap.size + 1) (w.alloc _) v2) := ⟨hj2.1, Below.trans (HOne.out _).2 hj2.2⟩
  clear hj2 hown2 hgrow2
  go_wp2_with fail
  go_ret
  exact NewB.of HJ2.out.1 HJ2.out.2 (by simp; omega)
end Go.Proofs.Ytkomcebknllaiaa

/- tenonref03.Bytes at a float and at a list; tenonref03.fields. -/
namespace Go.Proofs.Ytkomcebknllaiaa
open Go.RowKit

set_option maxRecDepth 100000 in
set_option maxHeartbeats 1000000 in
theorem byt_4 (b : Bool) (i : Int) (f : Nat) (tx : ByteArray) (vb : Value) (rf : Int) (vl : Value) (vf : Value) (c : ByteArray) (vr : Int) (w : World) :
    Calls Try.prog 51 #[.agg (tcells 4 b i f tx (vb) (rf) (vl) (vf) c (vr))] w (NewB w ([4] ++ Sp.bitsTo f 8)) := by
  obtain ⟨i0, hi, hz0, hz1, hz2⟩ := info_parts Try.infoB
  have HOne : Hid (∀ o, Outs ((w.alloc o).alloc (.cells #[.int .u8 4] 5)) (w.heap.size + 1) (some ⟨w.heap.size + 1, 0, none⟩) 1 [4] ∧ Below (w.heap.size + 1) (w.alloc o) ((w.alloc o).alloc (.cells #[.int .u8 4] 5))) := outs_one w 4
  have hbr := bits_run f
  unfold tcells
  go_enter Try.func51, Try.ntmps51
  go_wp2_with fail
  go_loopw [3, 5] (fun u x wr => ∃ (k g cap' : Nat), u = .slice (some ⟨g, 0, none⟩) (k + 1) cap' ∧ x = .int .i64 (k : Int) ∧ k ≤ 8 ∧ Hid (Outs wr (w.heap.size + 1) (some ⟨g, 0, none⟩) cap' ([4] ++ Sp.bitsTo f k) ∧ ∃ o, Below (w.heap.size + 1) (w.alloc o) wr)) (fun _ x _ => (8 - intOf x).toNat)
  case atStart => exact ⟨0, _, _, rfl, rfl, by omega, (HOne.out _).1, _, (HOne.out _).2⟩
  case round =>
    obtain ⟨k, g, cap', rfl, rfl, hk, HO⟩ := hrel
    have hown := HO.out.1.1
    have HOW : Hid (wr.ownsRow (w.heap.size + 1) 5 1 (.slice (some ⟨g, 0, none⟩) (k + 1) cap') (k + 1) (u8s ([4] ++ Sp.bitsTo f k))) := by
      have el : (([4] : List Int) ++ Sp.bitsTo f k).length = k + 1 := by simp [Sp.bitsTo_len]
      rw [el] at hown; exact hown
    clear hown
    by_cases hk8 : k = 8
    · subst hk8
      go_wp2_with fail
      go_ret
      obtain ⟨o, hb⟩ := HO.out.2
      exact NewB.of HO.out.1 hb rfl
    · have hi1 : (k : Int) < 8 := by omega
      go_wp2_with (at_builtin; refine wpList_app _ rfl _ _ 23 rfl (w.heap.size + 1) 5 i0 (.int .u8 0) 1 1 Try.undB hi hz0 hz1 hz2 rfl (by decide) _ _ _ rfl (HOW.out.alloc _) ⟨wr.heap.size, 0, none⟩ 1 1 [.int .u8 ((f : Int) / 2 ^ (56 - 8 * k) % 256)] rfl rfl (cell_one_new _ _ _) (fun u hu => by simp at hu; subst hu; rfl) (by decide) (by unfold maxLen; omega) (by omega) (by have := HO.out.1.2; simp; omega) ?_; intro g' cap2 w3 hown' hgrow hor')
      have el : (([4] : List Int) ++ Sp.bitsTo f k).length = k + 1 := by simp [Sp.bitsTo_len]
      have eb : (f : Int) / 2 ^ (56 - 8 * k) % 256 = ((f / 2 ^ (56 - 8 * k) % 256 : Nat) : Int) := by simp
      rw [eb] at hown'
      obtain ⟨h1, h2⟩ := HO.out.1.step (ys := [((f / 2 ^ (56 - 8 * k) % 256 : Nat) : Int)]) hown' rfl (by simp [Sp.bitsTo_len]) (by rw [el]; exact hgrow) (by rw [el]; exact hor')
      obtain ⟨o, hb⟩ := HO.out.2
      go_roundw
      case rel => exact ⟨k + 1, g', cap2, rfl, by go_num, by omega, by rw [Sp.bitsTo, ← List.append_assoc]; exact h1, o, hb.trans h2.1⟩
      case measure => simp [intOf]; omega

theorem BytC.at {N : Nat} (HC : BytC N) {t : Tm} (hN : t.sz ≤ N) {cs : Array Value} {B : Nat → Prop} {w : World} (h : t.In w B cs) (hB : Sub B w) (ho : t.Ok) (hl : t.enc.length ≤ 70368744177664) :
    ∀ W, Below w.heap.size w W → Calls Try.prog 51 #[.agg cs] W (NewB W t.enc) := fun W hW => HC t hN cs B W (t.In_same (hB.same hW) (fun _ h => h) cs h) (hB.later hW) ho hl
/-- the same, the number of bytes hidden -/
def NewH (w : World) (ys : List Int) (e : Ending) (w' : World) : Prop := ∃ m g cap, e = .returned (.slice (some ⟨g, 0, none⟩) m cap) ∧ Hid (m = ys.length ∧ Outs w' w.heap.size (some ⟨g, 0, none⟩) cap ys ∧ Below w.heap.size w w')
theorem NewB.hid {w : World} {ys : List Int} {e : Ending} {w' : World} (h : NewB w ys e w') : NewH w ys e w' := by
  obtain ⟨g, cap, rfl, h1, h2⟩ := h
  exact ⟨_, g, cap, rfl, rfl, h1, h2⟩
theorem outs_src' {w : World} {base g cap m : Nat} {ys : List Int} (hm : m = ys.length) (h : Outs w base (some ⟨g, 0, none⟩) cap ys) : Src Try.prog 1 23 (.slice (some ⟨g, 0, none⟩) m cap) m (u8s ys) w := by subst hm; exact outs_src h
theorem outs_own {w : World} {base : Nat} {a : Option Addr} {cap m : Nat} {xs : List Int} (hm : m = xs.length) (h : Outs w base a cap xs) : w.ownsRow base 5 1 (.slice a m cap) m (u8s xs) := by subst hm; exact h.1

set_option maxRecDepth 100000 in
set_option maxHeartbeats 2000000 in
theorem rfields_any (N : Nat) (HC : BytC N) (L : TmF) (hN : L.sz ≤ N) (al : Option Addr) (cl : Nat) (B : Nat → Prop) (w : World) (hB : Sub B w) (hL : L.In w B al 0) (hll : L.len ≤ 4096) (hok : L.Ok) (hlen : L.encR.length ≤ 70368744177664) :
    Calls Try.prog 95 #[.slice al L.len cl] w (NewB w L.encR) := by
  obtain ⟨i0, hi, hz0, hz1, hz2⟩ := info_parts Try.infoB
  have HCH : Hid (BytC N) := HC
  have HL : Hid ((Sp.numB L.len).length + L.enc.length ≤ 70368744177664) := by show _ ≤ _; simp [TmF.encR] at hlen; omega
  have HN : Hid (Calls Try.prog 93 #[.int .u64 (L.len : Int)] w (NewH w (Sp.numB L.len))) := (number_any L.len w (by omega)).mono fun _ _ => NewB.hid
  have HV0 : Hid (L.In w B al 0 ∧ L.Ok) := ⟨hL, hok⟩
  clear HC hlen hL hok
  go_enter Try.func95, Try.ntmps95
  go_wp2_with fail
  refine HN.out.mono ?_
  rintro e w1 ⟨m1, g1, cap1, rfl, H1⟩
  clear HN
  go_wp2_with fail
  go_loopw [3, 4] (fun u i wr => ∃ (m k g cap' : Nat) (done : List Int) (l : TmF), u = .slice (some ⟨g, 0, none⟩) m cap' ∧ i = .int .i64 k ∧ l.len + k = L.len ∧ l.sz ≤ N ∧ Hid (m = (Sp.numB L.len ++ done).length ∧ L.enc = done ++ l.enc) ∧ Hid (Outs wr w.heap.size (some ⟨g, 0, none⟩) cap' (Sp.numB L.len ++ done) ∧ Below w.heap.size w wr ∧ l.In w B al k ∧ l.Ok)) (fun _ i _ => L.len - (intOf i).toNat)
  case atStart => exact ⟨m1, 0, g1, cap1, [], L, rfl, rfl, rfl, hN, ⟨by rw [List.append_nil]; exact H1.out.1, rfl⟩, ⟨by rw [List.append_nil]; exact H1.out.2.1, H1.out.2.2, HV0.out⟩⟩
  case round =>
    obtain ⟨m, k, g, cap', done, l, rfl, rfl, hk, hlN, HM, HO⟩ := hrel
    clear H1 HV0
    cases l with
    | nil =>
      have h1 : L.len ≤ k := by simp [TmF.len] at hk; omega
      clear hk
      go_wp2_with fail
      go_ret
      have he := HM.out.2
      rw [TmF.enc, List.append_nil] at he
      refine ⟨g, cap', by rw [TmF.encR, he, ← HM.out.1]; rfl, by rw [TmF.encR, he]; exact HO.out.1, HO.out.2.1⟩
    | cons nm t l =>
      obtain ⟨hout, hgr, hv, hok⟩ := HO.out
      simp only [TmF.In] at hv
      obtain ⟨g9, o9, cs, rfl, hg9, cn, hnl, hc, ht, hv'⟩ := hv
      have hg9 := hB _ hg9
      have hlt : k < L.len := by simp [TmF.len] at hk; omega
      have HK : Hid (l.len + (k + 1) = L.len) := by show _ = _; simp [TmF.len] at hk; omega
      have htN : t.sz ≤ N ∧ l.sz ≤ N := by simp [TmF.sz] at hlN; omega
      have hm := HM.out.1
      have hbb : m + (Sp.txtB nm).length + t.enc.length ≤ 70368744177664 := by
        have h1 := HL.out
        rw [HM.out.2, TmF.enc] at h1
        rw [hm]
        simp only [List.length_append] at h1 ⊢
        omega
      have hnb : nm.size ≤ (Sp.txtB nm).length := by rw [Sp.txtB, List.length_append, Sp.bts_len]; omega
      have HT : Hid (Calls Try.prog 94 #[.string nm] wr (NewH wr (Sp.txtB nm))) := (rtext_any nm wr (by omega)).mono fun _ _ => NewB.hid
      have HNV : Hid (l.In w B (some ⟨g9, o9, none⟩) (k + 1) ∧ l.Ok) := ⟨hv', hok.head.2⟩
      have HCT := HCH.out.at htN.1 ht hB hok.head.1 (by omega)
      have HGR : Hid (Below w.heap.size w wr) := hgr
      clear hm
      cases t with
      | mk kk b' i' f' tx' by' rf' l' fs' c' vr' =>
        have ht' := ht
        simp only [Tm.In] at ht'
        obtain ⟨ab', cb', al', cl', af', cf', rfl, _⟩ := ht'
        have HS : Hid (∀ W, Below w.heap.size w W → W.cell? ⟨g9, o9 + k * 12, none⟩ = some (.string nm) ∧ ∀ x, x < 11 → W.cell? ⟨g9, o9 + k * 12 + 1 + x, none⟩ = (tcells kk b' i' f' tx' (.slice ab' by'.size cb') rf' (.slice al' l'.len cl') (.slice af' fs'.len cf') c' vr')[x]?) := fun W hW => ⟨by rw [hW.cell (p := ⟨g9, o9 + k * 12, none⟩) hg9]; exact cn, fun x hx => by rw [hW.cell (p := ⟨g9, o9 + k * 12 + 1 + x, none⟩) hg9]; exact hc x hx⟩
        have dn := (HS.out wr hgr).1
        unfold tcells at HCT
        have HCT : Hid _ := HCT
        generalize htt : Tm.mk kk b' i' f' tx' by' rf' l' fs' c' vr' = t at *
        clear hk hv' ht cn hc hlN hout hgr hok htt
        go_wp2_with fail
        refine HT.out.mono ?_
        rintro e w2 ⟨m2, g2, cap2, rfl, H2⟩
        have hm2 := H2.out.1
        have HBZ2 : w.heap.size ≤ w2.heap.size := Nat.le_trans HGR.out.size H2.out.2.2.size
        have hl2 : m + m2 + t.enc.length ≤ 70368744177664 := by omega
        clear hm2
        go_wp2_with (at_builtin; refine wpList_app_src _ rfl _ _ 23 23 rfl w.heap.size 5 i0 (.int .u8 0) 1 1 Try.undB hi hz0 hz1 hz2 rfl _ _ _ _ rfl (outs_own HM.out.1 (outs_call HO.out.1 H2.out.2.2)) _ _ _ rfl (outs_src' H2.out.1 H2.out.2.1) (by unfold maxLen; omega) (by omega) HBZ2 ?_; intro g3 cap3 w3 hown3 hgrow3 _; have HJ3 : Hid _ := outs_join HO.out.1 H2.out.2.2 hown3 (by have := HM.out.1; have := H2.out.1; rw [List.length_append]; omega) hgrow3; have HG3 : Hid (Below w.heap.size w w3) := HGR.out.trans HJ3.out.2; obtain ⟨e0, e1, e2, e3, e4, e5, e6, e7, e8, e9, e10⟩ := eleven (w := w3) (g := g9) (o := o9 + k * 12 + 1) (HS.out w3 HG3.out).2; clear hown3 hgrow3)
        go_wp2_with fail
        refine ((HCT.out _ HG3.out).mono fun _ _ => NewB.hid).mono ?_
        rintro e w4 ⟨m4, g4, cap4, rfl, H4⟩
        have hm4 := H4.out.1
        have HBZ4 : w.heap.size ≤ w4.heap.size := Nat.le_trans HG3.out.size H4.out.2.2.size
        have HM3 : Hid (m + m2 = (Sp.numB L.len ++ done ++ Sp.txtB nm).length) := by show _ = _; have := HM.out.1; have := H2.out.1; rw [List.length_append]; omega
        have hl4 : m + m2 + m4 ≤ 70368744177664 := by omega
        clear hm4
        go_wp2_with (at_builtin; refine wpList_app_src _ rfl _ _ 23 23 rfl w.heap.size 5 i0 (.int .u8 0) 1 1 Try.undB hi hz0 hz1 hz2 rfl _ _ _ _ rfl (outs_own HM3.out (outs_call HJ3.out.1 H4.out.2.2)) _ _ _ rfl (outs_src' H4.out.1 H4.out.2.1) (by unfold maxLen; omega) (by omega) HBZ4 ?_; intro g5 cap5 w5 hown5 hgrow5 _)
        have HJ5 := outs_join HJ3.out.1 H4.out.2.2 hown5 (by have := HM3.out; have := H4.out.1; rw [List.length_append]; omega) hgrow5
        have HJ5 : Hid _ := HJ5
        have HM5 : Hid (m + m2 + m4 = (Sp.numB L.len ++ done ++ Sp.txtB nm ++ t.enc).length) := by show _ = _; have := HM3.out; have := H4.out.1; rw [List.length_append]; omega
        clear hown5 hgrow5
        go_wp2_with fail
        go_roundw
        case rel =>
          refine ⟨m + m2 + m4, k + 1, g5, cap5, done ++ (Sp.txtB nm ++ t.enc), l, rfl, by go_num, HK.out, htN.2, ⟨?_, ?_⟩, ⟨?_, HG3.out.trans HJ5.out.2, HNV.out⟩⟩
          · rw [HM5.out]; simp only [List.append_assoc]
          · rw [HM.out.2, TmF.enc]; simp only [List.append_assoc]
          · have := HJ5.out.1; simp only [List.append_assoc] at this ⊢; exact this
        case measure => simp [intOf]; omega
end Go.Proofs.Ytkomcebknllaiaa
