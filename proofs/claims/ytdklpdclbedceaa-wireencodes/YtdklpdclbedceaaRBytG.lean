/- tenonref03.fields and tenonref03.Bytes: the bytes of a term, new ones. -/
import Derived.Test.YtdklpdclbedceaaRNum
import Derived.Test.YtdklpdclbedceaaRCmpG
namespace Go.Proofs.Ytdklpdclbedceaa
open Go.RowKit

/-- the contract of Bytes at terms of at most N parts -/
def BytC (N : Nat) : Prop := ∀ (t : Tm), t.sz ≤ N → ∀ (cs : Array Value) (B : Nat → Prop) (w : World), t.In w B cs → Sub B w → t.Ok → t.enc.length ≤ 70368744177664 →
  Calls Try.prog 48 #[.agg cs] w (NewB w t.enc)
theorem outs_one (w : World) (k : Int) (o : Obj) : Outs ((w.alloc o).alloc (.cells #[.int .u8 k] 5)) (w.heap.size + 1) (some ⟨w.heap.size + 1, 0, none⟩) 1 [k] ∧ Below (w.heap.size + 1) (w.alloc o) ((w.alloc o).alloc (.cells #[.int .u8 k] 5)) :=
  ⟨⟨⟨rfl, .inr ⟨w.heap.size + 1, 1, #[.int .u8 k], rfl, Nat.le_refl _, by simpa using heap_alloc_new (w.alloc o) (.cells #[.int .u8 k] 5), Nat.le_refl _, by simp [maxLen], rfl, rfl⟩⟩, by simp⟩, (Below.refl _ _).alloc (by simp) _⟩
theorem cell_one_at (w : World) (x : Value) (t : TypeId) (h : Nat) (e : w.heap.size = h) : ∀ j u, [x][j]? = some u → (w.alloc (.cells #[x] t)).cell? ((⟨h, 0, none⟩ : Addr).add j) = some u := by subst e; exact cell_one_new w x t
theorem NewB.of {w W : World} {o : Obj} {g cap m : Nat} {ys : List Int} (h : Outs W (w.heap.size + 1) (some ⟨g, 0, none⟩) cap ys) (hb : Below (w.heap.size + 1) (w.alloc o) W) (hm : m = ys.length) : NewB w ys (.returned (.slice (some ⟨g, 0, none⟩) m cap)) W := by
  have hz := hb.size
  simp at hz
  refine ⟨g, cap, by rw [hm], ⟨?_, by omega⟩, ((Below.refl _ _).alloc (Nat.le_refl _) o).trans (hb.mono (by omega))⟩
  obtain ⟨⟨h1, h2⟩, h3⟩ := h
  refine ⟨h1, h2.imp id fun ⟨g, c, cur, e1, e2, r⟩ => ⟨g, c, cur, e1, by omega, r⟩⟩

set_option maxRecDepth 100000 in
set_option maxHeartbeats 1000000 in
theorem byt_1 (b : Bool) (i : Int) (f : Nat) (tx : ByteArray) (vb : Value) (rf : Int) (vl : Value) (vf : Value) (c : ByteArray) (vr : Int) (w : World) :
    Calls Try.prog 48 #[.agg (tcells 1 b i f tx (vb) (rf) (vl) (vf) c (vr))] w (NewB w ([1])) := by
  obtain ⟨i0, hi, hz0, hz1, hz2⟩ := info_parts Try.infoB
  have HOne : Hid (∀ o, Outs ((w.alloc o).alloc (.cells #[.int .u8 1] 5)) (w.heap.size + 1) (some ⟨w.heap.size + 1, 0, none⟩) 1 [1] ∧ Below (w.heap.size + 1) (w.alloc o) ((w.alloc o).alloc (.cells #[.int .u8 1] 5))) := outs_one w 1
  unfold tcells
  go_enter Try.func48, Try.ntmps48
  go_wp2_with fail
  go_ret
  exact NewB.of (HOne.out _).1 (HOne.out _).2 rfl

set_option maxRecDepth 100000 in
set_option maxHeartbeats 1000000 in
theorem byt_2f (i : Int) (f : Nat) (tx : ByteArray) (vb : Value) (rf : Int) (vl : Value) (vf : Value) (c : ByteArray) (vr : Int) (w : World) :
    Calls Try.prog 48 #[.agg (tcells 2 false i f tx (vb) (rf) (vl) (vf) c (vr))] w (NewB w ([2] ++ [0])) := by
  obtain ⟨i0, hi, hz0, hz1, hz2⟩ := info_parts Try.infoB
  have HOne : Hid (∀ o, Outs ((w.alloc o).alloc (.cells #[.int .u8 2] 5)) (w.heap.size + 1) (some ⟨w.heap.size + 1, 0, none⟩) 1 [2] ∧ Below (w.heap.size + 1) (w.alloc o) ((w.alloc o).alloc (.cells #[.int .u8 2] 5))) := outs_one w 2
  unfold tcells
  go_enter Try.func48, Try.ntmps48
  go_wp2_with (at_builtin; refine wpList_app _ rfl _ _ 23 rfl (w.heap.size + 1) 5 i0 (.int .u8 0) 1 1 Try.undB hi hz0 hz1 hz2 rfl (by decide) _ _ _ rfl ((HOne.out _).1.1.alloc _) ⟨w.heap.size + 2, 0, none⟩ 1 1 [.int .u8 0] rfl rfl (cell_one_at _ _ _ _ (by simp)) (fun u hu => by simp at hu; subst hu; rfl) (by decide) (by unfold maxLen; simp) (by simp) (by simp) ?_; intro g' cap2 w3 hown' hgrow hor')
  obtain ⟨h1, h2⟩ := (HOne.out _).1.step (ys := [0]) hown' rfl (by simp) hgrow hor'
  go_wp2_with fail
  go_ret
  exact NewB.of h1 ((HOne.out _).2.trans h2.1) rfl

set_option maxRecDepth 100000 in
set_option maxHeartbeats 1000000 in
theorem byt_2t (i : Int) (f : Nat) (tx : ByteArray) (vb : Value) (rf : Int) (vl : Value) (vf : Value) (c : ByteArray) (vr : Int) (w : World) :
    Calls Try.prog 48 #[.agg (tcells 2 true i f tx (vb) (rf) (vl) (vf) c (vr))] w (NewB w ([2] ++ [1])) := by
  obtain ⟨i0, hi, hz0, hz1, hz2⟩ := info_parts Try.infoB
  have HOne : Hid (∀ o, Outs ((w.alloc o).alloc (.cells #[.int .u8 2] 5)) (w.heap.size + 1) (some ⟨w.heap.size + 1, 0, none⟩) 1 [2] ∧ Below (w.heap.size + 1) (w.alloc o) ((w.alloc o).alloc (.cells #[.int .u8 2] 5))) := outs_one w 2
  unfold tcells
  go_enter Try.func48, Try.ntmps48
  go_wp2_with (at_builtin; refine wpList_app _ rfl _ _ 23 rfl (w.heap.size + 1) 5 i0 (.int .u8 0) 1 1 Try.undB hi hz0 hz1 hz2 rfl (by decide) _ _ _ rfl ((HOne.out _).1.1.alloc _) ⟨w.heap.size + 2, 0, none⟩ 1 1 [.int .u8 1] rfl rfl (cell_one_at _ _ _ _ (by simp)) (fun u hu => by simp at hu; subst hu; rfl) (by decide) (by unfold maxLen; simp) (by simp) (by simp) ?_; intro g' cap2 w3 hown' hgrow hor')
  obtain ⟨h1, h2⟩ := (HOne.out _).1.step (ys := [1]) hown' rfl (by simp) hgrow hor'
  go_wp2_with fail
  go_ret
  exact NewB.of h1 ((HOne.out _).2.trans h2.1) rfl

set_option maxRecDepth 100000 in
set_option maxHeartbeats 1000000 in
theorem byt_3n (b : Bool) (i : Int) (f : Nat) (tx : ByteArray) (vb : Value) (rf : Int) (vl : Value) (vf : Value) (c : ByteArray) (vr : Int) (w : World) (h0 : -9223372036854775808 ≤ i) (h1 : i ≤ 9223372036854775807) (hn : i < 0) :
    Calls Try.prog 48 #[.agg (tcells 3 b i f tx (vb) (rf) (vl) (vf) c (vr))] w (NewB w ([3] ++ Sp.numB (Sp.fold i))) := by
  obtain ⟨i0, hi, hz0, hz1, hz2⟩ := info_parts Try.infoB
  have HOne : Hid (∀ o, Outs ((w.alloc o).alloc (.cells #[.int .u8 3] 5)) (w.heap.size + 1) (some ⟨w.heap.size + 1, 0, none⟩) 1 [3] ∧ Below (w.heap.size + 1) (w.alloc o) ((w.alloc o).alloc (.cells #[.int .u8 3] 5))) := outs_one w 3
  have hnl := Sp.numB_64 (Sp.fold_lt h0 h1)
  have HN : Hid (∀ W, Calls Try.prog 90 #[.int .u64 (2 * -(i + 1) + 1)] W (NewB W (Sp.numB (Sp.fold i)))) := fun W => by
    have := number_any (Sp.fold i) W (Sp.fold_lt h0 h1)
    have e : ((Sp.fold i : Nat) : Int) = 2 * -(i + 1) + 1 := by unfold Sp.fold; rw [if_pos hn]; omega
    rw [e] at this; exact this
  unfold tcells
  go_enter Try.func48, Try.ntmps48
  go_wp2_with fail
  refine (HN.out _).mono ?_
  rintro e w2 ⟨g2, cap2, rfl, ho2, hb2⟩
  have HS2 : Hid (Outs w2 _ (some ⟨g2, 0, none⟩) cap2 (Sp.numB (Sp.fold i)) ∧ Outs w2 (w.heap.size + 1) _ _ ([3]) ∧ Below _ _ w2) := ⟨ho2, outs_call (HOne.out _).1 hb2, hb2⟩
  clear ho2 hb2
  go_wp2_with (at_builtin; refine wpList_app_src _ rfl _ _ 23 23 rfl (w.heap.size + 1) 5 i0 (.int .u8 0) 1 1 Try.undB hi hz0 hz1 hz2 rfl _ _ _ _ rfl HS2.out.2.1.1 _ _ _ rfl (outs_src HS2.out.1) (by unfold maxLen; simp; omega) (by simp; omega) HS2.out.2.1.2 ?_; intro gg2 cc2 v2 hown2 hgrow2 _)
  have hj2 := outs_join (HOne.out _).1 HS2.out.2.2 hown2 (by simp; omega) hgrow2
  have HJ2 : Hid (Outs v2 (w.heap.size + 1) (some ⟨gg2, 0, none⟩) cc2 ([3] ++ Sp.numB (Sp.fold i)) ∧ Below (w.heap.size + 1) (w.alloc _) v2) := ⟨hj2.1, Below.trans (HOne.out _).2 hj2.2⟩
  clear hj2 hown2 hgrow2
  go_wp2_with fail
  go_ret
  exact NewB.of HJ2.out.1 HJ2.out.2 (by simp; omega)

set_option maxRecDepth 100000 in
set_option maxHeartbeats 1000000 in
theorem byt_3p (b : Bool) (i : Int) (f : Nat) (tx : ByteArray) (vb : Value) (rf : Int) (vl : Value) (vf : Value) (c : ByteArray) (vr : Int) (w : World) (h0 : -9223372036854775808 ≤ i) (h1 : i ≤ 9223372036854775807) (hn : ¬ i < 0) :
    Calls Try.prog 48 #[.agg (tcells 3 b i f tx (vb) (rf) (vl) (vf) c (vr))] w (NewB w ([3] ++ Sp.numB (Sp.fold i))) := by
  obtain ⟨i0, hi, hz0, hz1, hz2⟩ := info_parts Try.infoB
  have HOne : Hid (∀ o, Outs ((w.alloc o).alloc (.cells #[.int .u8 3] 5)) (w.heap.size + 1) (some ⟨w.heap.size + 1, 0, none⟩) 1 [3] ∧ Below (w.heap.size + 1) (w.alloc o) ((w.alloc o).alloc (.cells #[.int .u8 3] 5))) := outs_one w 3
  have hnl := Sp.numB_64 (Sp.fold_lt h0 h1)
  have HN : Hid (∀ W, Calls Try.prog 90 #[.int .u64 (2 * i)] W (NewB W (Sp.numB (Sp.fold i)))) := fun W => by
    have := number_any (Sp.fold i) W (Sp.fold_lt h0 h1)
    have e : ((Sp.fold i : Nat) : Int) = 2 * i := by unfold Sp.fold; rw [if_neg hn]; omega
    rw [e] at this; exact this
  unfold tcells
  go_enter Try.func48, Try.ntmps48
  go_wp2_with fail
  refine (HN.out _).mono ?_
  rintro e w2 ⟨g2, cap2, rfl, ho2, hb2⟩
  have HS2 : Hid (Outs w2 _ (some ⟨g2, 0, none⟩) cap2 (Sp.numB (Sp.fold i)) ∧ Outs w2 (w.heap.size + 1) _ _ ([3]) ∧ Below _ _ w2) := ⟨ho2, outs_call (HOne.out _).1 hb2, hb2⟩
  clear ho2 hb2
  go_wp2_with (at_builtin; refine wpList_app_src _ rfl _ _ 23 23 rfl (w.heap.size + 1) 5 i0 (.int .u8 0) 1 1 Try.undB hi hz0 hz1 hz2 rfl _ _ _ _ rfl HS2.out.2.1.1 _ _ _ rfl (outs_src HS2.out.1) (by unfold maxLen; simp; omega) (by simp; omega) HS2.out.2.1.2 ?_; intro gg2 cc2 v2 hown2 hgrow2 _)
  have hj2 := outs_join (HOne.out _).1 HS2.out.2.2 hown2 (by simp; omega) hgrow2
  have HJ2 : Hid (Outs v2 (w.heap.size + 1) (some ⟨gg2, 0, none⟩) cc2 ([3] ++ Sp.numB (Sp.fold i)) ∧ Below (w.heap.size + 1) (w.alloc _) v2) := ⟨hj2.1, Below.trans (HOne.out _).2 hj2.2⟩
  clear hj2 hown2 hgrow2
  go_wp2_with fail
  go_ret
  exact NewB.of HJ2.out.1 HJ2.out.2 (by simp; omega)

set_option maxRecDepth 100000 in
set_option maxHeartbeats 1000000 in
theorem byt_5 (b : Bool) (i : Int) (f : Nat) (tx : ByteArray) (vb : Value) (rf : Int) (vl : Value) (vf : Value) (c : ByteArray) (vr : Int) (w : World) (ht : tx.size ≤ 65536) :
    Calls Try.prog 48 #[.agg (tcells 5 b i f tx (vb) (rf) (vl) (vf) c (vr))] w (NewB w ([5] ++ Sp.txtB tx)) := by
  obtain ⟨i0, hi, hz0, hz1, hz2⟩ := info_parts Try.infoB
  have HOne : Hid (∀ o, Outs ((w.alloc o).alloc (.cells #[.int .u8 5] 5)) (w.heap.size + 1) (some ⟨w.heap.size + 1, 0, none⟩) 1 [5] ∧ Below (w.heap.size + 1) (w.alloc o) ((w.alloc o).alloc (.cells #[.int .u8 5] 5))) := outs_one w 5
  have hnl := Sp.txtB_len ht (Nat.le_refl _)
  unfold tcells
  go_enter Try.func48, Try.ntmps48
  go_wp2_with fail
  refine (rtext_any tx _ (by omega)).mono ?_
  rintro e w2 ⟨g2, cap2, rfl, ho2, hb2⟩
  have HS2 : Hid (Outs w2 _ (some ⟨g2, 0, none⟩) cap2 (Sp.txtB tx) ∧ Outs w2 (w.heap.size + 1) _ _ ([5]) ∧ Below _ _ w2) := ⟨ho2, outs_call (HOne.out _).1 hb2, hb2⟩
  clear ho2 hb2
  go_wp2_with (at_builtin; refine wpList_app_src _ rfl _ _ 23 23 rfl (w.heap.size + 1) 5 i0 (.int .u8 0) 1 1 Try.undB hi hz0 hz1 hz2 rfl _ _ _ _ rfl HS2.out.2.1.1 _ _ _ rfl (outs_src HS2.out.1) (by unfold maxLen; simp; omega) (by simp; omega) HS2.out.2.1.2 ?_; intro gg2 cc2 v2 hown2 hgrow2 _)
  have hj2 := outs_join (HOne.out _).1 HS2.out.2.2 hown2 (by simp; omega) hgrow2
  have HJ2 : Hid (Outs v2 (w.heap.size + 1) (some ⟨gg2, 0, none⟩) cc2 ([5] ++ Sp.txtB tx) ∧ Below (w.heap.size + 1) (w.alloc _) v2) := ⟨hj2.1, Below.trans (HOne.out _).2 hj2.2⟩
  clear hj2 hown2 hgrow2
  go_wp2_with fail
  go_ret
  exact NewB.of HJ2.out.1 HJ2.out.2 (by simp; omega)

set_option maxRecDepth 100000 in
set_option maxHeartbeats 1000000 in
theorem byt_6 (L : ByteArray) (ab : Option Addr) (cb : Nat) (B : Nat → Prop) (b : Bool) (i : Int) (f : Nat) (tx : ByteArray) (rf : Int) (vl : Value) (vf : Value) (c : ByteArray) (vr : Int) (w : World) (hB : Sub B w) (hl : BytesAt w B ab L) (ht : L.size ≤ 65536) :
    Calls Try.prog 48 #[.agg (tcells 6 b i f tx (.slice ab L.size cb) (rf) (vl) (vf) c (vr))] w (NewB w ([6] ++ Sp.txtB L)) := by
  obtain ⟨i0, hi, hz0, hz1, hz2⟩ := info_parts Try.infoB
  have HOne : Hid (∀ o, Outs ((w.alloc o).alloc (.cells #[.int .u8 6] 5)) (w.heap.size + 1) (some ⟨w.heap.size + 1, 0, none⟩) 1 [6] ∧ Below (w.heap.size + 1) (w.alloc o) ((w.alloc o).alloc (.cells #[.int .u8 6] 5))) := outs_one w 6
  have hnl := Sp.txtB_len ht (Nat.le_refl _)
  have HL1 : ∀ o p, (convert 23 9 (.slice ab L.size cb)).run Try.prog ((w.alloc o).alloc p) = .ok (.string L) ((w.alloc o).alloc p) := fun o p => conv_run L ab cb B _ (hl.same (hB.same (two_below w o p)) (fun _ h => h))
  unfold tcells
  go_enter Try.func48, Try.ntmps48
  go_wp2_with fail
  refine (rtext_any L _ (by omega)).mono ?_
  rintro e w2 ⟨g2, cap2, rfl, ho2, hb2⟩
  have HS2 : Hid (Outs w2 _ (some ⟨g2, 0, none⟩) cap2 (Sp.txtB L) ∧ Outs w2 (w.heap.size + 1) _ _ ([6]) ∧ Below _ _ w2) := ⟨ho2, outs_call (HOne.out _).1 hb2, hb2⟩
  clear ho2 hb2
  go_wp2_with (at_builtin; refine wpList_app_src _ rfl _ _ 23 23 rfl (w.heap.size + 1) 5 i0 (.int .u8 0) 1 1 Try.undB hi hz0 hz1 hz2 rfl _ _ _ _ rfl HS2.out.2.1.1 _ _ _ rfl (outs_src HS2.out.1) (by unfold maxLen; simp; omega) (by simp; omega) HS2.out.2.1.2 ?_; intro gg2 cc2 v2 hown2 hgrow2 _)
  have hj2 := outs_join (HOne.out _).1 HS2.out.2.2 hown2 (by simp; omega) hgrow2
  have HJ2 : Hid (Outs v2 (w.heap.size + 1) (some ⟨gg2, 0, none⟩) cc2 ([6] ++ Sp.txtB L) ∧ Below (w.heap.size + 1) (w.alloc _) v2) := ⟨hj2.1, Below.trans (HOne.out _).2 hj2.2⟩
  clear hj2 hown2 hgrow2
  go_wp2_with fail
  go_ret
  exact NewB.of HJ2.out.1 HJ2.out.2 (by simp; omega)

set_option maxRecDepth 100000 in
set_option maxHeartbeats 1000000 in
theorem byt_7 (n : Nat) (b : Bool) (i : Int) (f : Nat) (tx : ByteArray) (vb : Value) (vl : Value) (vf : Value) (c : ByteArray) (vr : Int) (w : World) (hn : n < 18446744073709551616) :
    Calls Try.prog 48 #[.agg (tcells 7 b i f tx (vb) ((n : Int)) (vl) (vf) c (vr))] w (NewB w ([7] ++ Sp.numB n)) := by
  obtain ⟨i0, hi, hz0, hz1, hz2⟩ := info_parts Try.infoB
  have HOne : Hid (∀ o, Outs ((w.alloc o).alloc (.cells #[.int .u8 7] 5)) (w.heap.size + 1) (some ⟨w.heap.size + 1, 0, none⟩) 1 [7] ∧ Below (w.heap.size + 1) (w.alloc o) ((w.alloc o).alloc (.cells #[.int .u8 7] 5))) := outs_one w 7
  have hnl := Sp.numB_64 hn
  unfold tcells
  go_enter Try.func48, Try.ntmps48
  go_wp2_with fail
  refine (number_any n _ hn).mono ?_
  rintro e w2 ⟨g2, cap2, rfl, ho2, hb2⟩
  have HS2 : Hid (Outs w2 _ (some ⟨g2, 0, none⟩) cap2 (Sp.numB n) ∧ Outs w2 (w.heap.size + 1) _ _ ([7]) ∧ Below _ _ w2) := ⟨ho2, outs_call (HOne.out _).1 hb2, hb2⟩
  clear ho2 hb2
  go_wp2_with (at_builtin; refine wpList_app_src _ rfl _ _ 23 23 rfl (w.heap.size + 1) 5 i0 (.int .u8 0) 1 1 Try.undB hi hz0 hz1 hz2 rfl _ _ _ _ rfl HS2.out.2.1.1 _ _ _ rfl (outs_src HS2.out.1) (by unfold maxLen; simp; omega) (by simp; omega) HS2.out.2.1.2 ?_; intro gg2 cc2 v2 hown2 hgrow2 _)
  have hj2 := outs_join (HOne.out _).1 HS2.out.2.2 hown2 (by simp; omega) hgrow2
  have HJ2 : Hid (Outs v2 (w.heap.size + 1) (some ⟨gg2, 0, none⟩) cc2 ([7] ++ Sp.numB n) ∧ Below (w.heap.size + 1) (w.alloc _) v2) := ⟨hj2.1, Below.trans (HOne.out _).2 hj2.2⟩
  clear hj2 hown2 hgrow2
  go_wp2_with fail
  go_ret
  exact NewB.of HJ2.out.1 HJ2.out.2 (by simp; omega)
end Go.Proofs.Ytdklpdclbedceaa

/- tenonref03.Bytes at a float and at a list; tenonref03.fields. -/
namespace Go.Proofs.Ytdklpdclbedceaa
open Go.RowKit

set_option maxRecDepth 100000 in
set_option maxHeartbeats 1000000 in
theorem byt_4 (b : Bool) (i : Int) (f : Nat) (tx : ByteArray) (vb : Value) (rf : Int) (vl : Value) (vf : Value) (c : ByteArray) (vr : Int) (w : World) :
    Calls Try.prog 48 #[.agg (tcells 4 b i f tx (vb) (rf) (vl) (vf) c (vr))] w (NewB w ([4] ++ Sp.bitsTo f 8)) := by
  obtain ⟨i0, hi, hz0, hz1, hz2⟩ := info_parts Try.infoB
  have HOne : Hid (∀ o, Outs ((w.alloc o).alloc (.cells #[.int .u8 4] 5)) (w.heap.size + 1) (some ⟨w.heap.size + 1, 0, none⟩) 1 [4] ∧ Below (w.heap.size + 1) (w.alloc o) ((w.alloc o).alloc (.cells #[.int .u8 4] 5))) := outs_one w 4
  have hbr := bits_run f
  unfold tcells
  go_enter Try.func48, Try.ntmps48
  go_wp2_with fail
  go_loopw [3, 5] (fun u x wr => ∃ (k g cap' : Nat), u = .slice (some ⟨g, 0, none⟩) (k + 1) cap' ∧ x = .int .i64 (k : Int) ∧ k ≤ 8 ∧ Hid (Outs wr (w.heap.size + 1) (some ⟨g, 0, none⟩) cap' ([4] ++ Sp.bitsTo f k) ∧ ∃ o, Below (w.heap.size + 1) (w.alloc o) wr)) (fun _ x _ => (8 - intOf x).toNat)
  case atStart => exact ⟨0, _, _, rfl, rfl, by omega, (HOne.out _).1, _, (HOne.out _).2⟩
  case round =>
    obtain ⟨k, g, cap', rfl, rfl, hk, HO⟩ := hrel
    have hown := HO.out.1.1
    have HOW : Hid (wr.ownsRow (w.heap.size + 1) 5 1 (.slice (some ⟨g, 0, none⟩) (k + 1) cap') (k + 1) (u8s ([4] ++ Sp.bitsTo f k))) := by
      have el : (([4] : List Int) ++ Sp.bitsTo f k).length = k + 1 := by simp [Sp.bitsTo_len]
      rw [el] at hown; exact hown
    clear hown
    by_cases hk8 : k = 8
    · subst hk8
      go_wp2_with fail
      go_ret
      obtain ⟨o, hb⟩ := HO.out.2
      exact NewB.of HO.out.1 hb rfl
    · have hi1 : (k : Int) < 8 := by omega
      go_wp2_with (at_builtin; refine wpList_app _ rfl _ _ 23 rfl (w.heap.size + 1) 5 i0 (.int .u8 0) 1 1 Try.undB hi hz0 hz1 hz2 rfl (by decide) _ _ _ rfl (HOW.out.alloc _) ⟨wr.heap.size, 0, none⟩ 1 1 [.int .u8 ((f : Int) / 2 ^ (56 - 8 * k) % 256)] rfl rfl (cell_one_new _ _ _) (fun u hu => by simp at hu; subst hu; rfl) (by decide) (by unfold maxLen; omega) (by omega) (by have := HO.out.1.2; simp; omega) ?_; intro g' cap2 w3 hown' hgrow hor')
      have el : (([4] : List Int) ++ Sp.bitsTo f k).length = k + 1 := by simp [Sp.bitsTo_len]
      have eb : (f : Int) / 2 ^ (56 - 8 * k) % 256 = ((f / 2 ^ (56 - 8 * k) % 256 : Nat) : Int) := by simp
      rw [eb] at hown'
      obtain ⟨h1, h2⟩ := HO.out.1.step (ys := [((f / 2 ^ (56 - 8 * k) % 256 : Nat) : Int)]) hown' rfl (by simp [Sp.bitsTo_len]) (by rw [el]; exact hgrow) (by rw [el]; exact hor')
      obtain ⟨o, hb⟩ := HO.out.2
      go_roundw
      case rel => exact ⟨k + 1, g', cap2, rfl, by go_num, by omega, by rw [Sp.bitsTo, ← List.append_assoc]; exact h1, o, hb.trans h2.1⟩
      case measure => simp [intOf]; omega

theorem BytC.at {N : Nat} (HC : BytC N) {t : Tm} (hN : t.sz ≤ N) {cs : Array Value} {B : Nat → Prop} {w : World} (h : t.In w B cs) (hB : Sub B w) (ho : t.Ok) (hl : t.enc.length ≤ 70368744177664) :
    ∀ W, Below w.heap.size w W → Calls Try.prog 48 #[.agg cs] W (NewB W t.enc) := fun W hW => HC t hN cs B W (t.In_same (hB.same hW) (fun _ h => h) cs h) (hB.later hW) ho hl
/-- the same, the number of bytes hidden -/
def NewH (w : World) (ys : List Int) (e : Ending) (w' : World) : Prop := ∃ m g cap, e = .returned (.slice (some ⟨g, 0, none⟩) m cap) ∧ Hid (m = ys.length ∧ Outs w' w.heap.size (some ⟨g, 0, none⟩) cap ys ∧ Below w.heap.size w w')
theorem NewB.hid {w : World} {ys : List Int} {e : Ending} {w' : World} (h : NewB w ys e w') : NewH w ys e w' := by
  obtain ⟨g, cap, rfl, h1, h2⟩ := h
  exact ⟨_, g, cap, rfl, rfl, h1, h2⟩
theorem outs_src' {w : World} {base g cap m : Nat} {ys : List Int} (hm : m = ys.length) (h : Outs w base (some ⟨g, 0, none⟩) cap ys) : Src Try.prog 1 23 (.slice (some ⟨g, 0, none⟩) m cap) m (u8s ys) w := by subst hm; exact outs_src h
theorem outs_own {w : World} {base : Nat} {a : Option Addr} {cap m : Nat} {xs : List Int} (hm : m = xs.length) (h : Outs w base a cap xs) : w.ownsRow base 5 1 (.slice a m cap) m (u8s xs) := by subst hm; exact h.1

set_option maxRecDepth 100000 in
set_option maxHeartbeats 2000000 in
theorem rfields_any (N : Nat) (HC : BytC N) (L : TmF) (hN : L.sz ≤ N) (al : Option Addr) (cl : Nat) (B : Nat → Prop) (w : World) (hB : Sub B w) (hL : L.In w B al 0) (hll : L.len ≤ 4096) (hok : L.Ok) (hlen : L.encR.length ≤ 70368744177664) :
    Calls Try.prog 92 #[.slice al L.len cl] w (NewB w L.encR) := by
  obtain ⟨i0, hi, hz0, hz1, hz2⟩ := info_parts Try.infoB
  have HCH : Hid (BytC N) := HC
  have HL : Hid ((Sp.numB L.len).length + L.enc.length ≤ 70368744177664) := by show _ ≤ _; simp [TmF.encR] at hlen; omega
  have HN : Hid (Calls Try.prog 90 #[.int .u64 (L.len : Int)] w (NewH w (Sp.numB L.len))) := (number_any L.len w (by omega)).mono fun _ _ => NewB.hid
  have HV0 : Hid (L.In w B al 0 ∧ L.Ok) := ⟨hL, hok⟩
  clear HC hlen hL hok
  go_enter Try.func92, Try.ntmps92
  go_wp2_with fail
  refine HN.out.mono ?_
  rintro e w1 ⟨m1, g1, cap1, rfl, H1⟩
  clear HN
  go_wp2_with fail
  go_loopw [3, 4] (fun u i wr => ∃ (m k g cap' : Nat) (done : List Int) (l : TmF), u = .slice (some ⟨g, 0, none⟩) m cap' ∧ i = .int .i64 k ∧ l.len + k = L.len ∧ l.sz ≤ N ∧ Hid (m = (Sp.numB L.len ++ done).length ∧ L.enc = done ++ l.enc) ∧ Hid (Outs wr w.heap.size (some ⟨g, 0, none⟩) cap' (Sp.numB L.len ++ done) ∧ Below w.heap.size w wr ∧ l.In w B al k ∧ l.Ok)) (fun _ i _ => L.len - (intOf i).toNat)
  case atStart => exact ⟨m1, 0, g1, cap1, [], L, rfl, rfl, rfl, hN, ⟨by rw [List.append_nil]; exact H1.out.1, rfl⟩, ⟨by rw [List.append_nil]; exact H1.out.2.1, H1.out.2.2, HV0.out⟩⟩
  case round =>
    obtain ⟨m, k, g, cap', done, l, rfl, rfl, hk, hlN, HM, HO⟩ := hrel
    clear H1 HV0
    cases l with
    | nil =>
      have h1 : L.len ≤ k := by simp [TmF.len] at hk; omega
      clear hk
      go_wp2_with fail
      go_ret
      have he := HM.out.2
      rw [TmF.enc, List.append_nil] at he
      refine ⟨g, cap', by rw [TmF.encR, he, ← HM.out.1]; rfl, by rw [TmF.encR, he]; exact HO.out.1, HO.out.2.1⟩
    | cons nm t l =>
      obtain ⟨hout, hgr, hv, hok⟩ := HO.out
      simp only [TmF.In] at hv
      obtain ⟨g9, o9, cs, rfl, hg9, cn, hnl, hc, ht, hv'⟩ := hv
      have hg9 := hB _ hg9
      have hlt : k < L.len := by simp [TmF.len] at hk; omega
      have HK : Hid (l.len + (k + 1) = L.len) := by show _ = _; simp [TmF.len] at hk; omega
      have htN : t.sz ≤ N ∧ l.sz ≤ N := by simp [TmF.sz] at hlN; omega
      have hm := HM.out.1
      have hbb : m + (Sp.txtB nm).length + t.enc.length ≤ 70368744177664 := by
        have h1 := HL.out
        rw [HM.out.2, TmF.enc] at h1
        rw [hm]
        simp only [List.length_append] at h1 ⊢
        omega
      have hnb : nm.size ≤ (Sp.txtB nm).length := by rw [Sp.txtB, List.length_append, Sp.bts_len]; omega
      have HT : Hid (Calls Try.prog 91 #[.string nm] wr (NewH wr (Sp.txtB nm))) := (rtext_any nm wr (by omega)).mono fun _ _ => NewB.hid
      have HNV : Hid (l.In w B (some ⟨g9, o9, none⟩) (k + 1) ∧ l.Ok) := ⟨hv', hok.head.2⟩
      have HCT := HCH.out.at htN.1 ht hB hok.head.1 (by omega)
      have HGR : Hid (Below w.heap.size w wr) := hgr
      clear hm
      cases t with
      | mk kk b' i' f' tx' by' rf' l' fs' c' vr' =>
        have ht' := ht
        simp only [Tm.In] at ht'
        obtain ⟨ab', cb', al', cl', af', cf', rfl, _⟩ := ht'
        have HS : Hid (∀ W, Below w.heap.size w W → W.cell? ⟨g9, o9 + k * 12, none⟩ = some (.string nm) ∧ ∀ x, x < 11 → W.cell? ⟨g9, o9 + k * 12 + 1 + x, none⟩ = (tcells kk b' i' f' tx' (.slice ab' by'.size cb') rf' (.slice al' l'.len cl') (.slice af' fs'.len cf') c' vr')[x]?) := fun W hW => ⟨by rw [hW.cell (p := ⟨g9, o9 + k * 12, none⟩) hg9]; exact cn, fun x hx => by rw [hW.cell (p := ⟨g9, o9 + k * 12 + 1 + x, none⟩) hg9]; exact hc x hx⟩
        have dn := (HS.out wr hgr).1
        unfold tcells at HCT
        have HCT : Hid _ := HCT
        generalize htt : Tm.mk kk b' i' f' tx' by' rf' l' fs' c' vr' = t at *
        clear hk hv' ht cn hc hlN hout hgr hok htt
        go_wp2_with fail
        refine HT.out.mono ?_
        rintro e w2 ⟨m2, g2, cap2, rfl, H2⟩
        have hm2 := H2.out.1
        have HBZ2 : w.heap.size ≤ w2.heap.size := Nat.le_trans HGR.out.size H2.out.2.2.size
        have hl2 : m + m2 + t.enc.length ≤ 70368744177664 := by omega
        clear hm2
        go_wp2_with (at_builtin; refine wpList_app_src _ rfl _ _ 23 23 rfl w.heap.size 5 i0 (.int .u8 0) 1 1 Try.undB hi hz0 hz1 hz2 rfl _ _ _ _ rfl (outs_own HM.out.1 (outs_call HO.out.1 H2.out.2.2)) _ _ _ rfl (outs_src' H2.out.1 H2.out.2.1) (by unfold maxLen; omega) (by omega) HBZ2 ?_; intro g3 cap3 w3 hown3 hgrow3 _; have HJ3 : Hid _ := outs_join HO.out.1 H2.out.2.2 hown3 (by have := HM.out.1; have := H2.out.1; rw [List.length_append]; omega) hgrow3; have HG3 : Hid (Below w.heap.size w w3) := HGR.out.trans HJ3.out.2; obtain ⟨e0, e1, e2, e3, e4, e5, e6, e7, e8, e9, e10⟩ := eleven (w := w3) (g := g9) (o := o9 + k * 12 + 1) (HS.out w3 HG3.out).2; clear hown3 hgrow3)
        go_wp2_with fail
        refine ((HCT.out _ HG3.out).mono fun _ _ => NewB.hid).mono ?_
        rintro e w4 ⟨m4, g4, cap4, rfl, H4⟩
        have hm4 := H4.out.1
        have HBZ4 : w.heap.size ≤ w4.heap.size := Nat.le_trans HG3.out.size H4.out.2.2.size
        have HM3 : Hid (m + m2 = (Sp.numB L.len ++ done ++ Sp.txtB nm).length) := by show _ = _; have := HM.out.1; have := H2.out.1; rw [List.length_append]; omega
        have hl4 : m + m2 + m4 ≤ 70368744177664 := by omega
        clear hm4
        go_wp2_with (at_builtin; refine wpList_app_src _ rfl _ _ 23 23 rfl w.heap.size 5 i0 (.int .u8 0) 1 1 Try.undB hi hz0 hz1 hz2 rfl _ _ _ _ rfl (outs_own HM3.out (outs_call HJ3.out.1 H4.out.2.2)) _ _ _ rfl (outs_src' H4.out.1 H4.out.2.1) (by unfold maxLen; omega) (by omega) HBZ4 ?_; intro g5 cap5 w5 hown5 hgrow5 _)
        have HJ5 := outs_join HJ3.out.1 H4.out.2.2 hown5 (by have := HM3.out; have := H4.out.1; rw [List.length_append]; omega) hgrow5
        have HJ5 : Hid _ := HJ5
        have HM5 : Hid (m + m2 + m4 = (Sp.numB L.len ++ done ++ Sp.txtB nm ++ t.enc).length) := by show _ = _; have := HM3.out; have := H4.out.1; rw [List.length_append]; omega
        clear hown5 hgrow5
        go_wp2_with fail
        go_roundw
        case rel =>
          refine ⟨m + m2 + m4, k + 1, g5, cap5, done ++ (Sp.txtB nm ++ t.enc), l, rfl, by go_num, HK.out, htN.2, ⟨?_, ?_⟩, ⟨?_, HG3.out.trans HJ5.out.2, HNV.out⟩⟩
          · rw [HM5.out]; simp only [List.append_assoc]
          · rw [HM.out.2, TmF.enc]; simp only [List.append_assoc]
          · have := HJ5.out.1; simp only [List.append_assoc] at this ⊢; exact this
        case measure => simp [intOf]; omega
end Go.Proofs.Ytdklpdclbedceaa

/- tenonref03.Bytes at a list, a dict, a record, and at every term that can be; tenonref03.Encode. -/
namespace Go.Proofs.Ytdklpdclbedceaa
open Go.RowKit

set_option maxRecDepth 100000 in
set_option maxHeartbeats 1000000 in
theorem byt_8 (N : Nat) (HC : BytC N) (L : TmL) (hN : L.sz ≤ N) (al : Option Addr) (cl : Nat) (B : Nat → Prop) (b : Bool) (i : Int) (f : Nat) (tx : ByteArray) (vb : Value) (rf : Int) (vf : Value) (c : ByteArray) (vr : Int) (w : World) (hB : Sub B w) (hL : L.In w B al 0) (hll : L.len ≤ 4096) (hok : L.Ok) (hlen : (8 :: L.encR).length ≤ 70368744177664) :
    Calls Try.prog 48 #[.agg (tcells 8 b i f tx (vb) (rf) (.slice al L.len cl) (vf) c (vr))] w (NewB w (8 :: L.encR)) := by
  obtain ⟨i0, hi, hz0, hz1, hz2⟩ := info_parts Try.infoB
  have HOne : Hid (∀ o, Outs ((w.alloc o).alloc (.cells #[.int .u8 8] 5)) (w.heap.size + 1) (some ⟨w.heap.size + 1, 0, none⟩) 1 [8] ∧ Below (w.heap.size + 1) (w.alloc o) ((w.alloc o).alloc (.cells #[.int .u8 8] 5))) := outs_one w 8
  have HCH : Hid (BytC N) := HC
  have HL : Hid (1 + (Sp.numB L.len).length + L.enc.length ≤ 70368744177664) := by show _ ≤ _; simp [TmL.encR] at hlen; omega
  have hnl := Sp.numB_64 (n := L.len) (by omega)
  have HV0 : Hid (L.In w B al 0 ∧ L.Ok) := ⟨hL, hok⟩
  have HD : Hid (∀ W, Below (w.heap.size + 1) (w.alloc (.cells #[.int .i64 8, .bool b, .int .i64 i, .float .f64 f, .string tx, vb, .int .u64 rf, .slice al L.len cl, vf, .string c, .int .i64 vr] 29)) W → W.cell? ⟨w.heap.size, 7, none⟩ = some (.slice al L.len cl)) := fun W hW => by rw [hW.cell (p := ⟨w.heap.size, 7, none⟩) (by show w.heap.size < _; omega)]; simp
  clear HC hlen hL hok
  unfold tcells
  go_enter Try.func48, Try.ntmps48
  go_wp2_with fail
  refine ((number_any L.len _ (by omega)).mono fun _ _ => NewB.hid).mono ?_
  rintro e w2 ⟨m2, g2, cap2, rfl, H2⟩
  have HBZ2 : w.heap.size + 1 ≤ w2.heap.size := (outs_call (HOne.out _).1 H2.out.2.2).2
  have hm2 : m2 ≤ (Sp.numB L.len).length := Nat.le_of_eq H2.out.1
  go_wp2_with (at_builtin; refine wpList_app_src _ rfl _ _ 23 23 rfl (w.heap.size + 1) 5 i0 (.int .u8 0) 1 1 Try.undB hi hz0 hz1 hz2 rfl _ _ _ _ rfl (outs_own (xs := [8]) (rfl : 1 = ([8] : List Int).length) (outs_call (HOne.out _).1 H2.out.2.2)) _ _ _ rfl (outs_src' H2.out.1 H2.out.2.1) (by unfold maxLen; omega) (by omega) HBZ2 ?_; intro gg2 cc2 v2 hown2 hgrow2 _; have HJ2 : Hid _ := outs_join (HOne.out _).1 H2.out.2.2 hown2 (by have := (rfl : 1 = ([8] : List Int).length); have := H2.out.1; simp only [List.length_append, List.length_cons, List.length_nil] at *; omega) hgrow2; have HG2 : Hid (Below (w.heap.size + 1) (w.alloc (.cells #[.int .i64 8, .bool b, .int .i64 i, .float .f64 f, .string tx, vb, .int .u64 rf, .slice al L.len cl, vf, .string c, .int .i64 vr] 29)) v2) := Below.trans (HOne.out _).2 HJ2.out.2; have c7 := HD.out v2 HG2.out; clear hown2 hgrow2)
  go_loopw [3, 6] (fun u ii wr => ∃ (m k g cap' : Nat) (done : List Int) (l : TmL), u = .slice (some ⟨g, 0, none⟩) m cap' ∧ ii = .int .i64 k ∧ l.len + k = L.len ∧ l.sz ≤ N ∧ wr.cell? ⟨w.heap.size, 7, none⟩ = some (.slice al L.len cl) ∧ Hid (m = ([8] ++ Sp.numB L.len ++ done).length ∧ L.enc = done ++ l.enc) ∧ Hid (Outs wr (w.heap.size + 1) (some ⟨g, 0, none⟩) cap' ([8] ++ Sp.numB L.len ++ done) ∧ Below (w.heap.size + 1) (w.alloc (.cells #[.int .i64 8, .bool b, .int .i64 i, .float .f64 f, .string tx, vb, .int .u64 rf, .slice al L.len cl, vf, .string c, .int .i64 vr] 29)) wr ∧ l.In w B al k ∧ l.Ok)) (fun _ ii _ => L.len - (intOf ii).toNat)
  case atStart => exact ⟨_, 0, gg2, cc2, [], L, rfl, rfl, rfl, hN, c7, ⟨by rw [List.append_nil, List.length_append, ← H2.out.1]; rfl, rfl⟩, ⟨by rw [List.append_nil]; exact HJ2.out.1, HG2.out, HV0.out⟩⟩
  case round =>
    obtain ⟨m, k, g, cap', done, l, rfl, rfl, hk, hlN, c7, HM, HO⟩ := hrel
    clear HV0
    cases l with
    | nil =>
      have h1 : L.len ≤ k := by simp [TmL.len] at hk; omega
      clear hk
      go_wp2_with fail
      go_ret
      have he := HM.out.2
      rw [TmL.enc, List.append_nil] at he
      have e8 : 8 :: L.encR = [8] ++ Sp.numB L.len ++ done := by rw [TmL.encR, he]; simp
      rw [e8]
      exact NewB.of HO.out.1 HO.out.2.1 HM.out.1
    | cons t l =>
      obtain ⟨hout, hgr, hv, hok⟩ := HO.out
      simp only [TmL.In] at hv
      obtain ⟨g9, o9, cs, rfl, hg9, hc, ht, hv'⟩ := hv
      have hg9 := hB _ hg9
      have hlt : k < L.len := by simp [TmL.len] at hk; omega
      have HK : Hid (l.len + (k + 1) = L.len) := by show _ = _; simp [TmL.len] at hk; omega
      have htN : t.sz ≤ N ∧ l.sz ≤ N := by simp [TmL.sz] at hlN; omega
      have hm := HM.out.1
      have hbb : m + t.enc.length ≤ 70368744177664 := by
        have h1 := HL.out
        rw [HM.out.2, TmL.enc] at h1
        rw [hm]
        simp only [List.length_append, List.length_cons, List.length_nil] at h1 ⊢
        omega
      have HNV : Hid (l.In w B (some ⟨g9, o9, none⟩) (k + 1) ∧ l.Ok) := ⟨hv', hok.head.2⟩
      have HCT := HCH.out.at htN.1 ht hB hok.head.1 (by omega)
      have hbw : Below w.heap.size w wr := ((Below.refl _ _).alloc (Nat.le_refl _) _).trans (hgr.mono (by omega))
      have HGW : Hid (Below w.heap.size w wr) := hbw
      have HSZ : Hid (w.heap.size + 1 ≤ wr.heap.size) := hout.2
      clear hm
      cases t with
      | mk kk b' i' f' tx' by' rf' l' fs' c' vr' =>
        have ht' := ht
        simp only [Tm.In] at ht'
        obtain ⟨ab', cb', al', cl', af', cf', rfl, _⟩ := ht'
        obtain ⟨e0, e1, e2, e3, e4, e5, e6, e7, e8, e9, e10⟩ := eleven (w := wr) (g := g9) (o := o9 + k * 11) (fun x hx => by rw [hbw.cell (p := ⟨g9, o9 + k * 11 + x, none⟩) hg9]; exact hc x hx)
        unfold tcells at HCT
        have HCT : Hid _ := HCT
        generalize htt : Tm.mk kk b' i' f' tx' by' rf' l' fs' c' vr' = t at *
        clear hk hv' ht hc hlN hout hgr hok htt hbw
        go_wp2_with fail
        refine ((HCT.out _ HGW.out).mono fun _ _ => NewB.hid).mono ?_
        rintro e w4 ⟨m4, g4, cap4, rfl, H4⟩
        have hm4 := H4.out.1
        have HBZ4 : w.heap.size + 1 ≤ w4.heap.size := Nat.le_trans HSZ.out H4.out.2.2.size
        have hl4 : m + m4 ≤ 70368744177664 := by omega
        clear hm4
        go_wp2_with (at_builtin; refine wpList_app_src _ rfl _ _ 23 23 rfl (w.heap.size + 1) 5 i0 (.int .u8 0) 1 1 Try.undB hi hz0 hz1 hz2 rfl _ _ _ _ rfl (outs_own HM.out.1 (outs_call HO.out.1 H4.out.2.2)) _ _ _ rfl (outs_src' H4.out.1 H4.out.2.1) (by unfold maxLen; omega) (by omega) HBZ4 ?_; intro g5 cap5 w5 hown5 hgrow5 _)
        have HJ5 := outs_join HO.out.1 H4.out.2.2 hown5 (by have := HM.out.1; have := H4.out.1; rw [List.length_append]; omega) hgrow5
        have HJ5 : Hid _ := HJ5
        have HM5 : Hid (m + m4 = ([8] ++ Sp.numB L.len ++ done ++ t.enc).length) := by show _ = _; have := HM.out.1; have := H4.out.1; rw [List.length_append]; omega
        have HG5 := Below.trans HO.out.2.1 HJ5.out.2
        have c7' := HD.out w5 HG5
        clear hown5 hgrow5
        go_wp2_with fail
        go_roundw
        case rel =>
          refine ⟨m + m4, k + 1, g5, cap5, done ++ t.enc, l, rfl, by go_num, HK.out, htN.2, c7', ⟨?_, ?_⟩, ⟨?_, HG5, HNV.out⟩⟩
          · rw [HM5.out]; simp only [List.append_assoc]
          · rw [HM.out.2, TmL.enc]; simp only [List.append_assoc]
          · have := HJ5.out.1; simp only [List.append_assoc] at this ⊢; exact this
        case measure => simp [intOf]; omega

set_option maxRecDepth 100000 in
set_option maxHeartbeats 1000000 in
theorem byt_9 (N : Nat) (HC : BytC N) (L : TmF) (hN : L.sz ≤ N) (al : Option Addr) (cl : Nat) (B : Nat → Prop) (b : Bool) (i : Int) (f : Nat) (tx : ByteArray) (vb : Value) (rf : Int) (vl : Value) (c : ByteArray) (vr : Int) (w : World) (hB : Sub B w) (hL : L.In w B al 0) (hll : L.len ≤ 4096) (hok : L.Ok) (hlen : (9 :: L.encR).length ≤ 70368744177664) :
    Calls Try.prog 48 #[.agg (tcells 9 b i f tx (vb) (rf) (vl) (.slice al L.len cl) c (vr))] w (NewB w (9 :: L.encR)) := by
  obtain ⟨i0, hi, hz0, hz1, hz2⟩ := info_parts Try.infoB
  have HOne : Hid (∀ o, Outs ((w.alloc o).alloc (.cells #[.int .u8 9] 5)) (w.heap.size + 1) (some ⟨w.heap.size + 1, 0, none⟩) 1 [9] ∧ Below (w.heap.size + 1) (w.alloc o) ((w.alloc o).alloc (.cells #[.int .u8 9] 5))) := outs_one w 9
  have hle : L.encR.length ≤ 70368744177663 := by simp at hlen; omega
  have HF : Hid (∀ W, Below w.heap.size w W → Calls Try.prog 92 #[.slice al L.len cl] W (NewB W L.encR)) := fun W hW => rfields_any N HC L hN al cl B W (hB.later hW) (L.In_same (hB.same hW) (fun _ h => h) al 0 hL) hll hok (by omega)
  clear HC hlen hL hok
  unfold tcells
  go_enter Try.func48, Try.ntmps48
  go_wp2_with fail
  refine ((HF.out _ (two_below w _ _)).mono fun _ _ => NewB.hid).mono ?_
  rintro e w2 ⟨m2, g2, cap2, rfl, H2⟩
  have HBZ2 : w.heap.size + 1 ≤ w2.heap.size := (outs_call (HOne.out _).1 H2.out.2.2).2
  have hm2 : m2 ≤ (L.encR).length := Nat.le_of_eq H2.out.1
  go_wp2_with (at_builtin; refine wpList_app_src _ rfl _ _ 23 23 rfl (w.heap.size + 1) 5 i0 (.int .u8 0) 1 1 Try.undB hi hz0 hz1 hz2 rfl _ _ _ _ rfl (outs_own (xs := [9]) (rfl : 1 = ([9] : List Int).length) (outs_call (HOne.out _).1 H2.out.2.2)) _ _ _ rfl (outs_src' H2.out.1 H2.out.2.1) (by unfold maxLen; omega) (by omega) HBZ2 ?_; intro gg2 cc2 v2 hown2 hgrow2 _; have HJ2 : Hid _ := outs_join (HOne.out _).1 H2.out.2.2 hown2 (by have := (rfl : 1 = ([9] : List Int).length); have := H2.out.1; simp only [List.length_append, List.length_cons, List.length_nil] at *; omega) hgrow2; have HG2 : Hid (Below (w.heap.size + 1) (w.alloc (.cells #[.int .i64 9, .bool b, .int .i64 i, .float .f64 f, .string tx, vb, .int .u64 rf, vl, .slice al L.len cl, .string c, .int .i64 vr] 29)) v2) := Below.trans (HOne.out _).2 HJ2.out.2;  clear hown2 hgrow2)
  go_ret
  exact NewB.of (ys := [9] ++ L.encR) HJ2.out.1 HG2.out (by rw [List.length_append, ← H2.out.1]; rfl)

set_option maxRecDepth 100000 in
set_option maxHeartbeats 1000000 in
theorem byt_10 (N : Nat) (HC : BytC N) (L : TmF) (hN : L.sz ≤ N) (al : Option Addr) (cl : Nat) (B : Nat → Prop) (vr : Nat) (b : Bool) (i : Int) (f : Nat) (tx : ByteArray) (vb : Value) (rf : Int) (vl : Value) (c : ByteArray) (w : World) (hB : Sub B w) (hL : L.In w B al 0) (hll : L.len ≤ 4096) (hok : L.Ok) (hcs : c.size ≤ 32) (hvr : vr ≤ 1000) (hlen : (10 :: (Sp.txtB c ++ (Sp.numB vr ++ L.encR))).length ≤ 70368744177664) :
    Calls Try.prog 48 #[.agg (tcells 10 b i f tx (vb) (rf) (vl) (.slice al L.len cl) c ((vr : Int)))] w (NewB w (10 :: (Sp.txtB c ++ (Sp.numB vr ++ L.encR)))) := by
  obtain ⟨i0, hi, hz0, hz1, hz2⟩ := info_parts Try.infoB
  have HOne : Hid (∀ o, Outs ((w.alloc o).alloc (.cells #[.int .u8 10] 5)) (w.heap.size + 1) (some ⟨w.heap.size + 1, 0, none⟩) 1 [10] ∧ Below (w.heap.size + 1) (w.alloc o) ((w.alloc o).alloc (.cells #[.int .u8 10] 5))) := outs_one w 10
  have hle : L.encR.length ≤ 70368744177663 := by simp at hlen; omega
  have hnl := Sp.numB_64 (n := vr) (by omega)
  have htl := Sp.txtB_len hcs (by decide)
  have hlz : 1 + (Sp.txtB c).length + (Sp.numB vr).length + L.encR.length ≤ 70368744177664 := by simp at hlen; omega
  have HF : Hid (∀ W, Below w.heap.size w W → Calls Try.prog 92 #[.slice al L.len cl] W (NewB W L.encR)) := fun W hW => rfields_any N HC L hN al cl B W (hB.later hW) (L.In_same (hB.same hW) (fun _ h => h) al 0 hL) hll hok (by omega)
  have HD : Hid (∀ W, Below (w.heap.size + 1) (w.alloc (.cells #[.int .i64 10, .bool b, .int .i64 i, .float .f64 f, .string tx, vb, .int .u64 rf, vl, .slice al L.len cl, .string c, .int .i64 (vr : Int)] 29)) W → W.cell? ⟨w.heap.size, 8, none⟩ = some (.slice al L.len cl) ∧ W.cell? ⟨w.heap.size, 9, none⟩ = some (.string c) ∧ W.cell? ⟨w.heap.size, 10, none⟩ = some (.int .i64 (vr : Int))) := fun W hW => ⟨by rw [hW.cell (p := ⟨w.heap.size, 8, none⟩) (by show w.heap.size < _; omega)]; simp, by rw [hW.cell (p := ⟨w.heap.size, 9, none⟩) (by show w.heap.size < _; omega)]; simp, by rw [hW.cell (p := ⟨w.heap.size, 10, none⟩) (by show w.heap.size < _; omega)]; simp⟩
  clear HC hlen hL hok
  unfold tcells
  go_enter Try.func48, Try.ntmps48
  go_wp2_with fail
  refine ((rtext_any c _ (by omega)).mono fun _ _ => NewB.hid).mono ?_
  rintro e w2 ⟨m2, g2, cap2, rfl, H2⟩
  have HBZ2 : w.heap.size + 1 ≤ w2.heap.size := (outs_call (HOne.out _).1 H2.out.2.2).2
  have hm2 : m2 ≤ (Sp.txtB c).length := Nat.le_of_eq H2.out.1
  go_wp2_with (at_builtin; refine wpList_app_src _ rfl _ _ 23 23 rfl (w.heap.size + 1) 5 i0 (.int .u8 0) 1 1 Try.undB hi hz0 hz1 hz2 rfl _ _ _ _ rfl (outs_own (xs := [10]) (rfl : 1 = ([10] : List Int).length) (outs_call (HOne.out _).1 H2.out.2.2)) _ _ _ rfl (outs_src' H2.out.1 H2.out.2.1) (by unfold maxLen; omega) (by omega) HBZ2 ?_; intro gg2 cc2 v2 hown2 hgrow2 _; have HJ2 : Hid _ := outs_join (HOne.out _).1 H2.out.2.2 hown2 (by have := (rfl : 1 = ([10] : List Int).length); have := H2.out.1; simp only [List.length_append, List.length_cons, List.length_nil] at *; omega) hgrow2; have HG2 : Hid (Below (w.heap.size + 1) (w.alloc (.cells #[.int .i64 10, .bool b, .int .i64 i, .float .f64 f, .string tx, vb, .int .u64 rf, vl, .slice al L.len cl, .string c, .int .i64 (vr : Int)] 29)) v2) := Below.trans (HOne.out _).2 HJ2.out.2; obtain ⟨x8, x9, x10⟩ := HD.out v2 HG2.out; clear hown2 hgrow2)
  have HM2 : Hid (1 + m2 = ([10] ++ Sp.txtB c).length) := by show _ = _; rw [List.length_append, ← H2.out.1]; rfl
  refine ((number_any vr _ (by omega)).mono fun _ _ => NewB.hid).mono ?_
  rintro e w4 ⟨m4, g4, cap4, rfl, H4⟩
  have HBZ4 : w.heap.size + 1 ≤ w4.heap.size := (outs_call HJ2.out.1 H4.out.2.2).2
  have hm4 : m4 ≤ (Sp.numB vr).length := Nat.le_of_eq H4.out.1
  go_wp2_with (at_builtin; refine wpList_app_src _ rfl _ _ 23 23 rfl (w.heap.size + 1) 5 i0 (.int .u8 0) 1 1 Try.undB hi hz0 hz1 hz2 rfl _ _ _ _ rfl (outs_own (xs := [10] ++ Sp.txtB c) HM2.out (outs_call HJ2.out.1 H4.out.2.2)) _ _ _ rfl (outs_src' H4.out.1 H4.out.2.1) (by unfold maxLen; omega) (by omega) HBZ4 ?_; intro gg4 cc4 v4 hown4 hgrow4 _; have HJ4 : Hid _ := outs_join HJ2.out.1 H4.out.2.2 hown4 (by have := HM2.out; have := H4.out.1; simp only [List.length_append, List.length_cons, List.length_nil] at *; omega) hgrow4; have HG4 : Hid (Below (w.heap.size + 1) (w.alloc (.cells #[.int .i64 10, .bool b, .int .i64 i, .float .f64 f, .string tx, vb, .int .u64 rf, vl, .slice al L.len cl, .string c, .int .i64 (vr : Int)] 29)) v4) := Below.trans HG2.out HJ4.out.2; obtain ⟨y8, y9, y10⟩ := HD.out v4 HG4.out; clear hown4 hgrow4)
  have HM4 : Hid (1 + m2 + m4 = ([10] ++ Sp.txtB c ++ Sp.numB vr).length) := by show _ = _; rw [List.length_append, ← H4.out.1, ← HM2.out]
  refine ((HF.out _ (((Below.refl _ _).alloc (Nat.le_refl _) _).trans (HG4.out.mono (by omega)))).mono fun _ _ => NewB.hid).mono ?_
  rintro e w6 ⟨m6, g6, cap6, rfl, H6⟩
  have HBZ6 : w.heap.size + 1 ≤ w6.heap.size := (outs_call HJ4.out.1 H6.out.2.2).2
  have hm6 : m6 ≤ (L.encR).length := Nat.le_of_eq H6.out.1
  go_wp2_with (at_builtin; refine wpList_app_src _ rfl _ _ 23 23 rfl (w.heap.size + 1) 5 i0 (.int .u8 0) 1 1 Try.undB hi hz0 hz1 hz2 rfl _ _ _ _ rfl (outs_own (xs := [10] ++ Sp.txtB c ++ Sp.numB vr) HM4.out (outs_call HJ4.out.1 H6.out.2.2)) _ _ _ rfl (outs_src' H6.out.1 H6.out.2.1) (by unfold maxLen; omega) (by omega) HBZ6 ?_; intro gg6 cc6 v6 hown6 hgrow6 _; have HJ6 : Hid _ := outs_join HJ4.out.1 H6.out.2.2 hown6 (by have := HM4.out; have := H6.out.1; simp only [List.length_append, List.length_cons, List.length_nil] at *; omega) hgrow6; have HG6 : Hid (Below (w.heap.size + 1) (w.alloc (.cells #[.int .i64 10, .bool b, .int .i64 i, .float .f64 f, .string tx, vb, .int .u64 rf, vl, .slice al L.len cl, .string c, .int .i64 (vr : Int)] 29)) v6) := Below.trans HG4.out HJ6.out.2;  clear hown6 hgrow6)
  go_ret
  have e10 : 10 :: (Sp.txtB c ++ (Sp.numB vr ++ L.encR)) = [10] ++ Sp.txtB c ++ Sp.numB vr ++ L.encR := by simp
  rw [e10]
  exact NewB.of HJ6.out.1 HG6.out (by rw [List.length_append, ← H6.out.1, ← HM4.out])
end Go.Proofs.Ytdklpdclbedceaa
