/- tenonlaw03.WireBack at terms that can't be values, and at those that can. -/
import Derived.Test.YtdklpdclbedceaaWBackM
import Derived.Test.YtdklpdclbedceaaEncK
import Derived.Test.YtdklpdclbedceaaBackG
import Derived.Test.YtdklpdclbedceaaRefCheck
namespace Go.Proofs.Ytdklpdclbedceaa
open Go.RowKit

set_option maxRecDepth 100000 in
set_option maxHeartbeats 2000000 in
theorem WireBack_err (t : Tm) (cs : Array Value) (B : Nat → Prop) (w : World) (h : t.In w B cs) (hB : Sub B w) (he : t.all.e ≠ 0) (vb : Value) :
    Calls Try.prog 8 #[.agg cs, vb] w fun e w' => e = .returned (.bool true) ∧ Below w.heap.size w w' := by
  have HBt : Hid (∀ W, Below w.heap.size w W → Calls Try.prog 11 #[.agg cs] W fun e w' => ∃ v, e = .returned v ∧ Below W.heap.size W w' ∧ t.V w' (Lo w'.heap.size) v) := fun W hW => by
    refine (built_any t.sz t (Nat.le_refl _) cs B W (t.In_same (hB.same hW) (fun _ h => h) cs h) (hB.later hW)).mono ?_
    rintro e w' ⟨v, rfl, hb, hv⟩
    exact ⟨v, rfl, hb, t.V_same (Same.refl _ _) (fun k hk => hk.2) v hv⟩
  have HEn : Hid (∀ W v, t.V W (Lo W.heap.size) v → Calls Try.prog 23 #[v] W fun e w' => e = .returned (.tuple #[.slice none 0 0, .int .i64 t.all.e]) ∧ Below W.heap.size W w') := fun W v hv =>
    Encode_bad t v W.heap.size W (Nat.le_refl _) hv he
  have HRC : Hid (∀ W, Below w.heap.size w W → Calls Try.prog 12 #[.agg cs] W fun e w' => e = .returned (.tuple #[.int .i64 t.cAt, .int .i64 t.all.e]) ∧ Below W.heap.size W w') := fun W hW =>
    refCheck_any t cs B W (t.In_same (hB.same hW) (fun _ h => h) cs h) (hB.later hW)
  obtain ⟨b2, i2, f2, tx2, vb2, rf2, vl2, vf2, c2, vr2, rfl⟩ := Tm.In_box h
  have he' := ne_bool he
  clear h he
  unfold tcells at HBt HRC ⊢
  generalize t.all.e = e0 at *
  go_enter Try.func8, Try.ntmps8
  go_wp2_with fail
  refine (HBt.out _ ((Below.refl _ _).alloc (Nat.le_refl _) _)).mono ?_
  rintro e w1 ⟨v, rfl, hb1, hv1⟩
  have HB1 : Hid _ := hb1
  have HV1 : Hid (t.V w1 (Lo w1.heap.size) v) := hv1
  clear hb1 hv1
  go_wp2_with fail
  refine (HEn.out w1 v HV1.out).mono ?_
  rintro e w2 ⟨rfl, hb2⟩
  have HB2 : Hid _ := below_to HB1.out hb2
  clear hb2
  obtain ⟨t0, t1, t2, t3, t4, t5, t6, t7, t8, t9, t10⟩ := tbox (box_at1 HB2.out).1
  go_wp2_with fail
  refine (HRC.out _ (box_at1 HB2.out).2.1).mono ?_
  rintro e w3 ⟨rfl, hb3⟩
  clear t0 t1 t2 t3 t4 t5 t6 t7 t8 t9 t10
  go_wp2_with fail
  go_ret
  exact ⟨by simp, below_to (box_at1 HB2.out).2.1 hb3⟩

set_option maxRecDepth 100000 in
set_option maxHeartbeats 2000000 in
theorem WireBack_ok (t : Tm) (cs : Array Value) (B : Nat → Prop) (w : World) (h : t.In w B cs) (hB : Sub B w) (he : t.all.e = 0) (ab : Option Addr) (l : ByteArray) (cb : Nat) (hl : l.size ≤ 140737488355328) (hab : BytesAt w B ab l) :
    Calls Try.prog 8 #[.agg cs, .slice ab l.size cb] w fun e w' => e = .returned (.bool true) ∧ Below w.heap.size w w' := by
  have HBt : Hid (∀ W, Below w.heap.size w W → Calls Try.prog 11 #[.agg cs] W fun e w' => ∃ v, e = .returned v ∧ Below W.heap.size W w' ∧ t.V w' (Lo w'.heap.size) v) := fun W hW => by
    refine (built_any t.sz t (Nat.le_refl _) cs B W (t.In_same (hB.same hW) (fun _ h => h) cs h) (hB.later hW)).mono ?_
    rintro e w' ⟨v, rfl, hb, hv⟩
    exact ⟨v, rfl, hb, t.V_same (Same.refl _ _) (fun k hk => hk.2) v hv⟩
  have hbd := Tm.In_bdd t cs h
  have HEn : Hid (∀ W v, t.V W (Lo W.heap.size) v → Calls Try.prog 23 #[v] W fun e w' => ∃ g cap, e = .returned (.tuple #[.slice (some ⟨g, 0, none⟩) t.enc.length cap, .int .i64 0]) ∧ Outs w' W.heap.size (some ⟨g, 0, none⟩) cap t.enc ∧ Below W.heap.size W w') := fun W v hv =>
    Encode_ok t v W.heap.size W (Nat.le_refl _) hv hbd he
  have HI : Hid (∀ W v, Below w.heap.size w W → t.V W (Lo W.heap.size) v → ∀ W', Below W.heap.size W W' → Calls Try.prog 14 #[v, .agg cs] W' fun e w' => e = .returned (.bool true) ∧ Below W'.heap.size W' w') := fun W v hw hv W' hW => by
    have hz := hW.size
    exact Is_any t v cs W' (Lo W'.heap.size) (t.V_same (Same.of_below hW (Nat.le_refl _)) (Lo.le hz) v hv) (t.In_same (hB.same (below_to hw hW)) (fun k hk => Nat.lt_of_lt_of_le (hB k hk) (Nat.le_trans hw.size hz)) cs h) (Sub.lo (Nat.le_refl _)) he
  have HSr : Hid (∀ W, Below w.heap.size w W → Src Try.prog 1 23 (.slice ab l.size cb) l.size (u8s (Sp.bts l)) W) := fun W hW => src_bytes l ab cb B W (hab.same (hB.same hW) (fun _ h => h))
  have HD : Hid (∀ W base g cap m, m = (t.enc ++ Sp.bts l).length → Outs W base (some ⟨g, 0, none⟩) cap (t.enc ++ Sp.bts l) → Calls Try.prog 29 #[.slice (some ⟨g, 0, none⟩) m cap] W fun e w' => ∃ v, e = .returned (.tuple #[v, .int .i64 (t.enc.length : Int), .int .i64 0]) ∧ Below W.heap.size W w' ∧ t.V w' (Lo w'.heap.size) v) := Decode_back t he hbd (Sp.bts l) (bts_by l) (by rw [Sp.bts_len]; exact hl)
  have HK : Hid (∀ W base g cap m, m = (t.enc ++ Sp.bts l).length → Outs W base (some ⟨g, 0, none⟩) cap (t.enc ++ Sp.bts l) → Calls Try.prog 30 #[.slice (some ⟨g, 0, none⟩) m cap] W fun e w' => e = .returned (.tuple #[.int .i64 (t.enc.length : Int), .int .i64 0]) ∧ Below W.heap.size W w') := Skip_back t he hbd (Sp.bts l) (bts_by l) (by rw [Sp.bts_len]; exact hl)
  have hle := Tm.enc_le he hbd
  obtain ⟨i0, hi, hz0, hz1, hz2⟩ := info_parts Try.infoB
  obtain ⟨b2, i2, f2, tx2, vb2, rf2, vl2, vf2, c2, vr2, rfl⟩ := Tm.In_box h
  clear h he hbd hab hB
  unfold tcells at HBt HI ⊢
  have HX : Hid (∀ W, Below (w.alloc (.cells #[.int .i64 t.kind, .bool b2, .int .i64 i2, .float .f64 f2, .string tx2, vb2, .int .u64 rf2, vl2, vf2, .string c2, .int .i64 vr2] 29)).heap.size (w.alloc (.cells #[.int .i64 t.kind, .bool b2, .int .i64 i2, .float .f64 f2, .string tx2, vb2, .int .u64 rf2, vl2, vf2, .string c2, .int .i64 vr2] 29)) W → (W.cell? ⟨w.heap.size, 0, none⟩ = some (.int .i64 t.kind) ∧ W.cell? ⟨w.heap.size, 1, none⟩ = some (.bool b2) ∧ W.cell? ⟨w.heap.size, 2, none⟩ = some (.int .i64 i2) ∧ W.cell? ⟨w.heap.size, 3, none⟩ = some (.float .f64 f2) ∧ W.cell? ⟨w.heap.size, 4, none⟩ = some (.string tx2) ∧ W.cell? ⟨w.heap.size, 5, none⟩ = some vb2 ∧ W.cell? ⟨w.heap.size, 6, none⟩ = some (.int .u64 rf2) ∧ W.cell? ⟨w.heap.size, 7, none⟩ = some vl2 ∧ W.cell? ⟨w.heap.size, 8, none⟩ = some vf2 ∧ W.cell? ⟨w.heap.size, 9, none⟩ = some (.string c2) ∧ W.cell? ⟨w.heap.size, 10, none⟩ = some (.int .i64 vr2)) ∧ Below w.heap.size w W) := fun W hW => ⟨tbox (box_at1 hW).1, (box_at1 hW).2.1⟩
  go_enter Try.func8, Try.ntmps8
  go_wp2_with fail
  refine (HBt.out _ ((Below.refl _ _).alloc (Nat.le_refl _) _)).mono ?_
  rintro e w1 ⟨v, rfl, hb1, hv1⟩
  have HB1 : Hid _ := hb1
  have HV1 : Hid (t.V w1 (Lo w1.heap.size) v) := hv1
  clear hb1 hv1
  go_wp2_with fail
  refine (HEn.out w1 v HV1.out).mono ?_
  rintro e w2 ⟨g, cap, rfl, ho2, hb2⟩
  have HB2 : Hid _ := below_to HB1.out hb2
  have HO2 : Hid (Outs w2 w1.heap.size (some ⟨g, 0, none⟩) cap t.enc) := ho2
  have HO2' : Hid (Outs (w2.alloc (.cells #[] 5)) w1.heap.size (some ⟨g, 0, none⟩) cap t.enc) := outs_call ho2 ((Below.refl _ _).alloc (Nat.le_refl _) _)
  have HE2 : Hid (Outs (w2.alloc (.cells #[] 5)) w2.heap.size (some ⟨w2.heap.size, 0, none⟩) 0 []) := outs_none w2
  clear hb2 ho2
  go_wp2_with (first
    | (at_builtin; have hq := HJ3.out; refine wpList_app_src _ rfl _ _ 23 23 rfl w2.heap.size 5 i0 (.int .u8 0) 1 1 Try.undB hi hz0 hz1 hz2 rfl _ _ _ _ rfl hq.1.1 _ _ _ rfl (HSr.out _ hq.2.2) (by unfold maxLen; omega) (by omega) hq.1.2 ?_; intro g4 c4 w4 hown4 hgrow4 _; have HJ4 : Hid (Outs w4 w2.heap.size (some ⟨g4, 0, none⟩) c4 (t.enc ++ Sp.bts l) ∧ Below w2.heap.size w2 w4) := ⟨(outs_join hq.1 (Below.refl _ _) hown4 (by simp [Sp.bts_len]) hgrow4).1, hq.2.1.trans (outs_join hq.1 (Below.refl _ _) hown4 (by simp [Sp.bts_len]) hgrow4).2⟩; clear hown4 hgrow4 hq)
    | (at_builtin; refine wpList_app_src _ rfl _ _ 23 23 rfl w2.heap.size 5 i0 (.int .u8 0) 1 1 Try.undB hi hz0 hz1 hz2 rfl _ _ _ _ rfl HE2.out.1 _ _ _ rfl (outs_src HO2'.out) (by unfold maxLen; simp; omega) (by simp; omega) HE2.out.2 ?_; intro g3 c3 w3 hown3 hgrow3 _; have HJ3 : Hid (Outs w3 w2.heap.size (some ⟨g3, 0, none⟩) c3 t.enc ∧ Below w2.heap.size w2 w3 ∧ Below w.heap.size w w3) := by
        have hj := outs_join HE2.out (Below.refl _ _) hown3 (by simp) hgrow3
        rw [List.nil_append] at hj
        have hj2 : Below w2.heap.size w2 w3 := ((Below.refl _ _).alloc (Nat.le_refl _) _).trans hj.2
        exact ⟨hj.1, hj2, below_to (HX.out _ HB2.out).2 hj2⟩
       clear hown3 hgrow3))
  refine (HD.out w4 _ g4 c4 _ (by simp [Sp.bts_len]) HJ4.out.1).mono ?_
  rintro e w5 ⟨v5, rfl, hb5, hv5⟩
  have HB5 : Hid (Below w2.heap.size w2 w5) := below_to HJ4.out.2 hb5
  have HV5 : Hid (t.V w5 (Lo w5.heap.size) v5) := hv5
  have HO5 : Hid (Outs (w5.alloc (.cells #[] 5)) w1.heap.size (some ⟨g, 0, none⟩) cap t.enc) := outs_call HO2.out (below_to HB5.out ((Below.refl _ _).alloc (Nat.le_refl _) _))
  have HE5 : Hid (Outs (w5.alloc (.cells #[] 5)) w5.heap.size (some ⟨w5.heap.size, 0, none⟩) 0 []) := outs_none w5
  have HBW5 : Hid (Below w.heap.size w w5) := below_to (HX.out _ HB2.out).2 HB5.out
  clear hb5 hv5 HJ4 HJ3
  go_wp2_with (first
    | (at_builtin; have hq := HJ6.out; refine wpList_app_src _ rfl _ _ 23 23 rfl w5.heap.size 5 i0 (.int .u8 0) 1 1 Try.undB hi hz0 hz1 hz2 rfl _ _ _ _ rfl hq.1.1 _ _ _ rfl (HSr.out _ hq.2.2) (by unfold maxLen; omega) (by omega) hq.1.2 ?_; intro g7 c7 w7 hown7 hgrow7 _; have HJ7 : Hid (Outs w7 w5.heap.size (some ⟨g7, 0, none⟩) c7 (t.enc ++ Sp.bts l) ∧ Below w5.heap.size w5 w7) := ⟨(outs_join hq.1 (Below.refl _ _) hown7 (by simp [Sp.bts_len]) hgrow7).1, hq.2.1.trans (outs_join hq.1 (Below.refl _ _) hown7 (by simp [Sp.bts_len]) hgrow7).2⟩; clear hown7 hgrow7 hq)
    | (at_builtin; refine wpList_app_src _ rfl _ _ 23 23 rfl w5.heap.size 5 i0 (.int .u8 0) 1 1 Try.undB hi hz0 hz1 hz2 rfl _ _ _ _ rfl HE5.out.1 _ _ _ rfl (outs_src HO5.out) (by unfold maxLen; simp; omega) (by simp; omega) HE5.out.2 ?_; intro g6 c6 w6 hown6 hgrow6 _; have HJ6 : Hid (Outs w6 w5.heap.size (some ⟨g6, 0, none⟩) c6 t.enc ∧ Below w5.heap.size w5 w6 ∧ Below w.heap.size w w6) := by
        have hj := outs_join HE5.out (Below.refl _ _) hown6 (by simp) hgrow6
        rw [List.nil_append] at hj
        have hj2 : Below w5.heap.size w5 w6 := ((Below.refl _ _).alloc (Nat.le_refl _) _).trans hj.2
        exact ⟨hj.1, hj2, below_to HBW5.out hj2⟩
       clear hown6 hgrow6))
  refine (HK.out w7 _ g7 c7 _ (by simp [Sp.bts_len]) HJ7.out.1).mono ?_
  rintro e w8 ⟨rfl, hb8⟩
  have HB8 : Hid (Below w5.heap.size w5 w8) := below_to HJ7.out.2 hb8
  clear hb8 HJ7 HJ6
  obtain ⟨z0, z1, z2, z3, z4, z5, z6, z7, z8, z9, z10⟩ := (HX.out _ (below_to HB2.out (below_to HB5.out HB8.out))).1
  go_wp2_with fail
  refine (HI.out w5 v5 HBW5.out HV5.out w8 HB8.out).mono ?_
  rintro e w9 ⟨rfl, hb9⟩
  clear z0 z1 z2 z3 z4 z5 z6 z7 z8 z9 z10
  go_wp2_with fail
  go_ret
  exact ⟨rfl, below_to HBW5.out (below_to HB8.out hb9)⟩
theorem WireBack_any (t : Tm) (cs : Array Value) (B : Nat → Prop) (w : World) (h : t.In w B cs) (hB : Sub B w) (ab : Option Addr) (l : ByteArray) (cb : Nat) (hl : l.size ≤ 140737488355328) (hab : BytesAt w B ab l) :
    Calls Try.prog 8 #[.agg cs, .slice ab l.size cb] w fun e w' => e = .returned (.bool true) ∧ Below w.heap.size w w' := by
  by_cases he : t.all.e = 0
  · exact WireBack_ok t cs B w h hB he ab l cb hl hab
  · exact WireBack_err t cs B w h hB he _
end Go.Proofs.Ytdklpdclbedceaa
