/- tenonlaw03.WireBegins. -/
import Derived.Test.YtjmhodngmfaboaaWBackM
import Derived.Test.YtjmhodngmfaboaaLookB
import Derived.Test.YtjmhodngmfaboaaDecC
import Derived.Test.YtjmhodngmfaboaaEncK
import Derived.Test.YtjmhodngmfaboaaRefCheck
import Derived.Test.YtjmhodngmfaboaaMPlainG
namespace Go.Proofs.Ytjmhodngmfaboaa
open Go.RowKit

theorem outs_srcT {w : World} {base g cap : Nat} {ys : List Int} (h : Outs w base (some ⟨g, 0, none⟩) cap ys) (c : Nat) (hc : c ≤ ys.length) : Src Try.prog 1 23 (.slice (some ⟨g, 0, none⟩) c cap) c (u8s (ys.take c)) w :=
  Src.ofSlice _ Try.undB ⟨g, 0, none⟩ c cap _ (by simp [u8s]; omega) (fun j u hu => h.1.cells (g := g) rfl j u (by
    simp only [u8s, List.getElem?_map, List.getElem?_take] at hu ⊢
    split at hu
    · exact hu
    · simp at hu)) (u8s_one _)
theorem Decode_cut (t : Tm) (he : t.all.e = 0) (hb : t.Bdd) (W : World) (base g cap m c : Nat) (hc : c < t.enc.length) (hm : m = c) (ho : Outs W base (some ⟨g, 0, none⟩) cap (t.enc.take c)) :
    Calls Try.prog 25 #[.slice (some ⟨g, 0, none⟩) m cap] W fun e w' => e = .returned (.tuple #[.nilIface, .int .i64 (c : Int), .int .i64 4]) ∧ Below W.heap.size W w' := by
  subst hm
  have hle := Tm.enc_le he hb
  obtain ⟨hrd, hcp⟩ := outs_rd ho
  have hl : (t.enc.take m).length = m := by rw [List.length_take]; omega
  have := Decode_bad (t.enc.take m) ((Tm.enc_by t (Tm.ok_all he)).take m) m 4 (cut_enc t m hc he hb) (by decide) _ cap W hrd hcp (by rw [hl]; omega)
  rw [hl] at this
  exact this
theorem Skip_cut (t : Tm) (he : t.all.e = 0) (hb : t.Bdd) (W : World) (base g cap m c : Nat) (hc : c < t.enc.length) (hm : m = c) (ho : Outs W base (some ⟨g, 0, none⟩) cap (t.enc.take c)) :
    Calls Try.prog 26 #[.slice (some ⟨g, 0, none⟩) m cap] W fun e w' => e = .returned (.tuple #[.int .i64 0, .int .i64 4]) ∧ Below W.heap.size W w' := by
  subst hm
  have hle := Tm.enc_le he hb
  obtain ⟨hrd, hcp⟩ := outs_rd ho
  have hl : (t.enc.take m).length = m := by rw [List.length_take]; omega
  have := Skip_bad (t.enc.take m) ((Tm.enc_by t (Tm.ok_all he)).take m) m 4 (cut_enc t m hc he hb) (by decide) _ cap W hrd hcp (by rw [hl]; omega)
  rw [hl] at this
  exact this

set_option maxRecDepth 100000 in
set_option maxHeartbeats 2000000 in
theorem WireBegins_err (t : Tm) (cs : Array Value) (B : Nat → Prop) (w : World) (h : t.In w B cs) (hB : Sub B w) (he : t.all.e ≠ 0) (vb : Value) :
    Calls Try.prog 7 #[.agg cs, vb] w fun e w' => e = .returned (.bool true) ∧ Below w.heap.size w w' := by
  have HBt : Hid (∀ W, Below w.heap.size w W → Calls Try.prog 11 #[.agg cs] W fun e w' => ∃ v, e = .returned v ∧ Below W.heap.size W w' ∧ t.V w' (Lo w'.heap.size) v) := fun W hW => by
    refine (built_any t.sz t (Nat.le_refl _) cs B W (t.In_same (hB.same hW) (fun _ h => h) cs h) (hB.later hW)).mono ?_
    rintro e w' ⟨v, rfl, hb, hv⟩
    exact ⟨v, rfl, hb, t.V_same (Same.refl _ _) (fun k hk => hk.2) v hv⟩
  have HEn : Hid (∀ W v, t.V W (Lo W.heap.size) v → Calls Try.prog 23 #[v] W fun e w' => e = .returned (.tuple #[.slice none 0 0, .int .i64 t.all.e]) ∧ Below W.heap.size W w') := fun W v hv =>
    Encode_bad t v W.heap.size W (Nat.le_refl _) hv he
  have HRC : Hid (∀ W, Below w.heap.size w W → Calls Try.prog 12 #[.agg cs] W fun e w' => e = .returned (.tuple #[.int .i64 t.cAt, .int .i64 t.all.e]) ∧ Below W.heap.size W w') := fun W hW =>
    refCheck_any t cs B W (t.In_same (hB.same hW) (fun _ h => h) cs h) (hB.later hW)
  obtain ⟨b2, i2, f2, tx2, vb2, rf2, vl2, vf2, c2, vr2, rfl⟩ := Tm.In_box h
  have he' := ne_bool he
  clear h he
  unfold tcells at HBt HRC ⊢
  generalize t.all.e = e0 at *
  go_enter Try.func7, Try.ntmps7
  go_wp2_with fail
  refine (HBt.out _ ((Below.refl _ _).alloc (Nat.le_refl _) _)).mono ?_
  rintro e w1 ⟨v, rfl, hb1, hv1⟩
  have HB1 : Hid _ := hb1
  have HV1 : Hid (t.V w1 (Lo w1.heap.size) v) := hv1
  clear hb1 hv1
  go_wp2_with fail
  refine (HEn.out w1 v HV1.out).mono ?_
  rintro e w2 ⟨rfl, hb2⟩
  have HB2 : Hid _ := below_to HB1.out hb2
  clear hb2
  obtain ⟨t0, t1, t2, t3, t4, t5, t6, t7, t8, t9, t10⟩ := tbox (box_at1 HB2.out).1
  go_wp2_with fail
  refine (HRC.out _ (box_at1 HB2.out).2.1).mono ?_
  rintro e w3 ⟨rfl, hb3⟩
  clear t0 t1 t2 t3 t4 t5 t6 t7 t8 t9 t10
  go_wp2_with fail
  go_ret
  exact ⟨by simp, below_to (box_at1 HB2.out).2.1 hb3⟩

set_option maxRecDepth 100000 in
set_option maxHeartbeats 2000000 in
theorem WireBegins_in (t : Tm) (cs : Array Value) (B : Nat → Prop) (w : World) (h : t.In w B cs) (hB : Sub B w) (he : t.all.e = 0) (c : Nat) (hc : c < t.enc.length) :
    Calls Try.prog 7 #[.agg cs, .int .i64 (c : Int)] w fun e w' => e = .returned (.bool true) ∧ Below w.heap.size w w' := by
  have HBt : Hid (∀ W, Below w.heap.size w W → Calls Try.prog 11 #[.agg cs] W fun e w' => ∃ v, e = .returned v ∧ Below W.heap.size W w' ∧ t.V w' (Lo w'.heap.size) v) := fun W hW => by
    refine (built_any t.sz t (Nat.le_refl _) cs B W (t.In_same (hB.same hW) (fun _ h => h) cs h) (hB.later hW)).mono ?_
    rintro e w' ⟨v, rfl, hb, hv⟩
    exact ⟨v, rfl, hb, t.V_same (Same.refl _ _) (fun k hk => hk.2) v hv⟩
  have hbd := Tm.In_bdd t cs h
  have hle := Tm.enc_le he hbd
  have hps := t.enc_pos
  obtain ⟨N, hN⟩ : ∃ N, t.enc.length = N + 1 := ⟨t.enc.length - 1, by omega⟩
  have HEn : Hid (∀ W v, t.V W (Lo W.heap.size) v → Calls Try.prog 23 #[v] W fun e w' => ∃ g cap, e = .returned (.tuple #[.slice (some ⟨g, 0, none⟩) (N + 1) cap, .int .i64 0]) ∧ Outs w' W.heap.size (some ⟨g, 0, none⟩) cap t.enc ∧ Below W.heap.size W w') := fun W v hv => by
    have := Encode_ok t v W.heap.size W (Nat.le_refl _) hv hbd he
    rw [hN] at this; exact this
  have HD : Hid (∀ W base g cap m c, c < t.enc.length → m = c → Outs W base (some ⟨g, 0, none⟩) cap (t.enc.take c) → Calls Try.prog 25 #[.slice (some ⟨g, 0, none⟩) m cap] W fun e w' => e = .returned (.tuple #[.nilIface, .int .i64 (c : Int), .int .i64 4]) ∧ Below W.heap.size W w') := Decode_cut t he hbd
  have HK : Hid (∀ W base g cap m c, c < t.enc.length → m = c → Outs W base (some ⟨g, 0, none⟩) cap (t.enc.take c) → Calls Try.prog 26 #[.slice (some ⟨g, 0, none⟩) m cap] W fun e w' => e = .returned (.tuple #[.int .i64 0, .int .i64 4]) ∧ Below W.heap.size W w') := Skip_cut t he hbd
  obtain ⟨i0, hi, hz0, hz1, hz2⟩ := info_parts Try.infoB
  obtain ⟨b2, i2, f2, tx2, vb2, rf2, vl2, vf2, c2, vr2, rfl⟩ := Tm.In_box h
  have h0 : ¬ ((c : Int) < 0) := by omega
  have h1 : ¬ ((N : Int) + 1 ≤ (c : Int)) := by omega
  have HC : Hid (c < t.enc.length) := by show _ < _; omega
  have HN : Hid (t.enc.length = N + 1) := hN
  have hN9 : N ≤ 1081344000 := by omega
  have hc9 : c ≤ 1081344000 := by omega
  have hcN : c ≤ N := by omega
  clear h he hbd hB hle hps hN
  unfold tcells at HBt ⊢
  go_enter Try.func7, Try.ntmps7
  go_wp2_with fail
  refine (HBt.out _ ((Below.refl _ _).alloc (Nat.le_refl _) _)).mono ?_
  rintro e w1 ⟨v, rfl, hb1, hv1⟩
  have HB1 : Hid _ := hb1
  have HV1 : Hid (t.V w1 (Lo w1.heap.size) v) := hv1
  clear hb1 hv1
  go_wp2_with fail
  refine (HEn.out w1 v HV1.out).mono ?_
  rintro e w2 ⟨g, cap, rfl, ho2, hb2⟩
  have HB2 : Hid _ := below_to HB1.out hb2
  have HO2 : Hid (Outs w2 w1.heap.size (some ⟨g, 0, none⟩) cap t.enc) := ho2
  have HO2' : Hid (Outs (w2.alloc (.cells #[] 5)) w1.heap.size (some ⟨g, 0, none⟩) cap t.enc) := outs_call ho2 ((Below.refl _ _).alloc (Nat.le_refl _) _)
  have HE2 : Hid (Outs (w2.alloc (.cells #[] 5)) w2.heap.size (some ⟨w2.heap.size, 0, none⟩) 0 []) := outs_none w2
  have hcap : N + 1 ≤ cap := by have := (outs_rd ho2).2; rw [HN.out] at this; exact this
  clear hb2 ho2
  go_wp2_with (first
    | (at_builtin; refine wpList_app_src _ rfl _ _ 23 23 rfl w2.heap.size 5 i0 (.int .u8 0) 1 1 Try.undB hi hz0 hz1 hz2 rfl _ _ _ _ rfl HE2.out.1 _ _ _ rfl (outs_srcT HO2'.out c (Nat.le_of_lt HC.out)) (by unfold maxLen; simp; omega) (by simp; omega) HE2.out.2 ?_; intro g3 c3 w3 hown3 hgrow3 _; have HJ3 : Hid (Outs w3 w2.heap.size (some ⟨g3, 0, none⟩) c3 (t.enc.take c) ∧ Below w2.heap.size w2 w3) := by
        have hj := outs_join HE2.out (Below.refl _ _) hown3 (by have := HC.out; simp; omega) hgrow3
        rw [List.nil_append] at hj
        exact ⟨hj.1, ((Below.refl _ _).alloc (Nat.le_refl _) _).trans hj.2⟩
       clear hown3 hgrow3))
  refine (HD.out w3 _ g3 c3 _ c HC.out (by omega) HJ3.out.1).mono ?_
  rintro e w5 ⟨rfl, hb5⟩
  have HB5 : Hid (Below w2.heap.size w2 w5) := below_to HJ3.out.2 hb5
  have HO5 : Hid (Outs (w5.alloc (.cells #[] 5)) w1.heap.size (some ⟨g, 0, none⟩) cap t.enc) := outs_call HO2.out (below_to HB5.out ((Below.refl _ _).alloc (Nat.le_refl _) _))
  have HE5 : Hid (Outs (w5.alloc (.cells #[] 5)) w5.heap.size (some ⟨w5.heap.size, 0, none⟩) 0 []) := outs_none w5
  have HBW5 : Hid (Below w.heap.size w w5) := below_to (box_at1 HB2.out).2.1 HB5.out
  clear hb5 HJ3
  go_wp2_with (first
    | (at_builtin; refine wpList_app_src _ rfl _ _ 23 23 rfl w5.heap.size 5 i0 (.int .u8 0) 1 1 Try.undB hi hz0 hz1 hz2 rfl _ _ _ _ rfl HE5.out.1 _ _ _ rfl (outs_srcT HO5.out c (Nat.le_of_lt HC.out)) (by unfold maxLen; simp; omega) (by simp; omega) HE5.out.2 ?_; intro g6 c6 w6 hown6 hgrow6 _; have HJ6 : Hid (Outs w6 w5.heap.size (some ⟨g6, 0, none⟩) c6 (t.enc.take c) ∧ Below w5.heap.size w5 w6) := by
        have hj := outs_join HE5.out (Below.refl _ _) hown6 (by have := HC.out; simp; omega) hgrow6
        rw [List.nil_append] at hj
        exact ⟨hj.1, ((Below.refl _ _).alloc (Nat.le_refl _) _).trans hj.2⟩
       clear hown6 hgrow6))
  refine (HK.out w6 _ g6 c6 _ c HC.out (by omega) HJ6.out.1).mono ?_
  rintro e w8 ⟨rfl, hb8⟩
  have HB8 : Hid (Below w5.heap.size w5 w8) := below_to HJ6.out.2 hb8
  clear hb8 HJ6
  go_wp2_with fail
  go_ret
  exact ⟨rfl, below_to HBW5.out HB8.out⟩

set_option maxRecDepth 100000 in
set_option maxHeartbeats 2000000 in
theorem WireBegins_lo (t : Tm) (cs : Array Value) (B : Nat → Prop) (w : World) (h : t.In w B cs) (hB : Sub B w) (he : t.all.e = 0) (x : Int) (hx : x < 0) :
    Calls Try.prog 7 #[.agg cs, .int .i64 x] w fun e w' => e = .returned (.bool true) ∧ Below w.heap.size w w' := by
  have HBt : Hid (∀ W, Below w.heap.size w W → Calls Try.prog 11 #[.agg cs] W fun e w' => ∃ v, e = .returned v ∧ Below W.heap.size W w' ∧ t.V w' (Lo w'.heap.size) v) := fun W hW => by
    refine (built_any t.sz t (Nat.le_refl _) cs B W (t.In_same (hB.same hW) (fun _ h => h) cs h) (hB.later hW)).mono ?_
    rintro e w' ⟨v, rfl, hb, hv⟩
    exact ⟨v, rfl, hb, t.V_same (Same.refl _ _) (fun k hk => hk.2) v hv⟩
  have hbd := Tm.In_bdd t cs h
  have hle := Tm.enc_le he hbd
  have hps := t.enc_pos
  obtain ⟨c, hN⟩ : ∃ N, t.enc.length = N + 1 := ⟨t.enc.length - 1, by omega⟩
  have HEn : Hid (∀ W v, t.V W (Lo W.heap.size) v → Calls Try.prog 23 #[v] W fun e w' => ∃ g cap, e = .returned (.tuple #[.slice (some ⟨g, 0, none⟩) (c + 1) cap, .int .i64 0]) ∧ Outs w' W.heap.size (some ⟨g, 0, none⟩) cap t.enc ∧ Below W.heap.size W w') := fun W v hv => by
    have := Encode_ok t v W.heap.size W (Nat.le_refl _) hv hbd he
    rw [hN] at this; exact this
  have HD : Hid (∀ W base g cap m c, c < t.enc.length → m = c → Outs W base (some ⟨g, 0, none⟩) cap (t.enc.take c) → Calls Try.prog 25 #[.slice (some ⟨g, 0, none⟩) m cap] W fun e w' => e = .returned (.tuple #[.nilIface, .int .i64 (c : Int), .int .i64 4]) ∧ Below W.heap.size W w') := Decode_cut t he hbd
  have HK : Hid (∀ W base g cap m c, c < t.enc.length → m = c → Outs W base (some ⟨g, 0, none⟩) cap (t.enc.take c) → Calls Try.prog 26 #[.slice (some ⟨g, 0, none⟩) m cap] W fun e w' => e = .returned (.tuple #[.int .i64 0, .int .i64 4]) ∧ Below W.heap.size W w') := Skip_cut t he hbd
  obtain ⟨i0, hi, hz0, hz1, hz2⟩ := info_parts Try.infoB
  obtain ⟨b2, i2, f2, tx2, vb2, rf2, vl2, vf2, c2, vr2, rfl⟩ := Tm.In_box h
  have h0 : x < 0 := hx
  have HC : Hid (c < t.enc.length) := by show _ < _; omega
  have HN : Hid (t.enc.length = c + 1) := hN
  have hN9 : c ≤ 1081344000 := by omega
  have hc9 : c ≤ 1081344000 := by omega
  have hcN : c ≤ c := by omega
  clear h he hbd hB hle hps hN
  unfold tcells at HBt ⊢
  go_enter Try.func7, Try.ntmps7
  go_wp2_with fail
  refine (HBt.out _ ((Below.refl _ _).alloc (Nat.le_refl _) _)).mono ?_
  rintro e w1 ⟨v, rfl, hb1, hv1⟩
  have HB1 : Hid _ := hb1
  have HV1 : Hid (t.V w1 (Lo w1.heap.size) v) := hv1
  clear hb1 hv1
  go_wp2_with fail
  refine (HEn.out w1 v HV1.out).mono ?_
  rintro e w2 ⟨g, cap, rfl, ho2, hb2⟩
  have HB2 : Hid _ := below_to HB1.out hb2
  have HO2 : Hid (Outs w2 w1.heap.size (some ⟨g, 0, none⟩) cap t.enc) := ho2
  have HO2' : Hid (Outs (w2.alloc (.cells #[] 5)) w1.heap.size (some ⟨g, 0, none⟩) cap t.enc) := outs_call ho2 ((Below.refl _ _).alloc (Nat.le_refl _) _)
  have HE2 : Hid (Outs (w2.alloc (.cells #[] 5)) w2.heap.size (some ⟨w2.heap.size, 0, none⟩) 0 []) := outs_none w2
  have hcap : c + 1 ≤ cap := by have := (outs_rd ho2).2; rw [HN.out] at this; exact this
  clear hb2 ho2
  go_wp2_with (first
    | (at_builtin; refine wpList_app_src _ rfl _ _ 23 23 rfl w2.heap.size 5 i0 (.int .u8 0) 1 1 Try.undB hi hz0 hz1 hz2 rfl _ _ _ _ rfl HE2.out.1 _ _ _ rfl (outs_srcT HO2'.out c (Nat.le_of_lt HC.out)) (by unfold maxLen; simp; omega) (by simp; omega) HE2.out.2 ?_; intro g3 c3 w3 hown3 hgrow3 _; have HJ3 : Hid (Outs w3 w2.heap.size (some ⟨g3, 0, none⟩) c3 (t.enc.take c) ∧ Below w2.heap.size w2 w3) := by
        have hj := outs_join HE2.out (Below.refl _ _) hown3 (by have := HC.out; simp; omega) hgrow3
        rw [List.nil_append] at hj
        exact ⟨hj.1, ((Below.refl _ _).alloc (Nat.le_refl _) _).trans hj.2⟩
       clear hown3 hgrow3))
  refine (HD.out w3 _ g3 c3 _ c HC.out (by omega) HJ3.out.1).mono ?_
  rintro e w5 ⟨rfl, hb5⟩
  have HB5 : Hid (Below w2.heap.size w2 w5) := below_to HJ3.out.2 hb5
  have HO5 : Hid (Outs (w5.alloc (.cells #[] 5)) w1.heap.size (some ⟨g, 0, none⟩) cap t.enc) := outs_call HO2.out (below_to HB5.out ((Below.refl _ _).alloc (Nat.le_refl _) _))
  have HE5 : Hid (Outs (w5.alloc (.cells #[] 5)) w5.heap.size (some ⟨w5.heap.size, 0, none⟩) 0 []) := outs_none w5
  have HBW5 : Hid (Below w.heap.size w w5) := below_to (box_at1 HB2.out).2.1 HB5.out
  clear hb5 HJ3
  go_wp2_with (first
    | (at_builtin; refine wpList_app_src _ rfl _ _ 23 23 rfl w5.heap.size 5 i0 (.int .u8 0) 1 1 Try.undB hi hz0 hz1 hz2 rfl _ _ _ _ rfl HE5.out.1 _ _ _ rfl (outs_srcT HO5.out c (Nat.le_of_lt HC.out)) (by unfold maxLen; simp; omega) (by simp; omega) HE5.out.2 ?_; intro g6 c6 w6 hown6 hgrow6 _; have HJ6 : Hid (Outs w6 w5.heap.size (some ⟨g6, 0, none⟩) c6 (t.enc.take c) ∧ Below w5.heap.size w5 w6) := by
        have hj := outs_join HE5.out (Below.refl _ _) hown6 (by have := HC.out; simp; omega) hgrow6
        rw [List.nil_append] at hj
        exact ⟨hj.1, ((Below.refl _ _).alloc (Nat.le_refl _) _).trans hj.2⟩
       clear hown6 hgrow6))
  refine (HK.out w6 _ g6 c6 _ c HC.out (by omega) HJ6.out.1).mono ?_
  rintro e w8 ⟨rfl, hb8⟩
  have HB8 : Hid (Below w5.heap.size w5 w8) := below_to HJ6.out.2 hb8
  clear hb8 HJ6
  go_wp2_with fail
  go_ret
  exact ⟨rfl, below_to HBW5.out HB8.out⟩

set_option maxRecDepth 100000 in
set_option maxHeartbeats 2000000 in
theorem WireBegins_hi (t : Tm) (cs : Array Value) (B : Nat → Prop) (w : World) (h : t.In w B cs) (hB : Sub B w) (he : t.all.e = 0) (x : Int) (hx : (t.enc.length : Int) ≤ x) :
    Calls Try.prog 7 #[.agg cs, .int .i64 x] w fun e w' => e = .returned (.bool true) ∧ Below w.heap.size w w' := by
  have HBt : Hid (∀ W, Below w.heap.size w W → Calls Try.prog 11 #[.agg cs] W fun e w' => ∃ v, e = .returned v ∧ Below W.heap.size W w' ∧ t.V w' (Lo w'.heap.size) v) := fun W hW => by
    refine (built_any t.sz t (Nat.le_refl _) cs B W (t.In_same (hB.same hW) (fun _ h => h) cs h) (hB.later hW)).mono ?_
    rintro e w' ⟨v, rfl, hb, hv⟩
    exact ⟨v, rfl, hb, t.V_same (Same.refl _ _) (fun k hk => hk.2) v hv⟩
  have hbd := Tm.In_bdd t cs h
  have hle := Tm.enc_le he hbd
  have hps := t.enc_pos
  obtain ⟨c, hN⟩ : ∃ N, t.enc.length = N + 1 := ⟨t.enc.length - 1, by omega⟩
  have HEn : Hid (∀ W v, t.V W (Lo W.heap.size) v → Calls Try.prog 23 #[v] W fun e w' => ∃ g cap, e = .returned (.tuple #[.slice (some ⟨g, 0, none⟩) (c + 1) cap, .int .i64 0]) ∧ Outs w' W.heap.size (some ⟨g, 0, none⟩) cap t.enc ∧ Below W.heap.size W w') := fun W v hv => by
    have := Encode_ok t v W.heap.size W (Nat.le_refl _) hv hbd he
    rw [hN] at this; exact this
  have HD : Hid (∀ W base g cap m c, c < t.enc.length → m = c → Outs W base (some ⟨g, 0, none⟩) cap (t.enc.take c) → Calls Try.prog 25 #[.slice (some ⟨g, 0, none⟩) m cap] W fun e w' => e = .returned (.tuple #[.nilIface, .int .i64 (c : Int), .int .i64 4]) ∧ Below W.heap.size W w') := Decode_cut t he hbd
  have HK : Hid (∀ W base g cap m c, c < t.enc.length → m = c → Outs W base (some ⟨g, 0, none⟩) cap (t.enc.take c) → Calls Try.prog 26 #[.slice (some ⟨g, 0, none⟩) m cap] W fun e w' => e = .returned (.tuple #[.int .i64 0, .int .i64 4]) ∧ Below W.heap.size W w') := Skip_cut t he hbd
  obtain ⟨i0, hi, hz0, hz1, hz2⟩ := info_parts Try.infoB
  obtain ⟨b2, i2, f2, tx2, vb2, rf2, vl2, vf2, c2, vr2, rfl⟩ := Tm.In_box h
  have h0 : ¬ (x < 0) := by omega
  have h1 : (c : Int) + 1 ≤ x := by omega
  clear hx
  have HC : Hid (c < t.enc.length) := by show _ < _; omega
  have HN : Hid (t.enc.length = c + 1) := hN
  have hN9 : c ≤ 1081344000 := by omega
  have hc9 : c ≤ 1081344000 := by omega
  have hcN : c ≤ c := by omega
  clear h he hbd hB hle hps hN
  unfold tcells at HBt ⊢
  go_enter Try.func7, Try.ntmps7
  go_wp2_with fail
  refine (HBt.out _ ((Below.refl _ _).alloc (Nat.le_refl _) _)).mono ?_
  rintro e w1 ⟨v, rfl, hb1, hv1⟩
  have HB1 : Hid _ := hb1
  have HV1 : Hid (t.V w1 (Lo w1.heap.size) v) := hv1
  clear hb1 hv1
  go_wp2_with fail
  refine (HEn.out w1 v HV1.out).mono ?_
  rintro e w2 ⟨g, cap, rfl, ho2, hb2⟩
  have HB2 : Hid _ := below_to HB1.out hb2
  have HO2 : Hid (Outs w2 w1.heap.size (some ⟨g, 0, none⟩) cap t.enc) := ho2
  have HO2' : Hid (Outs (w2.alloc (.cells #[] 5)) w1.heap.size (some ⟨g, 0, none⟩) cap t.enc) := outs_call ho2 ((Below.refl _ _).alloc (Nat.le_refl _) _)
  have HE2 : Hid (Outs (w2.alloc (.cells #[] 5)) w2.heap.size (some ⟨w2.heap.size, 0, none⟩) 0 []) := outs_none w2
  have hcap : c + 1 ≤ cap := by have := (outs_rd ho2).2; rw [HN.out] at this; exact this
  clear hb2 ho2
  go_wp2_with (first
    | (at_builtin; refine wpList_app_src _ rfl _ _ 23 23 rfl w2.heap.size 5 i0 (.int .u8 0) 1 1 Try.undB hi hz0 hz1 hz2 rfl _ _ _ _ rfl HE2.out.1 _ _ _ rfl (outs_srcT HO2'.out c (Nat.le_of_lt HC.out)) (by unfold maxLen; simp; omega) (by simp; omega) HE2.out.2 ?_; intro g3 c3 w3 hown3 hgrow3 _; have HJ3 : Hid (Outs w3 w2.heap.size (some ⟨g3, 0, none⟩) c3 (t.enc.take c) ∧ Below w2.heap.size w2 w3) := by
        have hj := outs_join HE2.out (Below.refl _ _) hown3 (by have := HC.out; simp; omega) hgrow3
        rw [List.nil_append] at hj
        exact ⟨hj.1, ((Below.refl _ _).alloc (Nat.le_refl _) _).trans hj.2⟩
       clear hown3 hgrow3))
  refine (HD.out w3 _ g3 c3 _ c HC.out (by omega) HJ3.out.1).mono ?_
  rintro e w5 ⟨rfl, hb5⟩
  have HB5 : Hid (Below w2.heap.size w2 w5) := below_to HJ3.out.2 hb5
  have HO5 : Hid (Outs (w5.alloc (.cells #[] 5)) w1.heap.size (some ⟨g, 0, none⟩) cap t.enc) := outs_call HO2.out (below_to HB5.out ((Below.refl _ _).alloc (Nat.le_refl _) _))
  have HE5 : Hid (Outs (w5.alloc (.cells #[] 5)) w5.heap.size (some ⟨w5.heap.size, 0, none⟩) 0 []) := outs_none w5
  have HBW5 : Hid (Below w.heap.size w w5) := below_to (box_at1 HB2.out).2.1 HB5.out
  clear hb5 HJ3
  go_wp2_with (first
    | (at_builtin; refine wpList_app_src _ rfl _ _ 23 23 rfl w5.heap.size 5 i0 (.int .u8 0) 1 1 Try.undB hi hz0 hz1 hz2 rfl _ _ _ _ rfl HE5.out.1 _ _ _ rfl (outs_srcT HO5.out c (Nat.le_of_lt HC.out)) (by unfold maxLen; simp; omega) (by simp; omega) HE5.out.2 ?_; intro g6 c6 w6 hown6 hgrow6 _; have HJ6 : Hid (Outs w6 w5.heap.size (some ⟨g6, 0, none⟩) c6 (t.enc.take c) ∧ Below w5.heap.size w5 w6) := by
        have hj := outs_join HE5.out (Below.refl _ _) hown6 (by have := HC.out; simp; omega) hgrow6
        rw [List.nil_append] at hj
        exact ⟨hj.1, ((Below.refl _ _).alloc (Nat.le_refl _) _).trans hj.2⟩
       clear hown6 hgrow6))
  refine (HK.out w6 _ g6 c6 _ c HC.out (by omega) HJ6.out.1).mono ?_
  rintro e w8 ⟨rfl, hb8⟩
  have HB8 : Hid (Below w5.heap.size w5 w8) := below_to HJ6.out.2 hb8
  clear hb8 HJ6
  go_wp2_with fail
  go_ret
  exact ⟨rfl, below_to HBW5.out HB8.out⟩
theorem WireBegins_any (t : Tm) (cs : Array Value) (B : Nat → Prop) (w : World) (h : t.In w B cs) (hB : Sub B w) (x : Int) :
    Calls Try.prog 7 #[.agg cs, .int .i64 x] w fun e w' => e = .returned (.bool true) ∧ Below w.heap.size w w' := by
  by_cases he : t.all.e = 0
  · by_cases h0 : x < 0
    · exact WireBegins_lo t cs B w h hB he x h0
    · by_cases h1 : (t.enc.length : Int) ≤ x
      · exact WireBegins_hi t cs B w h hB he x h1
      · obtain ⟨c, rfl⟩ := Int.eq_ofNat_of_zero_le (show 0 ≤ x by omega)
        exact WireBegins_in t cs B w h hB he c (by omega)
  · exact WireBegins_err t cs B w h hB he _
end Go.Proofs.Ytjmhodngmfaboaa
