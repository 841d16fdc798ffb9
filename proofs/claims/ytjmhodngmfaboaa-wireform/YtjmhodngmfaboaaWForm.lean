/- tenonlaw03.WireForm, case by case. -/
import Derived.Test.YtjmhodngmfaboaaWBackM
import Derived.Test.YtjmhodngmfaboaaLookB
import Derived.Test.YtjmhodngmfaboaaDecS
import Derived.Test.YtjmhodngmfaboaaDecH
import Derived.Test.YtjmhodngmfaboaaXSameG
import Derived.Test.YtjmhodngmfaboaaWSameX
import Derived.Test.YtjmhodngmfaboaaEncK
import Derived.Test.YtjmhodngmfaboaaSameV
import Derived.Test.YtjmhodngmfaboaaTwo
import Derived.Deep.RegionHeld3
namespace Go.Proofs.Ytjmhodngmfaboaa
open Go.RowKit

/-- nil, as a term -/
def nilT : Tm := .mk 1 false 0 0 ByteArray.empty ByteArray.empty 0 .nil .nil ByteArray.empty 0
theorem nilT_V (w : World) (B : Nat → Prop) : nilT.V w B .nilIface := by simp [nilT, Tm.V]
theorem nilT_enc : nilT.enc = [1] := by rw [nilT, Tm.enc_1]
theorem Encode_nil (W : World) : Calls Try.prog 23 #[.nilIface] W fun e w' => ∃ g cap, e = .returned (.tuple #[.slice (some ⟨g, 0, none⟩) 1 cap, .int .i64 0]) ∧ w'.cell? ⟨g, 0, none⟩ = some (.int .u8 1) ∧ Below W.heap.size W w' := by
  refine (Encode_ok nilT .nilIface 0 W (Nat.zero_le _) (nilT_V _ _) (by simp [nilT, Tm.Bdd, TmL.Bdd, TmF.Bdd]) rfl).mono ?_
  rintro e w' ⟨g, cap, rfl, ho, hb⟩
  rw [nilT_enc] at ho
  obtain ⟨hrd, _⟩ := outs_rd ho
  obtain ⟨g', o', e', _, hc⟩ := hrd 0 1 rfl
  simp only [Option.some.injEq, Addr.mk.injEq, and_true] at e'
  obtain ⟨rfl, rfl⟩ := e'
  exact ⟨g, cap, by rw [nilT_enc]; rfl, hc, hb⟩
theorem rd_bts {w : World} {B : Nat → Prop} {a : Option Addr} {l : ByteArray} (h : BytesAt w B a l) : RdB w B a (Sp.bts l) := fun j u hu => by
  have hj : j < l.size := by have := (List.getElem?_eq_some_iff.1 hu).1; rw [Sp.bts_len] at this; exact this
  obtain ⟨g, o, e, hg, hc⟩ := h j hj
  refine ⟨g, o, e, hg, ?_⟩
  have : u = Sp.byte l j := by
    simp only [Sp.bts, List.getElem?_map] at hu
    rw [List.getElem?_range hj] at hu
    simpa using hu.symm
  rw [this]; exact hc
/-- what Decode answers of bytes in a new row, where it takes them -/
theorem Decode_form (l : ByteArray) (t : Tm) (p2 n : Nat) (hr : Sp.rdV (Sp.bts l) 64 0 0 = .ok (t, p2) n) (hl : l.size ≤ 140737488355328) (W : World) (base g cap m : Nat) (hm : m = l.size) (ho : Outs W base (some ⟨g, 0, none⟩) cap (Sp.bts l)) :
    Calls Try.prog 25 #[.slice (some ⟨g, 0, none⟩) m cap] W fun e w' => ∃ v, e = .returned (.tuple #[v, .int .i64 (n : Int), .int .i64 0]) ∧ Below W.heap.size W w' ∧ t.V w' (Lo w'.heap.size) v := by
  subst hm
  obtain ⟨h1, h2, h3, h4, h5, h6⟩ := rd_snd (bts_by l) hr
  obtain ⟨q, hq⟩ := rd_enc t [] h1 h2
  rw [List.append_nil, h3, ← h4, ← h6] at hq
  obtain ⟨hrd, hcp⟩ := outs_rd ho
  have := Decode_ok (Sp.bts l) (bts_by l) t p2 q n hr hq h5 g 0 cap W hrd hcp (by rw [Sp.bts_len]; omega)
  rw [Sp.bts_len] at this
  refine this.mono ?_
  rintro e w' ⟨v, rfl, hb', hv⟩
  exact ⟨v, rfl, hb', t.V_same (Same.refl _ _) (fun k hk => hk.2) v hv⟩
theorem Decode_formB (l : ByteArray) (q : Nat) (er : Int) (hr : Sp.rdV (Sp.bts l) 64 0 0 = .bad q er) (her : er ≠ 0) (hl : l.size ≤ 140737488355328) (W : World) (base g cap m : Nat) (hm : m = l.size) (ho : Outs W base (some ⟨g, 0, none⟩) cap (Sp.bts l)) :
    Calls Try.prog 25 #[.slice (some ⟨g, 0, none⟩) m cap] W fun e w' => e = .returned (.tuple #[.nilIface, .int .i64 (q : Int), .int .i64 er]) ∧ Below W.heap.size W w' := by
  subst hm
  obtain ⟨hrd, hcp⟩ := outs_rd ho
  have := Decode_bad (Sp.bts l) (bts_by l) q er hr her _ cap W hrd hcp (by rw [Sp.bts_len]; omega)
  rw [Sp.bts_len] at this
  exact this
theorem outs_rdO {w : World} {base : Nat} {a : Option Addr} {cap : Nat} {xs : List Int} (h : Outs w base a cap xs) : RdB w (Lo w.heap.size) a xs := by
  cases a with
  | none =>
    intro j u hu
    have hp : 0 < xs.length := by have := (List.getElem?_eq_some_iff.1 hu).1; omega
    obtain ⟨g, e⟩ := h.some hp
    simp at e
  | some p =>
    intro j u hu
    have hp : 0 < xs.length := by have := (List.getElem?_eq_some_iff.1 hu).1; omega
    obtain ⟨g, e⟩ := h.some hp
    injection e with e
    subst e
    exact (outs_rd h).1 j u hu
theorem outs_low {w : World} {base : Nat} {a : Option Addr} {cap : Nat} {xs : List Int} (h : Outs w base a cap xs) : Outs w 0 a cap xs := by
  refine ⟨⟨h.1.1, ?_⟩, Nat.zero_le _⟩
  rcases h.1.2 with hh | ⟨g, c, cur, e1, _, h3⟩
  · exact .inl hh
  · exact .inr ⟨g, c, cur, e1, Nat.zero_le _, h3⟩

set_option maxRecDepth 100000 in
set_option maxHeartbeats 4000000 in
theorem WForm_eo (x y : Tm) (cs ct : Array Value) (B : Nat → Prop) (w : World) (hx : x.In w B cs) (hy : y.In w B ct) (hB : Sub B w) (ab : Option Addr) (l : ByteArray) (cb : Nat) (hl : l.size ≤ 140737488355328) (hab : BytesAt w B ab l) (he : x.all.e ≠ 0) (hcb : l.size ≤ cb) (t : Tm) (p2 n : Nat) (hr : Sp.rdV (Sp.bts l) 64 0 0 = .ok (t, p2) n) :
    Calls Try.prog 6 #[.agg cs, .agg ct, .slice ab l.size cb] w fun e w' => e = .returned (.bool true) ∧ Below w.heap.size w w' := by
  have bx := Tm.In_bdd x cs hx
  have b_y := Tm.In_bdd y ct hy
  have HBx : Hid (∀ W, Below w.heap.size w W → Calls Try.prog 11 #[.agg cs] W fun e w' => ∃ v, e = .returned v ∧ Below W.heap.size W w' ∧ x.V w' (Lo w'.heap.size) v) := fun W hW => by
    refine (built_any x.sz x (Nat.le_refl _) cs B W (x.In_same (hB.same hW) (fun _ h => h) cs hx) (hB.later hW)).mono ?_
    rintro e w' ⟨v, rfl, hb, hv⟩
    exact ⟨v, rfl, hb, x.V_same (Same.refl _ _) (fun k hk => hk.2) v hv⟩
  have HBy : Hid (∀ W, Below w.heap.size w W → Calls Try.prog 11 #[.agg ct] W fun e w' => ∃ v, e = .returned v ∧ Below W.heap.size W w' ∧ y.V w' (Lo w'.heap.size) v) := fun W hW => by
    refine (built_any y.sz y (Nat.le_refl _) ct B W (y.In_same (hB.same hW) (fun _ h => h) ct hy) (hB.later hW)).mono ?_
    rintro e w' ⟨v, rfl, hb, hv⟩
    exact ⟨v, rfl, hb, y.V_same (Same.refl _ _) (fun k hk => hk.2) v hv⟩
  have HEx : Hid (∀ W v, x.V W (Lo W.heap.size) v → Calls Try.prog 23 #[v] W (EncE x W)) := fun W v hv => Encode_all x v W.heap.size W (Nat.le_refl _) hv bx
  have HEy : Hid (∀ W v, y.V W (Lo W.heap.size) v → Calls Try.prog 23 #[v] W (EncE y W)) := fun W v hv => Encode_all y v W.heap.size W (Nat.le_refl _) hv b_y
  have HSr : Hid (∀ W, Below w.heap.size w W → Src Try.prog 1 23 (.slice ab l.size cb) l.size (u8s (Sp.bts l)) W) := fun W hW => src_bytes l ab cb B W (hab.same (hB.same hW) (fun _ h => h))
  have HNil : Hid (∀ W, Calls Try.prog 23 #[.nilIface] W fun e w' => ∃ g cap, e = .returned (.tuple #[.slice (some ⟨g, 0, none⟩) 1 cap, .int .i64 0]) ∧ w'.cell? ⟨g, 0, none⟩ = some (.int .u8 1) ∧ Below W.heap.size W w') := Encode_nil
  obtain ⟨h1, h2, h3, h4, h5, h6⟩ := rd_snd (bts_by l) hr
  rw [Sp.bts_len] at h5
  have hpos := t.enc_pos
  have hlt := Tm.enc_le h1 h2
  have HD : Hid (∀ W base g cap m, m = l.size → Outs W base (some ⟨g, 0, none⟩) cap (Sp.bts l) → Calls Try.prog 25 #[.slice (some ⟨g, 0, none⟩) m cap] W fun e w' => ∃ v, e = .returned (.tuple #[v, .int .i64 (n : Int), .int .i64 0]) ∧ Below W.heap.size W w' ∧ t.V w' (Lo w'.heap.size) v) := Decode_form l t p2 n hr hl
  have HET : Hid (∀ W v, t.V W (Lo W.heap.size) v → Calls Try.prog 23 #[v] W fun e w' => ∃ g cap, e = .returned (.tuple #[.slice (some ⟨g, 0, none⟩) n cap, .int .i64 0]) ∧ Outs w' W.heap.size (some ⟨g, 0, none⟩) cap t.enc ∧ Below W.heap.size W w') := fun W v hv => by
    have := Encode_ok t v W.heap.size W (Nat.le_refl _) hv h2 h1
    rw [← h4] at this; exact this
  obtain ⟨gb, ob, rfl⟩ : ∃ gb ob, ab = some ⟨gb, ob, none⟩ := by
    obtain ⟨g, o, e, _⟩ := hab 0 (by omega)
    exact ⟨g, o, e⟩
  have HSA : Hid (∀ W g cap, Below w.heap.size w W → Outs W 0 (some ⟨g, 0, none⟩) cap t.enc → Calls Try.prog 24 #[.slice (some ⟨g, 0, none⟩) n cap, .slice (some ⟨gb, ob, none⟩) n cb] W fun e w' => e = .returned (.bool true) ∧ Below W.heap.size W w') := fun W g cap hW ho => by
    have hrd := rd_bts (hab.same (hB.same hW) (fun k hk => hB.later hW k hk))
    have := wsame_dec t.enc ((Sp.bts l).take n) (some ⟨g, 0, none⟩) (some ⟨gb, ob, none⟩) cap cb W n n h4 (by rw [List.length_take, Sp.bts_len]; omega) (by omega) (outs_rd ho).1 (hrd.take n)
    rw [h6, decide_eq_true rfl] at this; exact this
  have hn1 : 1 ≤ n := by omega
  have hn2 : n ≤ l.size := by omega
  clear h1 h2 h3 h4 h5 h6 hr hpos hlt
  obtain ⟨i0, hi, hz0, hz1, hz2⟩ := info_parts Try.infoB
  obtain ⟨b1, i1, f1, tx1, vb1, rf1, vl1, vf1, c1, vr1, rfl⟩ := Tm.In_box hx
  obtain ⟨b2, i2, f2, tx2, vb2, rf2, vl2, vf2, c2, vr2, rfl⟩ := Tm.In_box hy
  unfold tcells at HBx HBy ⊢
  have H0 : Hid (Below w.heap.size w (two w #[.int .i64 x.kind, .bool b1, .int .i64 i1, .float .f64 f1, .string tx1, vb1, .int .u64 rf1, vl1, vf1, .string c1, .int .i64 vr1] #[.int .i64 y.kind, .bool b2, .int .i64 i2, .float .f64 f2, .string tx2, vb2, .int .u64 rf2, vl2, vf2, .string c2, .int .i64 vr2])) := two_bel _ _ _
  have HX : Hid (∀ W, Below (two w #[.int .i64 x.kind, .bool b1, .int .i64 i1, .float .f64 f1, .string tx1, vb1, .int .u64 rf1, vl1, vf1, .string c1, .int .i64 vr1] #[.int .i64 y.kind, .bool b2, .int .i64 i2, .float .f64 f2, .string tx2, vb2, .int .u64 rf2, vl2, vf2, .string c2, .int .i64 vr2]).heap.size (two w #[.int .i64 x.kind, .bool b1, .int .i64 i1, .float .f64 f1, .string tx1, vb1, .int .u64 rf1, vl1, vf1, .string c1, .int .i64 vr1] #[.int .i64 y.kind, .bool b2, .int .i64 i2, .float .f64 f2, .string tx2, vb2, .int .u64 rf2, vl2, vf2, .string c2, .int .i64 vr2]) W → (W.cell? ⟨w.heap.size, 0, none⟩ = some (.int .i64 x.kind) ∧ W.cell? ⟨w.heap.size, 1, none⟩ = some (.bool b1) ∧ W.cell? ⟨w.heap.size, 2, none⟩ = some (.int .i64 i1) ∧ W.cell? ⟨w.heap.size, 3, none⟩ = some (.float .f64 f1) ∧ W.cell? ⟨w.heap.size, 4, none⟩ = some (.string tx1) ∧ W.cell? ⟨w.heap.size, 5, none⟩ = some (vb1) ∧ W.cell? ⟨w.heap.size, 6, none⟩ = some (.int .u64 rf1) ∧ W.cell? ⟨w.heap.size, 7, none⟩ = some (vl1) ∧ W.cell? ⟨w.heap.size, 8, none⟩ = some (vf1) ∧ W.cell? ⟨w.heap.size, 9, none⟩ = some (.string c1) ∧ W.cell? ⟨w.heap.size, 10, none⟩ = some (.int .i64 vr1) ∧ W.cell? ⟨w.heap.size + 1, 0, none⟩ = some (.int .i64 y.kind) ∧ W.cell? ⟨w.heap.size + 1, 1, none⟩ = some (.bool b2) ∧ W.cell? ⟨w.heap.size + 1, 2, none⟩ = some (.int .i64 i2) ∧ W.cell? ⟨w.heap.size + 1, 3, none⟩ = some (.float .f64 f2) ∧ W.cell? ⟨w.heap.size + 1, 4, none⟩ = some (.string tx2) ∧ W.cell? ⟨w.heap.size + 1, 5, none⟩ = some (vb2) ∧ W.cell? ⟨w.heap.size + 1, 6, none⟩ = some (.int .u64 rf2) ∧ W.cell? ⟨w.heap.size + 1, 7, none⟩ = some (vl2) ∧ W.cell? ⟨w.heap.size + 1, 8, none⟩ = some (vf2) ∧ W.cell? ⟨w.heap.size + 1, 9, none⟩ = some (.string c2) ∧ W.cell? ⟨w.heap.size + 1, 10, none⟩ = some (.int .i64 vr2)) ∧ Below w.heap.size w W) := fun W hW => by
    have h : Tbx W w.heap.size x.kind b1 i1 f1 tx1 vb1 rf1 vl1 vf1 c1 vr1 ∧ Tbx W (w.heap.size + 1) y.kind b2 i2 f2 tx2 vb2 rf2 vl2 vf2 c2 vr2 := ⟨bx_of (two_a hW), bx_of (two_b hW)⟩
    simp only [Tbx, and_assoc] at h
    exact ⟨h, below_to H0.out hW⟩
  clear hx hy hab hB bx b_y
  have he' : (x.all.e == 0) = false := by simp [he]
  clear he
  go_enter Try.func6, Try.ntmps6
  go_wp2_with fail
  refine (HBx.out _ H0.out).mono ?_
  rintro e w1 ⟨v1, rfl, hb1, hv1⟩
  have HB1 : Hid (Below (two w #[.int .i64 x.kind, .bool b1, .int .i64 i1, .float .f64 f1, .string tx1, vb1, .int .u64 rf1, vl1, vf1, .string c1, .int .i64 vr1] #[.int .i64 y.kind, .bool b2, .int .i64 i2, .float .f64 f2, .string tx2, vb2, .int .u64 rf2, vl2, vf2, .string c2, .int .i64 vr2]).heap.size (two w #[.int .i64 x.kind, .bool b1, .int .i64 i1, .float .f64 f1, .string tx1, vb1, .int .u64 rf1, vl1, vf1, .string c1, .int .i64 vr1] #[.int .i64 y.kind, .bool b2, .int .i64 i2, .float .f64 f2, .string tx2, vb2, .int .u64 rf2, vl2, vf2, .string c2, .int .i64 vr2]) w1) := hb1
  have HV1 : Hid (x.V w1 (Lo w1.heap.size) v1) := hv1
  clear hb1 hv1
  go_wp2_with fail
  refine (HEx.out w1 v1 HV1.out).mono ?_
  rintro e w2 ⟨m2, a2, cap2, rfl, HO2⟩
  have HB2 : Hid (Below (two w #[.int .i64 x.kind, .bool b1, .int .i64 i1, .float .f64 f1, .string tx1, vb1, .int .u64 rf1, vl1, vf1, .string c1, .int .i64 vr1] #[.int .i64 y.kind, .bool b2, .int .i64 i2, .float .f64 f2, .string tx2, vb2, .int .u64 rf2, vl2, vf2, .string c2, .int .i64 vr2]).heap.size (two w #[.int .i64 x.kind, .bool b1, .int .i64 i1, .float .f64 f1, .string tx1, vb1, .int .u64 rf1, vl1, vf1, .string c1, .int .i64 vr1] #[.int .i64 y.kind, .bool b2, .int .i64 i2, .float .f64 f2, .string tx2, vb2, .int .u64 rf2, vl2, vf2, .string c2, .int .i64 vr2]) w2) := below_to HB1.out HO2.out.2.2
  obtain ⟨z0, z1, z2, z3, z4, z5, z6, z7, z8, z9, z10, z11, z12, z13, z14, z15, z16, z17, z18, z19, z20, z21⟩ := (HX.out _ HB2.out).1
  go_wp2_with fail
  refine (HBy.out _ (HX.out _ HB2.out).2).mono ?_
  rintro e w3 ⟨v3, rfl, hb3, hv3⟩
  have HB3 : Hid (Below w2.heap.size w2 w3) := hb3
  have HV3 : Hid (y.V w3 (Lo w3.heap.size) v3) := hv3
  clear z0 z1 z2 z3 z4 z5 z6 z7 z8 z9 z10 z11 z12 z13 z14 z15 z16 z17 z18 z19 z20 z21 hb3 hv3
  go_wp2_with fail
  refine (HEy.out w3 v3 HV3.out).mono ?_
  rintro e w4 ⟨m4, a4, cap4, rfl, HO4⟩
  have HB4 : Hid (Below (two w #[.int .i64 x.kind, .bool b1, .int .i64 i1, .float .f64 f1, .string tx1, vb1, .int .u64 rf1, vl1, vf1, .string c1, .int .i64 vr1] #[.int .i64 y.kind, .bool b2, .int .i64 i2, .float .f64 f2, .string tx2, vb2, .int .u64 rf2, vl2, vf2, .string c2, .int .i64 vr2]).heap.size (two w #[.int .i64 x.kind, .bool b1, .int .i64 i1, .float .f64 f1, .string tx1, vb1, .int .u64 rf1, vl1, vf1, .string c1, .int .i64 vr1] #[.int .i64 y.kind, .bool b2, .int .i64 i2, .float .f64 f2, .string tx2, vb2, .int .u64 rf2, vl2, vf2, .string c2, .int .i64 vr2]) w4 ∧ Below w2.heap.size w2 w4) := ⟨below_to HB2.out (below_to HB3.out HO4.out.2.2), below_to HB3.out HO4.out.2.2⟩
  go_wp2_with fail
  go_quiet (fail)
  have HBq : Hid (Below w4.heap.size w4 (w4.drewN nq)) := below_drewN' _ _ _
  generalize w4.drewN nq = w6 at HBq ⊢
  have HE5 : Hid (Outs (w6.alloc (.cells #[] 5)) w6.heap.size (some ⟨w6.heap.size, 0, none⟩) 0 []) := outs_none w6
  have HBW : Hid (Below w.heap.size w w6) := below_to (HX.out _ HB4.out.1).2 HBq.out
  go_wp2_with (first
    | (at_builtin; refine wpList_app_src _ rfl _ _ 23 23 rfl w6.heap.size 5 i0 (.int .u8 0) 1 1 Try.undB hi hz0 hz1 hz2 rfl _ _ _ _ rfl HE5.out.1 _ _ _ rfl (HSr.out _ (HBW.out.trans (((Below.refl _ _).alloc (Nat.le_refl _) _).mono HBW.out.size))) (by unfold maxLen; simp; omega) (by simp; omega) HE5.out.2 ?_; intro g7 c7 w7 hown7 hgrow7 _; have HJ7 : Hid (Outs w7 w6.heap.size (some ⟨g7, 0, none⟩) c7 (Sp.bts l) ∧ Below w6.heap.size w6 w7) := by
        have hj := outs_join HE5.out (Below.refl _ _) hown7 (by simp [Sp.bts_len]) hgrow7
        rw [List.nil_append] at hj
        exact ⟨hj.1, ((Below.refl _ _).alloc (Nat.le_refl _) _).trans hj.2⟩
       clear hown7 hgrow7))
  refine (HD.out w7 _ g7 c7 _ (by omega) HJ7.out.1).mono ?_
  rintro e w8 ⟨v8, rfl, hb8, hv8⟩
  have HB8 : Hid (Below w.heap.size w w8) := below_to HBW.out (below_to HJ7.out.2 hb8)
  have HV8 : Hid (t.V w8 (Lo w8.heap.size) v8) := hv8
  clear hb8 hv8
  go_wp2_with fail
  refine (HET.out w8 v8 HV8.out).mono ?_
  rintro e w9 ⟨g9, cap9, rfl, ho9, hb9⟩
  have HB9 : Hid (Below w.heap.size w w9) := below_to HB8.out hb9
  have HO9 : Hid (Outs w9 0 (some ⟨g9, 0, none⟩) cap9 t.enc) := outs_low ho9
  clear hb9 ho9
  have hn3 : ¬ ((l.size : Int) < (n : Int)) := by omega
  have hn4 : ¬ ((n : Int) < 1) := by omega
  go_wp2_with fail
  refine (HSA.out w9 g9 cap9 HB9.out HO9.out).mono ?_
  rintro e w10 ⟨rfl, hb10⟩
  have HB10 : Hid (Below w.heap.size w w10) := below_to HB9.out hb10
  clear hb10
  go_wp2_with fail
  refine (HNil.out w10).mono ?_
  rintro e w11 ⟨g11, cap11, rfl, hc11, hb11⟩
  have HB11 : Hid (Below w.heap.size w w11) := below_to HB10.out hb11
  clear hb11
  go_wp2_with fail
  go_ret
  exact ⟨rfl, HB11.out⟩

set_option maxRecDepth 100000 in
set_option maxHeartbeats 4000000 in
theorem WForm_ex (x y : Tm) (cs ct : Array Value) (B : Nat → Prop) (w : World) (hx : x.In w B cs) (hy : y.In w B ct) (hB : Sub B w) (ab : Option Addr) (l : ByteArray) (cb : Nat) (hl : l.size ≤ 140737488355328) (hab : BytesAt w B ab l) (he : x.all.e ≠ 0) (q : Nat) (er : Int) (hr : Sp.rdV (Sp.bts l) 64 0 0 = .bad q er) (her : er ≠ 0) :
    Calls Try.prog 6 #[.agg cs, .agg ct, .slice ab l.size cb] w fun e w' => e = .returned (.bool true) ∧ Below w.heap.size w w' := by
  have bx := Tm.In_bdd x cs hx
  have b_y := Tm.In_bdd y ct hy
  have HBx : Hid (∀ W, Below w.heap.size w W → Calls Try.prog 11 #[.agg cs] W fun e w' => ∃ v, e = .returned v ∧ Below W.heap.size W w' ∧ x.V w' (Lo w'.heap.size) v) := fun W hW => by
    refine (built_any x.sz x (Nat.le_refl _) cs B W (x.In_same (hB.same hW) (fun _ h => h) cs hx) (hB.later hW)).mono ?_
    rintro e w' ⟨v, rfl, hb, hv⟩
    exact ⟨v, rfl, hb, x.V_same (Same.refl _ _) (fun k hk => hk.2) v hv⟩
  have HBy : Hid (∀ W, Below w.heap.size w W → Calls Try.prog 11 #[.agg ct] W fun e w' => ∃ v, e = .returned v ∧ Below W.heap.size W w' ∧ y.V w' (Lo w'.heap.size) v) := fun W hW => by
    refine (built_any y.sz y (Nat.le_refl _) ct B W (y.In_same (hB.same hW) (fun _ h => h) ct hy) (hB.later hW)).mono ?_
    rintro e w' ⟨v, rfl, hb, hv⟩
    exact ⟨v, rfl, hb, y.V_same (Same.refl _ _) (fun k hk => hk.2) v hv⟩
  have HEx : Hid (∀ W v, x.V W (Lo W.heap.size) v → Calls Try.prog 23 #[v] W (EncE x W)) := fun W v hv => Encode_all x v W.heap.size W (Nat.le_refl _) hv bx
  have HEy : Hid (∀ W v, y.V W (Lo W.heap.size) v → Calls Try.prog 23 #[v] W (EncE y W)) := fun W v hv => Encode_all y v W.heap.size W (Nat.le_refl _) hv b_y
  have HSr : Hid (∀ W, Below w.heap.size w W → Src Try.prog 1 23 (.slice ab l.size cb) l.size (u8s (Sp.bts l)) W) := fun W hW => src_bytes l ab cb B W (hab.same (hB.same hW) (fun _ h => h))
  have HNil : Hid (∀ W, Calls Try.prog 23 #[.nilIface] W fun e w' => ∃ g cap, e = .returned (.tuple #[.slice (some ⟨g, 0, none⟩) 1 cap, .int .i64 0]) ∧ w'.cell? ⟨g, 0, none⟩ = some (.int .u8 1) ∧ Below W.heap.size W w') := Encode_nil
  have HD : Hid (∀ W base g cap m, m = l.size → Outs W base (some ⟨g, 0, none⟩) cap (Sp.bts l) → Calls Try.prog 25 #[.slice (some ⟨g, 0, none⟩) m cap] W fun e w' => e = .returned (.tuple #[.nilIface, .int .i64 (q : Int), .int .i64 er]) ∧ Below W.heap.size W w') := Decode_formB l q er hr her hl
  have her' : (er == 0) = false := by simp [her]
  clear hr her
  obtain ⟨i0, hi, hz0, hz1, hz2⟩ := info_parts Try.infoB
  obtain ⟨b1, i1, f1, tx1, vb1, rf1, vl1, vf1, c1, vr1, rfl⟩ := Tm.In_box hx
  obtain ⟨b2, i2, f2, tx2, vb2, rf2, vl2, vf2, c2, vr2, rfl⟩ := Tm.In_box hy
  unfold tcells at HBx HBy ⊢
  have H0 : Hid (Below w.heap.size w (two w #[.int .i64 x.kind, .bool b1, .int .i64 i1, .float .f64 f1, .string tx1, vb1, .int .u64 rf1, vl1, vf1, .string c1, .int .i64 vr1] #[.int .i64 y.kind, .bool b2, .int .i64 i2, .float .f64 f2, .string tx2, vb2, .int .u64 rf2, vl2, vf2, .string c2, .int .i64 vr2])) := two_bel _ _ _
  have HX : Hid (∀ W, Below (two w #[.int .i64 x.kind, .bool b1, .int .i64 i1, .float .f64 f1, .string tx1, vb1, .int .u64 rf1, vl1, vf1, .string c1, .int .i64 vr1] #[.int .i64 y.kind, .bool b2, .int .i64 i2, .float .f64 f2, .string tx2, vb2, .int .u64 rf2, vl2, vf2, .string c2, .int .i64 vr2]).heap.size (two w #[.int .i64 x.kind, .bool b1, .int .i64 i1, .float .f64 f1, .string tx1, vb1, .int .u64 rf1, vl1, vf1, .string c1, .int .i64 vr1] #[.int .i64 y.kind, .bool b2, .int .i64 i2, .float .f64 f2, .string tx2, vb2, .int .u64 rf2, vl2, vf2, .string c2, .int .i64 vr2]) W → (W.cell? ⟨w.heap.size, 0, none⟩ = some (.int .i64 x.kind) ∧ W.cell? ⟨w.heap.size, 1, none⟩ = some (.bool b1) ∧ W.cell? ⟨w.heap.size, 2, none⟩ = some (.int .i64 i1) ∧ W.cell? ⟨w.heap.size, 3, none⟩ = some (.float .f64 f1) ∧ W.cell? ⟨w.heap.size, 4, none⟩ = some (.string tx1) ∧ W.cell? ⟨w.heap.size, 5, none⟩ = some (vb1) ∧ W.cell? ⟨w.heap.size, 6, none⟩ = some (.int .u64 rf1) ∧ W.cell? ⟨w.heap.size, 7, none⟩ = some (vl1) ∧ W.cell? ⟨w.heap.size, 8, none⟩ = some (vf1) ∧ W.cell? ⟨w.heap.size, 9, none⟩ = some (.string c1) ∧ W.cell? ⟨w.heap.size, 10, none⟩ = some (.int .i64 vr1) ∧ W.cell? ⟨w.heap.size + 1, 0, none⟩ = some (.int .i64 y.kind) ∧ W.cell? ⟨w.heap.size + 1, 1, none⟩ = some (.bool b2) ∧ W.cell? ⟨w.heap.size + 1, 2, none⟩ = some (.int .i64 i2) ∧ W.cell? ⟨w.heap.size + 1, 3, none⟩ = some (.float .f64 f2) ∧ W.cell? ⟨w.heap.size + 1, 4, none⟩ = some (.string tx2) ∧ W.cell? ⟨w.heap.size + 1, 5, none⟩ = some (vb2) ∧ W.cell? ⟨w.heap.size + 1, 6, none⟩ = some (.int .u64 rf2) ∧ W.cell? ⟨w.heap.size + 1, 7, none⟩ = some (vl2) ∧ W.cell? ⟨w.heap.size + 1, 8, none⟩ = some (vf2) ∧ W.cell? ⟨w.heap.size + 1, 9, none⟩ = some (.string c2) ∧ W.cell? ⟨w.heap.size + 1, 10, none⟩ = some (.int .i64 vr2)) ∧ Below w.heap.size w W) := fun W hW => by
    have h : Tbx W w.heap.size x.kind b1 i1 f1 tx1 vb1 rf1 vl1 vf1 c1 vr1 ∧ Tbx W (w.heap.size + 1) y.kind b2 i2 f2 tx2 vb2 rf2 vl2 vf2 c2 vr2 := ⟨bx_of (two_a hW), bx_of (two_b hW)⟩
    simp only [Tbx, and_assoc] at h
    exact ⟨h, below_to H0.out hW⟩
  clear hx hy hab hB bx b_y
  have he' : (x.all.e == 0) = false := by simp [he]
  clear he
  go_enter Try.func6, Try.ntmps6
  go_wp2_with fail
  refine (HBx.out _ H0.out).mono ?_
  rintro e w1 ⟨v1, rfl, hb1, hv1⟩
  have HB1 : Hid (Below (two w #[.int .i64 x.kind, .bool b1, .int .i64 i1, .float .f64 f1, .string tx1, vb1, .int .u64 rf1, vl1, vf1, .string c1, .int .i64 vr1] #[.int .i64 y.kind, .bool b2, .int .i64 i2, .float .f64 f2, .string tx2, vb2, .int .u64 rf2, vl2, vf2, .string c2, .int .i64 vr2]).heap.size (two w #[.int .i64 x.kind, .bool b1, .int .i64 i1, .float .f64 f1, .string tx1, vb1, .int .u64 rf1, vl1, vf1, .string c1, .int .i64 vr1] #[.int .i64 y.kind, .bool b2, .int .i64 i2, .float .f64 f2, .string tx2, vb2, .int .u64 rf2, vl2, vf2, .string c2, .int .i64 vr2]) w1) := hb1
  have HV1 : Hid (x.V w1 (Lo w1.heap.size) v1) := hv1
  clear hb1 hv1
  go_wp2_with fail
  refine (HEx.out w1 v1 HV1.out).mono ?_
  rintro e w2 ⟨m2, a2, cap2, rfl, HO2⟩
  have HB2 : Hid (Below (two w #[.int .i64 x.kind, .bool b1, .int .i64 i1, .float .f64 f1, .string tx1, vb1, .int .u64 rf1, vl1, vf1, .string c1, .int .i64 vr1] #[.int .i64 y.kind, .bool b2, .int .i64 i2, .float .f64 f2, .string tx2, vb2, .int .u64 rf2, vl2, vf2, .string c2, .int .i64 vr2]).heap.size (two w #[.int .i64 x.kind, .bool b1, .int .i64 i1, .float .f64 f1, .string tx1, vb1, .int .u64 rf1, vl1, vf1, .string c1, .int .i64 vr1] #[.int .i64 y.kind, .bool b2, .int .i64 i2, .float .f64 f2, .string tx2, vb2, .int .u64 rf2, vl2, vf2, .string c2, .int .i64 vr2]) w2) := below_to HB1.out HO2.out.2.2
  obtain ⟨z0, z1, z2, z3, z4, z5, z6, z7, z8, z9, z10, z11, z12, z13, z14, z15, z16, z17, z18, z19, z20, z21⟩ := (HX.out _ HB2.out).1
  go_wp2_with fail
  refine (HBy.out _ (HX.out _ HB2.out).2).mono ?_
  rintro e w3 ⟨v3, rfl, hb3, hv3⟩
  have HB3 : Hid (Below w2.heap.size w2 w3) := hb3
  have HV3 : Hid (y.V w3 (Lo w3.heap.size) v3) := hv3
  clear z0 z1 z2 z3 z4 z5 z6 z7 z8 z9 z10 z11 z12 z13 z14 z15 z16 z17 z18 z19 z20 z21 hb3 hv3
  go_wp2_with fail
  refine (HEy.out w3 v3 HV3.out).mono ?_
  rintro e w4 ⟨m4, a4, cap4, rfl, HO4⟩
  have HB4 : Hid (Below (two w #[.int .i64 x.kind, .bool b1, .int .i64 i1, .float .f64 f1, .string tx1, vb1, .int .u64 rf1, vl1, vf1, .string c1, .int .i64 vr1] #[.int .i64 y.kind, .bool b2, .int .i64 i2, .float .f64 f2, .string tx2, vb2, .int .u64 rf2, vl2, vf2, .string c2, .int .i64 vr2]).heap.size (two w #[.int .i64 x.kind, .bool b1, .int .i64 i1, .float .f64 f1, .string tx1, vb1, .int .u64 rf1, vl1, vf1, .string c1, .int .i64 vr1] #[.int .i64 y.kind, .bool b2, .int .i64 i2, .float .f64 f2, .string tx2, vb2, .int .u64 rf2, vl2, vf2, .string c2, .int .i64 vr2]) w4 ∧ Below w2.heap.size w2 w4) := ⟨below_to HB2.out (below_to HB3.out HO4.out.2.2), below_to HB3.out HO4.out.2.2⟩
  go_wp2_with fail
  go_quiet (fail)
  have HBq : Hid (Below w4.heap.size w4 (w4.drewN nq)) := below_drewN' _ _ _
  generalize w4.drewN nq = w6 at HBq ⊢
  have HE5 : Hid (Outs (w6.alloc (.cells #[] 5)) w6.heap.size (some ⟨w6.heap.size, 0, none⟩) 0 []) := outs_none w6
  have HBW : Hid (Below w.heap.size w w6) := below_to (HX.out _ HB4.out.1).2 HBq.out
  go_wp2_with (first
    | (at_builtin; refine wpList_app_src _ rfl _ _ 23 23 rfl w6.heap.size 5 i0 (.int .u8 0) 1 1 Try.undB hi hz0 hz1 hz2 rfl _ _ _ _ rfl HE5.out.1 _ _ _ rfl (HSr.out _ (HBW.out.trans (((Below.refl _ _).alloc (Nat.le_refl _) _).mono HBW.out.size))) (by unfold maxLen; simp; omega) (by simp; omega) HE5.out.2 ?_; intro g7 c7 w7 hown7 hgrow7 _; have HJ7 : Hid (Outs w7 w6.heap.size (some ⟨g7, 0, none⟩) c7 (Sp.bts l) ∧ Below w6.heap.size w6 w7) := by
        have hj := outs_join HE5.out (Below.refl _ _) hown7 (by simp [Sp.bts_len]) hgrow7
        rw [List.nil_append] at hj
        exact ⟨hj.1, ((Below.refl _ _).alloc (Nat.le_refl _) _).trans hj.2⟩
       clear hown7 hgrow7))
  refine (HD.out w7 _ g7 c7 _ (by omega) HJ7.out.1).mono ?_
  rintro e w10 ⟨rfl, hb8⟩
  have HB10 : Hid (Below w.heap.size w w10) := below_to HBW.out (below_to HJ7.out.2 hb8)
  clear hb8
  go_wp2_with fail
  refine (HNil.out w10).mono ?_
  rintro e w11 ⟨g11, cap11, rfl, hc11, hb11⟩
  have HB11 : Hid (Below w.heap.size w w11) := below_to HB10.out hb11
  clear hb11
  go_wp2_with fail
  go_ret
  exact ⟨rfl, HB11.out⟩

set_option maxRecDepth 100000 in
set_option maxHeartbeats 4000000 in
theorem WForm_fo (x y : Tm) (cs ct : Array Value) (B : Nat → Prop) (w : World) (hx : x.In w B cs) (hy : y.In w B ct) (hB : Sub B w) (ab : Option Addr) (l : ByteArray) (cb : Nat) (hl : l.size ≤ 140737488355328) (hab : BytesAt w B ab l) (he : x.all.e = 0) (hf : y.all.e ≠ 0) (hcb : l.size ≤ cb) (t : Tm) (p2 n : Nat) (hr : Sp.rdV (Sp.bts l) 64 0 0 = .ok (t, p2) n) :
    Calls Try.prog 6 #[.agg cs, .agg ct, .slice ab l.size cb] w fun e w' => e = .returned (.bool true) ∧ Below w.heap.size w w' := by
  have bx := Tm.In_bdd x cs hx
  have b_y := Tm.In_bdd y ct hy
  have HBx : Hid (∀ W, Below w.heap.size w W → Calls Try.prog 11 #[.agg cs] W fun e w' => ∃ v, e = .returned v ∧ Below W.heap.size W w' ∧ x.V w' (Lo w'.heap.size) v) := fun W hW => by
    refine (built_any x.sz x (Nat.le_refl _) cs B W (x.In_same (hB.same hW) (fun _ h => h) cs hx) (hB.later hW)).mono ?_
    rintro e w' ⟨v, rfl, hb, hv⟩
    exact ⟨v, rfl, hb, x.V_same (Same.refl _ _) (fun k hk => hk.2) v hv⟩
  have HBy : Hid (∀ W, Below w.heap.size w W → Calls Try.prog 11 #[.agg ct] W fun e w' => ∃ v, e = .returned v ∧ Below W.heap.size W w' ∧ y.V w' (Lo w'.heap.size) v) := fun W hW => by
    refine (built_any y.sz y (Nat.le_refl _) ct B W (y.In_same (hB.same hW) (fun _ h => h) ct hy) (hB.later hW)).mono ?_
    rintro e w' ⟨v, rfl, hb, hv⟩
    exact ⟨v, rfl, hb, y.V_same (Same.refl _ _) (fun k hk => hk.2) v hv⟩
  have HEx : Hid (∀ W v, x.V W (Lo W.heap.size) v → Calls Try.prog 23 #[v] W (EncE x W)) := fun W v hv => Encode_all x v W.heap.size W (Nat.le_refl _) hv bx
  have HEy : Hid (∀ W v, y.V W (Lo W.heap.size) v → Calls Try.prog 23 #[v] W (EncE y W)) := fun W v hv => Encode_all y v W.heap.size W (Nat.le_refl _) hv b_y
  have HSr : Hid (∀ W, Below w.heap.size w W → Src Try.prog 1 23 (.slice ab l.size cb) l.size (u8s (Sp.bts l)) W) := fun W hW => src_bytes l ab cb B W (hab.same (hB.same hW) (fun _ h => h))
  have HNil : Hid (∀ W, Calls Try.prog 23 #[.nilIface] W fun e w' => ∃ g cap, e = .returned (.tuple #[.slice (some ⟨g, 0, none⟩) 1 cap, .int .i64 0]) ∧ w'.cell? ⟨g, 0, none⟩ = some (.int .u8 1) ∧ Below W.heap.size W w') := Encode_nil
  obtain ⟨h1, h2, h3, h4, h5, h6⟩ := rd_snd (bts_by l) hr
  rw [Sp.bts_len] at h5
  have hpos := t.enc_pos
  have hlt := Tm.enc_le h1 h2
  have HD : Hid (∀ W base g cap m, m = l.size → Outs W base (some ⟨g, 0, none⟩) cap (Sp.bts l) → Calls Try.prog 25 #[.slice (some ⟨g, 0, none⟩) m cap] W fun e w' => ∃ v, e = .returned (.tuple #[v, .int .i64 (n : Int), .int .i64 0]) ∧ Below W.heap.size W w' ∧ t.V w' (Lo w'.heap.size) v) := Decode_form l t p2 n hr hl
  have HET : Hid (∀ W v, t.V W (Lo W.heap.size) v → Calls Try.prog 23 #[v] W fun e w' => ∃ g cap, e = .returned (.tuple #[.slice (some ⟨g, 0, none⟩) n cap, .int .i64 0]) ∧ Outs w' W.heap.size (some ⟨g, 0, none⟩) cap t.enc ∧ Below W.heap.size W w') := fun W v hv => by
    have := Encode_ok t v W.heap.size W (Nat.le_refl _) hv h2 h1
    rw [← h4] at this; exact this
  obtain ⟨gb, ob, rfl⟩ : ∃ gb ob, ab = some ⟨gb, ob, none⟩ := by
    obtain ⟨g, o, e, _⟩ := hab 0 (by omega)
    exact ⟨g, o, e⟩
  have HSA : Hid (∀ W g cap, Below w.heap.size w W → Outs W 0 (some ⟨g, 0, none⟩) cap t.enc → Calls Try.prog 24 #[.slice (some ⟨g, 0, none⟩) n cap, .slice (some ⟨gb, ob, none⟩) n cb] W fun e w' => e = .returned (.bool true) ∧ Below W.heap.size W w') := fun W g cap hW ho => by
    have hrd := rd_bts (hab.same (hB.same hW) (fun k hk => hB.later hW k hk))
    have := wsame_dec t.enc ((Sp.bts l).take n) (some ⟨g, 0, none⟩) (some ⟨gb, ob, none⟩) cap cb W n n h4 (by rw [List.length_take, Sp.bts_len]; omega) (by omega) (outs_rd ho).1 (hrd.take n)
    rw [h6, decide_eq_true rfl] at this; exact this
  have hn1 : 1 ≤ n := by omega
  have hn2 : n ≤ l.size := by omega
  clear h1 h2 h3 h4 h5 h6 hr hpos hlt
  obtain ⟨i0, hi, hz0, hz1, hz2⟩ := info_parts Try.infoB
  obtain ⟨b1, i1, f1, tx1, vb1, rf1, vl1, vf1, c1, vr1, rfl⟩ := Tm.In_box hx
  obtain ⟨b2, i2, f2, tx2, vb2, rf2, vl2, vf2, c2, vr2, rfl⟩ := Tm.In_box hy
  unfold tcells at HBx HBy ⊢
  have H0 : Hid (Below w.heap.size w (two w #[.int .i64 x.kind, .bool b1, .int .i64 i1, .float .f64 f1, .string tx1, vb1, .int .u64 rf1, vl1, vf1, .string c1, .int .i64 vr1] #[.int .i64 y.kind, .bool b2, .int .i64 i2, .float .f64 f2, .string tx2, vb2, .int .u64 rf2, vl2, vf2, .string c2, .int .i64 vr2])) := two_bel _ _ _
  have HX : Hid (∀ W, Below (two w #[.int .i64 x.kind, .bool b1, .int .i64 i1, .float .f64 f1, .string tx1, vb1, .int .u64 rf1, vl1, vf1, .string c1, .int .i64 vr1] #[.int .i64 y.kind, .bool b2, .int .i64 i2, .float .f64 f2, .string tx2, vb2, .int .u64 rf2, vl2, vf2, .string c2, .int .i64 vr2]).heap.size (two w #[.int .i64 x.kind, .bool b1, .int .i64 i1, .float .f64 f1, .string tx1, vb1, .int .u64 rf1, vl1, vf1, .string c1, .int .i64 vr1] #[.int .i64 y.kind, .bool b2, .int .i64 i2, .float .f64 f2, .string tx2, vb2, .int .u64 rf2, vl2, vf2, .string c2, .int .i64 vr2]) W → (W.cell? ⟨w.heap.size, 0, none⟩ = some (.int .i64 x.kind) ∧ W.cell? ⟨w.heap.size, 1, none⟩ = some (.bool b1) ∧ W.cell? ⟨w.heap.size, 2, none⟩ = some (.int .i64 i1) ∧ W.cell? ⟨w.heap.size, 3, none⟩ = some (.float .f64 f1) ∧ W.cell? ⟨w.heap.size, 4, none⟩ = some (.string tx1) ∧ W.cell? ⟨w.heap.size, 5, none⟩ = some (vb1) ∧ W.cell? ⟨w.heap.size, 6, none⟩ = some (.int .u64 rf1) ∧ W.cell? ⟨w.heap.size, 7, none⟩ = some (vl1) ∧ W.cell? ⟨w.heap.size, 8, none⟩ = some (vf1) ∧ W.cell? ⟨w.heap.size, 9, none⟩ = some (.string c1) ∧ W.cell? ⟨w.heap.size, 10, none⟩ = some (.int .i64 vr1) ∧ W.cell? ⟨w.heap.size + 1, 0, none⟩ = some (.int .i64 y.kind) ∧ W.cell? ⟨w.heap.size + 1, 1, none⟩ = some (.bool b2) ∧ W.cell? ⟨w.heap.size + 1, 2, none⟩ = some (.int .i64 i2) ∧ W.cell? ⟨w.heap.size + 1, 3, none⟩ = some (.float .f64 f2) ∧ W.cell? ⟨w.heap.size + 1, 4, none⟩ = some (.string tx2) ∧ W.cell? ⟨w.heap.size + 1, 5, none⟩ = some (vb2) ∧ W.cell? ⟨w.heap.size + 1, 6, none⟩ = some (.int .u64 rf2) ∧ W.cell? ⟨w.heap.size + 1, 7, none⟩ = some (vl2) ∧ W.cell? ⟨w.heap.size + 1, 8, none⟩ = some (vf2) ∧ W.cell? ⟨w.heap.size + 1, 9, none⟩ = some (.string c2) ∧ W.cell? ⟨w.heap.size + 1, 10, none⟩ = some (.int .i64 vr2)) ∧ Below w.heap.size w W) := fun W hW => by
    have h : Tbx W w.heap.size x.kind b1 i1 f1 tx1 vb1 rf1 vl1 vf1 c1 vr1 ∧ Tbx W (w.heap.size + 1) y.kind b2 i2 f2 tx2 vb2 rf2 vl2 vf2 c2 vr2 := ⟨bx_of (two_a hW), bx_of (two_b hW)⟩
    simp only [Tbx, and_assoc] at h
    exact ⟨h, below_to H0.out hW⟩
  clear hx hy hab hB bx b_y
  have hf' : (y.all.e == 0) = false := by simp [hf]
  clear hf
  go_enter Try.func6, Try.ntmps6
  go_wp2_with fail
  refine (HBx.out _ H0.out).mono ?_
  rintro e w1 ⟨v1, rfl, hb1, hv1⟩
  have HB1 : Hid (Below (two w #[.int .i64 x.kind, .bool b1, .int .i64 i1, .float .f64 f1, .string tx1, vb1, .int .u64 rf1, vl1, vf1, .string c1, .int .i64 vr1] #[.int .i64 y.kind, .bool b2, .int .i64 i2, .float .f64 f2, .string tx2, vb2, .int .u64 rf2, vl2, vf2, .string c2, .int .i64 vr2]).heap.size (two w #[.int .i64 x.kind, .bool b1, .int .i64 i1, .float .f64 f1, .string tx1, vb1, .int .u64 rf1, vl1, vf1, .string c1, .int .i64 vr1] #[.int .i64 y.kind, .bool b2, .int .i64 i2, .float .f64 f2, .string tx2, vb2, .int .u64 rf2, vl2, vf2, .string c2, .int .i64 vr2]) w1) := hb1
  have HV1 : Hid (x.V w1 (Lo w1.heap.size) v1) := hv1
  clear hb1 hv1
  go_wp2_with fail
  refine (HEx.out w1 v1 HV1.out).mono ?_
  rintro e w2 ⟨m2, a2, cap2, rfl, HO2⟩
  have HB2 : Hid (Below (two w #[.int .i64 x.kind, .bool b1, .int .i64 i1, .float .f64 f1, .string tx1, vb1, .int .u64 rf1, vl1, vf1, .string c1, .int .i64 vr1] #[.int .i64 y.kind, .bool b2, .int .i64 i2, .float .f64 f2, .string tx2, vb2, .int .u64 rf2, vl2, vf2, .string c2, .int .i64 vr2]).heap.size (two w #[.int .i64 x.kind, .bool b1, .int .i64 i1, .float .f64 f1, .string tx1, vb1, .int .u64 rf1, vl1, vf1, .string c1, .int .i64 vr1] #[.int .i64 y.kind, .bool b2, .int .i64 i2, .float .f64 f2, .string tx2, vb2, .int .u64 rf2, vl2, vf2, .string c2, .int .i64 vr2]) w2) := below_to HB1.out HO2.out.2.2
  obtain ⟨z0, z1, z2, z3, z4, z5, z6, z7, z8, z9, z10, z11, z12, z13, z14, z15, z16, z17, z18, z19, z20, z21⟩ := (HX.out _ HB2.out).1
  go_wp2_with fail
  refine (HBy.out _ (HX.out _ HB2.out).2).mono ?_
  rintro e w3 ⟨v3, rfl, hb3, hv3⟩
  have HB3 : Hid (Below w2.heap.size w2 w3) := hb3
  have HV3 : Hid (y.V w3 (Lo w3.heap.size) v3) := hv3
  clear z0 z1 z2 z3 z4 z5 z6 z7 z8 z9 z10 z11 z12 z13 z14 z15 z16 z17 z18 z19 z20 z21 hb3 hv3
  go_wp2_with fail
  refine (HEy.out w3 v3 HV3.out).mono ?_
  rintro e w4 ⟨m4, a4, cap4, rfl, HO4⟩
  have HB4 : Hid (Below (two w #[.int .i64 x.kind, .bool b1, .int .i64 i1, .float .f64 f1, .string tx1, vb1, .int .u64 rf1, vl1, vf1, .string c1, .int .i64 vr1] #[.int .i64 y.kind, .bool b2, .int .i64 i2, .float .f64 f2, .string tx2, vb2, .int .u64 rf2, vl2, vf2, .string c2, .int .i64 vr2]).heap.size (two w #[.int .i64 x.kind, .bool b1, .int .i64 i1, .float .f64 f1, .string tx1, vb1, .int .u64 rf1, vl1, vf1, .string c1, .int .i64 vr1] #[.int .i64 y.kind, .bool b2, .int .i64 i2, .float .f64 f2, .string tx2, vb2, .int .u64 rf2, vl2, vf2, .string c2, .int .i64 vr2]) w4 ∧ Below w2.heap.size w2 w4) := ⟨below_to HB2.out (below_to HB3.out HO4.out.2.2), below_to HB3.out HO4.out.2.2⟩
  go_wp2_with fail
  go_quiet (fail)
  have HBq : Hid (Below w4.heap.size w4 (w4.drewN nq)) := below_drewN' _ _ _
  generalize w4.drewN nq = w6 at HBq ⊢
  have HE5 : Hid (Outs (w6.alloc (.cells #[] 5)) w6.heap.size (some ⟨w6.heap.size, 0, none⟩) 0 []) := outs_none w6
  have HBW : Hid (Below w.heap.size w w6) := below_to (HX.out _ HB4.out.1).2 HBq.out
  go_wp2_with (first
    | (at_builtin; refine wpList_app_src _ rfl _ _ 23 23 rfl w6.heap.size 5 i0 (.int .u8 0) 1 1 Try.undB hi hz0 hz1 hz2 rfl _ _ _ _ rfl HE5.out.1 _ _ _ rfl (HSr.out _ (HBW.out.trans (((Below.refl _ _).alloc (Nat.le_refl _) _).mono HBW.out.size))) (by unfold maxLen; simp; omega) (by simp; omega) HE5.out.2 ?_; intro g7 c7 w7 hown7 hgrow7 _; have HJ7 : Hid (Outs w7 w6.heap.size (some ⟨g7, 0, none⟩) c7 (Sp.bts l) ∧ Below w6.heap.size w6 w7) := by
        have hj := outs_join HE5.out (Below.refl _ _) hown7 (by simp [Sp.bts_len]) hgrow7
        rw [List.nil_append] at hj
        exact ⟨hj.1, ((Below.refl _ _).alloc (Nat.le_refl _) _).trans hj.2⟩
       clear hown7 hgrow7))
  refine (HD.out w7 _ g7 c7 _ (by omega) HJ7.out.1).mono ?_
  rintro e w8 ⟨v8, rfl, hb8, hv8⟩
  have HB8 : Hid (Below w.heap.size w w8) := below_to HBW.out (below_to HJ7.out.2 hb8)
  have HV8 : Hid (t.V w8 (Lo w8.heap.size) v8) := hv8
  clear hb8 hv8
  go_wp2_with fail
  refine (HET.out w8 v8 HV8.out).mono ?_
  rintro e w9 ⟨g9, cap9, rfl, ho9, hb9⟩
  have HB9 : Hid (Below w.heap.size w w9) := below_to HB8.out hb9
  have HO9 : Hid (Outs w9 0 (some ⟨g9, 0, none⟩) cap9 t.enc) := outs_low ho9
  clear hb9 ho9
  have hn3 : ¬ ((l.size : Int) < (n : Int)) := by omega
  have hn4 : ¬ ((n : Int) < 1) := by omega
  go_wp2_with fail
  refine (HSA.out w9 g9 cap9 HB9.out HO9.out).mono ?_
  rintro e w10 ⟨rfl, hb10⟩
  have HB10 : Hid (Below w.heap.size w w10) := below_to HB9.out hb10
  clear hb10
  go_wp2_with fail
  refine (HNil.out w10).mono ?_
  rintro e w11 ⟨g11, cap11, rfl, hc11, hb11⟩
  have HB11 : Hid (Below w.heap.size w w11) := below_to HB10.out hb11
  clear hb11
  go_wp2_with fail
  go_ret
  exact ⟨rfl, HB11.out⟩

set_option maxRecDepth 100000 in
set_option maxHeartbeats 4000000 in
theorem WForm_fx (x y : Tm) (cs ct : Array Value) (B : Nat → Prop) (w : World) (hx : x.In w B cs) (hy : y.In w B ct) (hB : Sub B w) (ab : Option Addr) (l : ByteArray) (cb : Nat) (hl : l.size ≤ 140737488355328) (hab : BytesAt w B ab l) (he : x.all.e = 0) (hf : y.all.e ≠ 0) (q : Nat) (er : Int) (hr : Sp.rdV (Sp.bts l) 64 0 0 = .bad q er) (her : er ≠ 0) :
    Calls Try.prog 6 #[.agg cs, .agg ct, .slice ab l.size cb] w fun e w' => e = .returned (.bool true) ∧ Below w.heap.size w w' := by
  have bx := Tm.In_bdd x cs hx
  have b_y := Tm.In_bdd y ct hy
  have HBx : Hid (∀ W, Below w.heap.size w W → Calls Try.prog 11 #[.agg cs] W fun e w' => ∃ v, e = .returned v ∧ Below W.heap.size W w' ∧ x.V w' (Lo w'.heap.size) v) := fun W hW => by
    refine (built_any x.sz x (Nat.le_refl _) cs B W (x.In_same (hB.same hW) (fun _ h => h) cs hx) (hB.later hW)).mono ?_
    rintro e w' ⟨v, rfl, hb, hv⟩
    exact ⟨v, rfl, hb, x.V_same (Same.refl _ _) (fun k hk => hk.2) v hv⟩
  have HBy : Hid (∀ W, Below w.heap.size w W → Calls Try.prog 11 #[.agg ct] W fun e w' => ∃ v, e = .returned v ∧ Below W.heap.size W w' ∧ y.V w' (Lo w'.heap.size) v) := fun W hW => by
    refine (built_any y.sz y (Nat.le_refl _) ct B W (y.In_same (hB.same hW) (fun _ h => h) ct hy) (hB.later hW)).mono ?_
    rintro e w' ⟨v, rfl, hb, hv⟩
    exact ⟨v, rfl, hb, y.V_same (Same.refl _ _) (fun k hk => hk.2) v hv⟩
  have HEx : Hid (∀ W v, x.V W (Lo W.heap.size) v → Calls Try.prog 23 #[v] W (EncE x W)) := fun W v hv => Encode_all x v W.heap.size W (Nat.le_refl _) hv bx
  have HEy : Hid (∀ W v, y.V W (Lo W.heap.size) v → Calls Try.prog 23 #[v] W (EncE y W)) := fun W v hv => Encode_all y v W.heap.size W (Nat.le_refl _) hv b_y
  have HSr : Hid (∀ W, Below w.heap.size w W → Src Try.prog 1 23 (.slice ab l.size cb) l.size (u8s (Sp.bts l)) W) := fun W hW => src_bytes l ab cb B W (hab.same (hB.same hW) (fun _ h => h))
  have HNil : Hid (∀ W, Calls Try.prog 23 #[.nilIface] W fun e w' => ∃ g cap, e = .returned (.tuple #[.slice (some ⟨g, 0, none⟩) 1 cap, .int .i64 0]) ∧ w'.cell? ⟨g, 0, none⟩ = some (.int .u8 1) ∧ Below W.heap.size W w') := Encode_nil
  have HD : Hid (∀ W base g cap m, m = l.size → Outs W base (some ⟨g, 0, none⟩) cap (Sp.bts l) → Calls Try.prog 25 #[.slice (some ⟨g, 0, none⟩) m cap] W fun e w' => e = .returned (.tuple #[.nilIface, .int .i64 (q : Int), .int .i64 er]) ∧ Below W.heap.size W w') := Decode_formB l q er hr her hl
  have her' : (er == 0) = false := by simp [her]
  clear hr her
  obtain ⟨i0, hi, hz0, hz1, hz2⟩ := info_parts Try.infoB
  obtain ⟨b1, i1, f1, tx1, vb1, rf1, vl1, vf1, c1, vr1, rfl⟩ := Tm.In_box hx
  obtain ⟨b2, i2, f2, tx2, vb2, rf2, vl2, vf2, c2, vr2, rfl⟩ := Tm.In_box hy
  unfold tcells at HBx HBy ⊢
  have H0 : Hid (Below w.heap.size w (two w #[.int .i64 x.kind, .bool b1, .int .i64 i1, .float .f64 f1, .string tx1, vb1, .int .u64 rf1, vl1, vf1, .string c1, .int .i64 vr1] #[.int .i64 y.kind, .bool b2, .int .i64 i2, .float .f64 f2, .string tx2, vb2, .int .u64 rf2, vl2, vf2, .string c2, .int .i64 vr2])) := two_bel _ _ _
  have HX : Hid (∀ W, Below (two w #[.int .i64 x.kind, .bool b1, .int .i64 i1, .float .f64 f1, .string tx1, vb1, .int .u64 rf1, vl1, vf1, .string c1, .int .i64 vr1] #[.int .i64 y.kind, .bool b2, .int .i64 i2, .float .f64 f2, .string tx2, vb2, .int .u64 rf2, vl2, vf2, .string c2, .int .i64 vr2]).heap.size (two w #[.int .i64 x.kind, .bool b1, .int .i64 i1, .float .f64 f1, .string tx1, vb1, .int .u64 rf1, vl1, vf1, .string c1, .int .i64 vr1] #[.int .i64 y.kind, .bool b2, .int .i64 i2, .float .f64 f2, .string tx2, vb2, .int .u64 rf2, vl2, vf2, .string c2, .int .i64 vr2]) W → (W.cell? ⟨w.heap.size, 0, none⟩ = some (.int .i64 x.kind) ∧ W.cell? ⟨w.heap.size, 1, none⟩ = some (.bool b1) ∧ W.cell? ⟨w.heap.size, 2, none⟩ = some (.int .i64 i1) ∧ W.cell? ⟨w.heap.size, 3, none⟩ = some (.float .f64 f1) ∧ W.cell? ⟨w.heap.size, 4, none⟩ = some (.string tx1) ∧ W.cell? ⟨w.heap.size, 5, none⟩ = some (vb1) ∧ W.cell? ⟨w.heap.size, 6, none⟩ = some (.int .u64 rf1) ∧ W.cell? ⟨w.heap.size, 7, none⟩ = some (vl1) ∧ W.cell? ⟨w.heap.size, 8, none⟩ = some (vf1) ∧ W.cell? ⟨w.heap.size, 9, none⟩ = some (.string c1) ∧ W.cell? ⟨w.heap.size, 10, none⟩ = some (.int .i64 vr1) ∧ W.cell? ⟨w.heap.size + 1, 0, none⟩ = some (.int .i64 y.kind) ∧ W.cell? ⟨w.heap.size + 1, 1, none⟩ = some (.bool b2) ∧ W.cell? ⟨w.heap.size + 1, 2, none⟩ = some (.int .i64 i2) ∧ W.cell? ⟨w.heap.size + 1, 3, none⟩ = some (.float .f64 f2) ∧ W.cell? ⟨w.heap.size + 1, 4, none⟩ = some (.string tx2) ∧ W.cell? ⟨w.heap.size + 1, 5, none⟩ = some (vb2) ∧ W.cell? ⟨w.heap.size + 1, 6, none⟩ = some (.int .u64 rf2) ∧ W.cell? ⟨w.heap.size + 1, 7, none⟩ = some (vl2) ∧ W.cell? ⟨w.heap.size + 1, 8, none⟩ = some (vf2) ∧ W.cell? ⟨w.heap.size + 1, 9, none⟩ = some (.string c2) ∧ W.cell? ⟨w.heap.size + 1, 10, none⟩ = some (.int .i64 vr2)) ∧ Below w.heap.size w W) := fun W hW => by
    have h : Tbx W w.heap.size x.kind b1 i1 f1 tx1 vb1 rf1 vl1 vf1 c1 vr1 ∧ Tbx W (w.heap.size + 1) y.kind b2 i2 f2 tx2 vb2 rf2 vl2 vf2 c2 vr2 := ⟨bx_of (two_a hW), bx_of (two_b hW)⟩
    simp only [Tbx, and_assoc] at h
    exact ⟨h, below_to H0.out hW⟩
  clear hx hy hab hB bx b_y
  have hf' : (y.all.e == 0) = false := by simp [hf]
  clear hf
  go_enter Try.func6, Try.ntmps6
  go_wp2_with fail
  refine (HBx.out _ H0.out).mono ?_
  rintro e w1 ⟨v1, rfl, hb1, hv1⟩
  have HB1 : Hid (Below (two w #[.int .i64 x.kind, .bool b1, .int .i64 i1, .float .f64 f1, .string tx1, vb1, .int .u64 rf1, vl1, vf1, .string c1, .int .i64 vr1] #[.int .i64 y.kind, .bool b2, .int .i64 i2, .float .f64 f2, .string tx2, vb2, .int .u64 rf2, vl2, vf2, .string c2, .int .i64 vr2]).heap.size (two w #[.int .i64 x.kind, .bool b1, .int .i64 i1, .float .f64 f1, .string tx1, vb1, .int .u64 rf1, vl1, vf1, .string c1, .int .i64 vr1] #[.int .i64 y.kind, .bool b2, .int .i64 i2, .float .f64 f2, .string tx2, vb2, .int .u64 rf2, vl2, vf2, .string c2, .int .i64 vr2]) w1) := hb1
  have HV1 : Hid (x.V w1 (Lo w1.heap.size) v1) := hv1
  clear hb1 hv1
  go_wp2_with fail
  refine (HEx.out w1 v1 HV1.out).mono ?_
  rintro e w2 ⟨m2, a2, cap2, rfl, HO2⟩
  have HB2 : Hid (Below (two w #[.int .i64 x.kind, .bool b1, .int .i64 i1, .float .f64 f1, .string tx1, vb1, .int .u64 rf1, vl1, vf1, .string c1, .int .i64 vr1] #[.int .i64 y.kind, .bool b2, .int .i64 i2, .float .f64 f2, .string tx2, vb2, .int .u64 rf2, vl2, vf2, .string c2, .int .i64 vr2]).heap.size (two w #[.int .i64 x.kind, .bool b1, .int .i64 i1, .float .f64 f1, .string tx1, vb1, .int .u64 rf1, vl1, vf1, .string c1, .int .i64 vr1] #[.int .i64 y.kind, .bool b2, .int .i64 i2, .float .f64 f2, .string tx2, vb2, .int .u64 rf2, vl2, vf2, .string c2, .int .i64 vr2]) w2) := below_to HB1.out HO2.out.2.2
  obtain ⟨z0, z1, z2, z3, z4, z5, z6, z7, z8, z9, z10, z11, z12, z13, z14, z15, z16, z17, z18, z19, z20, z21⟩ := (HX.out _ HB2.out).1
  go_wp2_with fail
  refine (HBy.out _ (HX.out _ HB2.out).2).mono ?_
  rintro e w3 ⟨v3, rfl, hb3, hv3⟩
  have HB3 : Hid (Below w2.heap.size w2 w3) := hb3
  have HV3 : Hid (y.V w3 (Lo w3.heap.size) v3) := hv3
  clear z0 z1 z2 z3 z4 z5 z6 z7 z8 z9 z10 z11 z12 z13 z14 z15 z16 z17 z18 z19 z20 z21 hb3 hv3
  go_wp2_with fail
  refine (HEy.out w3 v3 HV3.out).mono ?_
  rintro e w4 ⟨m4, a4, cap4, rfl, HO4⟩
  have HB4 : Hid (Below (two w #[.int .i64 x.kind, .bool b1, .int .i64 i1, .float .f64 f1, .string tx1, vb1, .int .u64 rf1, vl1, vf1, .string c1, .int .i64 vr1] #[.int .i64 y.kind, .bool b2, .int .i64 i2, .float .f64 f2, .string tx2, vb2, .int .u64 rf2, vl2, vf2, .string c2, .int .i64 vr2]).heap.size (two w #[.int .i64 x.kind, .bool b1, .int .i64 i1, .float .f64 f1, .string tx1, vb1, .int .u64 rf1, vl1, vf1, .string c1, .int .i64 vr1] #[.int .i64 y.kind, .bool b2, .int .i64 i2, .float .f64 f2, .string tx2, vb2, .int .u64 rf2, vl2, vf2, .string c2, .int .i64 vr2]) w4 ∧ Below w2.heap.size w2 w4) := ⟨below_to HB2.out (below_to HB3.out HO4.out.2.2), below_to HB3.out HO4.out.2.2⟩
  go_wp2_with fail
  go_quiet (fail)
  have HBq : Hid (Below w4.heap.size w4 (w4.drewN nq)) := below_drewN' _ _ _
  generalize w4.drewN nq = w6 at HBq ⊢
  have HE5 : Hid (Outs (w6.alloc (.cells #[] 5)) w6.heap.size (some ⟨w6.heap.size, 0, none⟩) 0 []) := outs_none w6
  have HBW : Hid (Below w.heap.size w w6) := below_to (HX.out _ HB4.out.1).2 HBq.out
  go_wp2_with (first
    | (at_builtin; refine wpList_app_src _ rfl _ _ 23 23 rfl w6.heap.size 5 i0 (.int .u8 0) 1 1 Try.undB hi hz0 hz1 hz2 rfl _ _ _ _ rfl HE5.out.1 _ _ _ rfl (HSr.out _ (HBW.out.trans (((Below.refl _ _).alloc (Nat.le_refl _) _).mono HBW.out.size))) (by unfold maxLen; simp; omega) (by simp; omega) HE5.out.2 ?_; intro g7 c7 w7 hown7 hgrow7 _; have HJ7 : Hid (Outs w7 w6.heap.size (some ⟨g7, 0, none⟩) c7 (Sp.bts l) ∧ Below w6.heap.size w6 w7) := by
        have hj := outs_join HE5.out (Below.refl _ _) hown7 (by simp [Sp.bts_len]) hgrow7
        rw [List.nil_append] at hj
        exact ⟨hj.1, ((Below.refl _ _).alloc (Nat.le_refl _) _).trans hj.2⟩
       clear hown7 hgrow7))
  refine (HD.out w7 _ g7 c7 _ (by omega) HJ7.out.1).mono ?_
  rintro e w10 ⟨rfl, hb8⟩
  have HB10 : Hid (Below w.heap.size w w10) := below_to HBW.out (below_to HJ7.out.2 hb8)
  clear hb8
  go_wp2_with fail
  refine (HNil.out w10).mono ?_
  rintro e w11 ⟨g11, cap11, rfl, hc11, hb11⟩
  have HB11 : Hid (Below w.heap.size w w11) := below_to HB10.out hb11
  clear hb11
  go_wp2_with fail
  go_ret
  exact ⟨rfl, HB11.out⟩

set_option maxRecDepth 100000 in
set_option maxHeartbeats 4000000 in
theorem WForm_bo (x y : Tm) (cs ct : Array Value) (B : Nat → Prop) (w : World) (hx : x.In w B cs) (hy : y.In w B ct) (hB : Sub B w) (ab : Option Addr) (l : ByteArray) (cb : Nat) (hl : l.size ≤ 140737488355328) (hab : BytesAt w B ab l) (he : x.all.e = 0) (hf : y.all.e = 0) (hcb : l.size ≤ cb) (t : Tm) (p2 n : Nat) (hr : Sp.rdV (Sp.bts l) 64 0 0 = .ok (t, p2) n) :
    Calls Try.prog 6 #[.agg cs, .agg ct, .slice ab l.size cb] w fun e w' => e = .returned (.bool true) ∧ Below w.heap.size w w' := by
  have bx := Tm.In_bdd x cs hx
  have b_y := Tm.In_bdd y ct hy
  have HBx : Hid (∀ W, Below w.heap.size w W → Calls Try.prog 11 #[.agg cs] W fun e w' => ∃ v, e = .returned v ∧ Below W.heap.size W w' ∧ x.V w' (Lo w'.heap.size) v) := fun W hW => by
    refine (built_any x.sz x (Nat.le_refl _) cs B W (x.In_same (hB.same hW) (fun _ h => h) cs hx) (hB.later hW)).mono ?_
    rintro e w' ⟨v, rfl, hb, hv⟩
    exact ⟨v, rfl, hb, x.V_same (Same.refl _ _) (fun k hk => hk.2) v hv⟩
  have HBy : Hid (∀ W, Below w.heap.size w W → Calls Try.prog 11 #[.agg ct] W fun e w' => ∃ v, e = .returned v ∧ Below W.heap.size W w' ∧ y.V w' (Lo w'.heap.size) v) := fun W hW => by
    refine (built_any y.sz y (Nat.le_refl _) ct B W (y.In_same (hB.same hW) (fun _ h => h) ct hy) (hB.later hW)).mono ?_
    rintro e w' ⟨v, rfl, hb, hv⟩
    exact ⟨v, rfl, hb, y.V_same (Same.refl _ _) (fun k hk => hk.2) v hv⟩
  have HEx : Hid (∀ W v, x.V W (Lo W.heap.size) v → Calls Try.prog 23 #[v] W (EncE x W)) := fun W v hv => Encode_all x v W.heap.size W (Nat.le_refl _) hv bx
  have HEy : Hid (∀ W v, y.V W (Lo W.heap.size) v → Calls Try.prog 23 #[v] W (EncE y W)) := fun W v hv => Encode_all y v W.heap.size W (Nat.le_refl _) hv b_y
  have HSr : Hid (∀ W, Below w.heap.size w W → Src Try.prog 1 23 (.slice ab l.size cb) l.size (u8s (Sp.bts l)) W) := fun W hW => src_bytes l ab cb B W (hab.same (hB.same hW) (fun _ h => h))
  have HNil : Hid (∀ W, Calls Try.prog 23 #[.nilIface] W fun e w' => ∃ g cap, e = .returned (.tuple #[.slice (some ⟨g, 0, none⟩) 1 cap, .int .i64 0]) ∧ w'.cell? ⟨g, 0, none⟩ = some (.int .u8 1) ∧ Below W.heap.size W w') := Encode_nil
  have hlx := Tm.enc_le he bx
  have hly := Tm.enc_le hf b_y
  have HSm : Hid (∀ W, Below w.heap.size w W → Calls Try.prog 22 #[.agg cs, .agg ct] W fun e w' => e = .returned (.bool (decide (x.enc = y.enc))) ∧ Below W.heap.size W w') := fun W hW => by
    have := xsame_any x.sz x y (Nat.le_refl _) (Tm.ok_all he) cs ct B W (x.In_same (hB.same hW) (fun _ h => h) cs hx) (y.In_same (hB.same hW) (fun _ h => h) ct hy) (hB.later hW)
    rw [sm_iff he hf bx b_y] at this; exact this
  have HEq : Hid (x.encE = x.enc ∧ y.encE = y.enc) := ⟨by unfold Tm.encE; rw [if_pos he], by unfold Tm.encE; rw [if_pos hf]⟩
  obtain ⟨h1, h2, h3, h4, h5, h6⟩ := rd_snd (bts_by l) hr
  rw [Sp.bts_len] at h5
  have hpos := t.enc_pos
  have hlt := Tm.enc_le h1 h2
  have HD : Hid (∀ W base g cap m, m = l.size → Outs W base (some ⟨g, 0, none⟩) cap (Sp.bts l) → Calls Try.prog 25 #[.slice (some ⟨g, 0, none⟩) m cap] W fun e w' => ∃ v, e = .returned (.tuple #[v, .int .i64 (n : Int), .int .i64 0]) ∧ Below W.heap.size W w' ∧ t.V w' (Lo w'.heap.size) v) := Decode_form l t p2 n hr hl
  have HET : Hid (∀ W v, t.V W (Lo W.heap.size) v → Calls Try.prog 23 #[v] W fun e w' => ∃ g cap, e = .returned (.tuple #[.slice (some ⟨g, 0, none⟩) n cap, .int .i64 0]) ∧ Outs w' W.heap.size (some ⟨g, 0, none⟩) cap t.enc ∧ Below W.heap.size W w') := fun W v hv => by
    have := Encode_ok t v W.heap.size W (Nat.le_refl _) hv h2 h1
    rw [← h4] at this; exact this
  obtain ⟨gb, ob, rfl⟩ : ∃ gb ob, ab = some ⟨gb, ob, none⟩ := by
    obtain ⟨g, o, e, _⟩ := hab 0 (by omega)
    exact ⟨g, o, e⟩
  have HSA : Hid (∀ W g cap, Below w.heap.size w W → Outs W 0 (some ⟨g, 0, none⟩) cap t.enc → Calls Try.prog 24 #[.slice (some ⟨g, 0, none⟩) n cap, .slice (some ⟨gb, ob, none⟩) n cb] W fun e w' => e = .returned (.bool true) ∧ Below W.heap.size W w') := fun W g cap hW ho => by
    have hrd := rd_bts (hab.same (hB.same hW) (fun k hk => hB.later hW k hk))
    have := wsame_dec t.enc ((Sp.bts l).take n) (some ⟨g, 0, none⟩) (some ⟨gb, ob, none⟩) cap cb W n n h4 (by rw [List.length_take, Sp.bts_len]; omega) (by omega) (outs_rd ho).1 (hrd.take n)
    rw [h6, decide_eq_true rfl] at this; exact this
  have hn1 : 1 ≤ n := by omega
  have hn2 : n ≤ l.size := by omega
  clear h1 h2 h3 h4 h5 h6 hr hpos hlt
  obtain ⟨i0, hi, hz0, hz1, hz2⟩ := info_parts Try.infoB
  obtain ⟨b1, i1, f1, tx1, vb1, rf1, vl1, vf1, c1, vr1, rfl⟩ := Tm.In_box hx
  obtain ⟨b2, i2, f2, tx2, vb2, rf2, vl2, vf2, c2, vr2, rfl⟩ := Tm.In_box hy
  unfold tcells at HBx HBy HSm ⊢
  have H0 : Hid (Below w.heap.size w (two w #[.int .i64 x.kind, .bool b1, .int .i64 i1, .float .f64 f1, .string tx1, vb1, .int .u64 rf1, vl1, vf1, .string c1, .int .i64 vr1] #[.int .i64 y.kind, .bool b2, .int .i64 i2, .float .f64 f2, .string tx2, vb2, .int .u64 rf2, vl2, vf2, .string c2, .int .i64 vr2])) := two_bel _ _ _
  have HX : Hid (∀ W, Below (two w #[.int .i64 x.kind, .bool b1, .int .i64 i1, .float .f64 f1, .string tx1, vb1, .int .u64 rf1, vl1, vf1, .string c1, .int .i64 vr1] #[.int .i64 y.kind, .bool b2, .int .i64 i2, .float .f64 f2, .string tx2, vb2, .int .u64 rf2, vl2, vf2, .string c2, .int .i64 vr2]).heap.size (two w #[.int .i64 x.kind, .bool b1, .int .i64 i1, .float .f64 f1, .string tx1, vb1, .int .u64 rf1, vl1, vf1, .string c1, .int .i64 vr1] #[.int .i64 y.kind, .bool b2, .int .i64 i2, .float .f64 f2, .string tx2, vb2, .int .u64 rf2, vl2, vf2, .string c2, .int .i64 vr2]) W → (W.cell? ⟨w.heap.size, 0, none⟩ = some (.int .i64 x.kind) ∧ W.cell? ⟨w.heap.size, 1, none⟩ = some (.bool b1) ∧ W.cell? ⟨w.heap.size, 2, none⟩ = some (.int .i64 i1) ∧ W.cell? ⟨w.heap.size, 3, none⟩ = some (.float .f64 f1) ∧ W.cell? ⟨w.heap.size, 4, none⟩ = some (.string tx1) ∧ W.cell? ⟨w.heap.size, 5, none⟩ = some (vb1) ∧ W.cell? ⟨w.heap.size, 6, none⟩ = some (.int .u64 rf1) ∧ W.cell? ⟨w.heap.size, 7, none⟩ = some (vl1) ∧ W.cell? ⟨w.heap.size, 8, none⟩ = some (vf1) ∧ W.cell? ⟨w.heap.size, 9, none⟩ = some (.string c1) ∧ W.cell? ⟨w.heap.size, 10, none⟩ = some (.int .i64 vr1) ∧ W.cell? ⟨w.heap.size + 1, 0, none⟩ = some (.int .i64 y.kind) ∧ W.cell? ⟨w.heap.size + 1, 1, none⟩ = some (.bool b2) ∧ W.cell? ⟨w.heap.size + 1, 2, none⟩ = some (.int .i64 i2) ∧ W.cell? ⟨w.heap.size + 1, 3, none⟩ = some (.float .f64 f2) ∧ W.cell? ⟨w.heap.size + 1, 4, none⟩ = some (.string tx2) ∧ W.cell? ⟨w.heap.size + 1, 5, none⟩ = some (vb2) ∧ W.cell? ⟨w.heap.size + 1, 6, none⟩ = some (.int .u64 rf2) ∧ W.cell? ⟨w.heap.size + 1, 7, none⟩ = some (vl2) ∧ W.cell? ⟨w.heap.size + 1, 8, none⟩ = some (vf2) ∧ W.cell? ⟨w.heap.size + 1, 9, none⟩ = some (.string c2) ∧ W.cell? ⟨w.heap.size + 1, 10, none⟩ = some (.int .i64 vr2)) ∧ Below w.heap.size w W) := fun W hW => by
    have h : Tbx W w.heap.size x.kind b1 i1 f1 tx1 vb1 rf1 vl1 vf1 c1 vr1 ∧ Tbx W (w.heap.size + 1) y.kind b2 i2 f2 tx2 vb2 rf2 vl2 vf2 c2 vr2 := ⟨bx_of (two_a hW), bx_of (two_b hW)⟩
    simp only [Tbx, and_assoc] at h
    exact ⟨h, below_to H0.out hW⟩
  clear hx hy hab hB bx b_y
  go_enter Try.func6, Try.ntmps6
  go_wp2_with fail
  refine (HBx.out _ H0.out).mono ?_
  rintro e w1 ⟨v1, rfl, hb1, hv1⟩
  have HB1 : Hid (Below (two w #[.int .i64 x.kind, .bool b1, .int .i64 i1, .float .f64 f1, .string tx1, vb1, .int .u64 rf1, vl1, vf1, .string c1, .int .i64 vr1] #[.int .i64 y.kind, .bool b2, .int .i64 i2, .float .f64 f2, .string tx2, vb2, .int .u64 rf2, vl2, vf2, .string c2, .int .i64 vr2]).heap.size (two w #[.int .i64 x.kind, .bool b1, .int .i64 i1, .float .f64 f1, .string tx1, vb1, .int .u64 rf1, vl1, vf1, .string c1, .int .i64 vr1] #[.int .i64 y.kind, .bool b2, .int .i64 i2, .float .f64 f2, .string tx2, vb2, .int .u64 rf2, vl2, vf2, .string c2, .int .i64 vr2]) w1) := hb1
  have HV1 : Hid (x.V w1 (Lo w1.heap.size) v1) := hv1
  clear hb1 hv1
  go_wp2_with fail
  refine (HEx.out w1 v1 HV1.out).mono ?_
  rintro e w2 ⟨m2, a2, cap2, rfl, HO2⟩
  have HB2 : Hid (Below (two w #[.int .i64 x.kind, .bool b1, .int .i64 i1, .float .f64 f1, .string tx1, vb1, .int .u64 rf1, vl1, vf1, .string c1, .int .i64 vr1] #[.int .i64 y.kind, .bool b2, .int .i64 i2, .float .f64 f2, .string tx2, vb2, .int .u64 rf2, vl2, vf2, .string c2, .int .i64 vr2]).heap.size (two w #[.int .i64 x.kind, .bool b1, .int .i64 i1, .float .f64 f1, .string tx1, vb1, .int .u64 rf1, vl1, vf1, .string c1, .int .i64 vr1] #[.int .i64 y.kind, .bool b2, .int .i64 i2, .float .f64 f2, .string tx2, vb2, .int .u64 rf2, vl2, vf2, .string c2, .int .i64 vr2]) w2) := below_to HB1.out HO2.out.2.2
  obtain ⟨z0, z1, z2, z3, z4, z5, z6, z7, z8, z9, z10, z11, z12, z13, z14, z15, z16, z17, z18, z19, z20, z21⟩ := (HX.out _ HB2.out).1
  go_wp2_with fail
  refine (HBy.out _ (HX.out _ HB2.out).2).mono ?_
  rintro e w3 ⟨v3, rfl, hb3, hv3⟩
  have HB3 : Hid (Below w2.heap.size w2 w3) := hb3
  have HV3 : Hid (y.V w3 (Lo w3.heap.size) v3) := hv3
  clear z0 z1 z2 z3 z4 z5 z6 z7 z8 z9 z10 z11 z12 z13 z14 z15 z16 z17 z18 z19 z20 z21 hb3 hv3
  go_wp2_with fail
  refine (HEy.out w3 v3 HV3.out).mono ?_
  rintro e w4 ⟨m4, a4, cap4, rfl, HO4⟩
  have HB4 : Hid (Below (two w #[.int .i64 x.kind, .bool b1, .int .i64 i1, .float .f64 f1, .string tx1, vb1, .int .u64 rf1, vl1, vf1, .string c1, .int .i64 vr1] #[.int .i64 y.kind, .bool b2, .int .i64 i2, .float .f64 f2, .string tx2, vb2, .int .u64 rf2, vl2, vf2, .string c2, .int .i64 vr2]).heap.size (two w #[.int .i64 x.kind, .bool b1, .int .i64 i1, .float .f64 f1, .string tx1, vb1, .int .u64 rf1, vl1, vf1, .string c1, .int .i64 vr1] #[.int .i64 y.kind, .bool b2, .int .i64 i2, .float .f64 f2, .string tx2, vb2, .int .u64 rf2, vl2, vf2, .string c2, .int .i64 vr2]) w4 ∧ Below w2.heap.size w2 w4) := ⟨below_to HB2.out (below_to HB3.out HO4.out.2.2), below_to HB3.out HO4.out.2.2⟩
  have HSS : Hid (∀ W, Below w4.heap.size w4 W → Calls Try.prog 24 #[.slice a2 m2 cap2, .slice a4 m4 cap4] W fun e w' => e = .returned (.bool (decide (x.enc = y.enc))) ∧ Below W.heap.size W w') := fun W hW => by
    obtain ⟨hm2, ho2, _⟩ := HO2.out
    obtain ⟨hm4, ho4, _⟩ := HO4.out
    rw [HEq.out.1] at hm2 ho2
    rw [HEq.out.2] at hm4 ho4
    have hb24 : Below w2.heap.size w2 W := below_to HB4.out.2 hW
    exact wsame_dec x.enc y.enc a2 a4 cap2 cap4 W m2 m4 hm2 hm4 (by omega) (outs_rdO (outs_call ho2 hb24)) (outs_rdO (outs_call ho4 hW))
  have HG : Hid (∀ W, Below w4.heap.size w4 W → (W.cell? ⟨w.heap.size, 0, none⟩ = some (.int .i64 x.kind) ∧ W.cell? ⟨w.heap.size, 1, none⟩ = some (.bool b1) ∧ W.cell? ⟨w.heap.size, 2, none⟩ = some (.int .i64 i1) ∧ W.cell? ⟨w.heap.size, 3, none⟩ = some (.float .f64 f1) ∧ W.cell? ⟨w.heap.size, 4, none⟩ = some (.string tx1) ∧ W.cell? ⟨w.heap.size, 5, none⟩ = some (vb1) ∧ W.cell? ⟨w.heap.size, 6, none⟩ = some (.int .u64 rf1) ∧ W.cell? ⟨w.heap.size, 7, none⟩ = some (vl1) ∧ W.cell? ⟨w.heap.size, 8, none⟩ = some (vf1) ∧ W.cell? ⟨w.heap.size, 9, none⟩ = some (.string c1) ∧ W.cell? ⟨w.heap.size, 10, none⟩ = some (.int .i64 vr1) ∧ W.cell? ⟨w.heap.size + 1, 0, none⟩ = some (.int .i64 y.kind) ∧ W.cell? ⟨w.heap.size + 1, 1, none⟩ = some (.bool b2) ∧ W.cell? ⟨w.heap.size + 1, 2, none⟩ = some (.int .i64 i2) ∧ W.cell? ⟨w.heap.size + 1, 3, none⟩ = some (.float .f64 f2) ∧ W.cell? ⟨w.heap.size + 1, 4, none⟩ = some (.string tx2) ∧ W.cell? ⟨w.heap.size + 1, 5, none⟩ = some (vb2) ∧ W.cell? ⟨w.heap.size + 1, 6, none⟩ = some (.int .u64 rf2) ∧ W.cell? ⟨w.heap.size + 1, 7, none⟩ = some (vl2) ∧ W.cell? ⟨w.heap.size + 1, 8, none⟩ = some (vf2) ∧ W.cell? ⟨w.heap.size + 1, 9, none⟩ = some (.string c2) ∧ W.cell? ⟨w.heap.size + 1, 10, none⟩ = some (.int .i64 vr2)) ∧ Below w.heap.size w W) := fun W hW => HX.out W (below_to HB4.out.1 hW)
  generalize decide (x.enc = y.enc) = sm at HSS HSm
  go_wp2_with fail
  go_region_held3 (fun W => W.cell? ⟨w.heap.size, 0, none⟩ = some (.int .i64 x.kind) ∧ W.cell? ⟨w.heap.size, 1, none⟩ = some (.bool b1) ∧ W.cell? ⟨w.heap.size, 2, none⟩ = some (.int .i64 i1) ∧ W.cell? ⟨w.heap.size, 3, none⟩ = some (.float .f64 f1) ∧ W.cell? ⟨w.heap.size, 4, none⟩ = some (.string tx1) ∧ W.cell? ⟨w.heap.size, 5, none⟩ = some (vb1) ∧ W.cell? ⟨w.heap.size, 6, none⟩ = some (.int .u64 rf1) ∧ W.cell? ⟨w.heap.size, 7, none⟩ = some (vl1) ∧ W.cell? ⟨w.heap.size, 8, none⟩ = some (vf1) ∧ W.cell? ⟨w.heap.size, 9, none⟩ = some (.string c1) ∧ W.cell? ⟨w.heap.size, 10, none⟩ = some (.int .i64 vr1) ∧ W.cell? ⟨w.heap.size + 1, 0, none⟩ = some (.int .i64 y.kind) ∧ W.cell? ⟨w.heap.size + 1, 1, none⟩ = some (.bool b2) ∧ W.cell? ⟨w.heap.size + 1, 2, none⟩ = some (.int .i64 i2) ∧ W.cell? ⟨w.heap.size + 1, 3, none⟩ = some (.float .f64 f2) ∧ W.cell? ⟨w.heap.size + 1, 4, none⟩ = some (.string tx2) ∧ W.cell? ⟨w.heap.size + 1, 5, none⟩ = some (vb2) ∧ W.cell? ⟨w.heap.size + 1, 6, none⟩ = some (.int .u64 rf2) ∧ W.cell? ⟨w.heap.size + 1, 7, none⟩ = some (vl2) ∧ W.cell? ⟨w.heap.size + 1, 8, none⟩ = some (vf2) ∧ W.cell? ⟨w.heap.size + 1, 9, none⟩ = some (.string c2) ∧ W.cell? ⟨w.heap.size + 1, 10, none⟩ = some (.int .i64 vr2))
    (first | with_reducible exact (HG.out w6 HB6.out).1 | with_reducible exact (HG.out w5 HB5.out).1 | with_reducible exact (HG.out _ (Below.refl _ _)).1 | with_reducible exact (HG.out _ (Below.refl _ _).drew).1)
    ((first
      | (go_at_call 22; have hq := HB5.out; refine (HSm.out _ (HG.out _ hq).2).mono ?_; rintro e w6 ⟨rfl, hb6⟩; have HB6 : Hid (Below w4.heap.size w4 w6) := below_to HB5.out hb6; clear hb6 hq)
      | (go_at_call 24; refine (HSS.out _ ?_).mono ?_; exact (Below.refl _ _).drew; rintro e w5 ⟨rfl, hb5⟩; have HB5 : Hid (Below w4.heap.size w4 w5) := below_to (Below.refl _ _).drew hb5; clear hb5)))
  have HE5 : Hid (Outs (w6.alloc (.cells #[] 5)) w6.heap.size (some ⟨w6.heap.size, 0, none⟩) 0 []) := outs_none w6
  have HBW : Hid (Below w.heap.size w w6) := (HG.out _ HB6.out).2
  have hsm : (sm != sm) = false := by cases sm <;> rfl
  go_wp2_with (first
    | (at_builtin; refine wpList_app_src _ rfl _ _ 23 23 rfl w6.heap.size 5 i0 (.int .u8 0) 1 1 Try.undB hi hz0 hz1 hz2 rfl _ _ _ _ rfl HE5.out.1 _ _ _ rfl (HSr.out _ (HBW.out.trans (((Below.refl _ _).alloc (Nat.le_refl _) _).mono HBW.out.size))) (by unfold maxLen; simp; omega) (by simp; omega) HE5.out.2 ?_; intro g7 c7 w7 hown7 hgrow7 _; have HJ7 : Hid (Outs w7 w6.heap.size (some ⟨g7, 0, none⟩) c7 (Sp.bts l) ∧ Below w6.heap.size w6 w7) := by
        have hj := outs_join HE5.out (Below.refl _ _) hown7 (by simp [Sp.bts_len]) hgrow7
        rw [List.nil_append] at hj
        exact ⟨hj.1, ((Below.refl _ _).alloc (Nat.le_refl _) _).trans hj.2⟩
       clear hown7 hgrow7))
  refine (HD.out w7 _ g7 c7 _ (by omega) HJ7.out.1).mono ?_
  rintro e w8 ⟨v8, rfl, hb8, hv8⟩
  have HB8 : Hid (Below w.heap.size w w8) := below_to HBW.out (below_to HJ7.out.2 hb8)
  have HV8 : Hid (t.V w8 (Lo w8.heap.size) v8) := hv8
  clear hb8 hv8
  go_wp2_with fail
  refine (HET.out w8 v8 HV8.out).mono ?_
  rintro e w9 ⟨g9, cap9, rfl, ho9, hb9⟩
  have HB9 : Hid (Below w.heap.size w w9) := below_to HB8.out hb9
  have HO9 : Hid (Outs w9 0 (some ⟨g9, 0, none⟩) cap9 t.enc) := outs_low ho9
  clear hb9 ho9
  have hn3 : ¬ ((l.size : Int) < (n : Int)) := by omega
  have hn4 : ¬ ((n : Int) < 1) := by omega
  go_wp2_with fail
  refine (HSA.out w9 g9 cap9 HB9.out HO9.out).mono ?_
  rintro e w10 ⟨rfl, hb10⟩
  have HB10 : Hid (Below w.heap.size w w10) := below_to HB9.out hb10
  clear hb10
  go_wp2_with fail
  refine (HNil.out w10).mono ?_
  rintro e w11 ⟨g11, cap11, rfl, hc11, hb11⟩
  have HB11 : Hid (Below w.heap.size w w11) := below_to HB10.out hb11
  clear hb11
  go_wp2_with fail
  go_ret
  exact ⟨rfl, HB11.out⟩

set_option maxRecDepth 100000 in
set_option maxHeartbeats 4000000 in
theorem WForm_bx (x y : Tm) (cs ct : Array Value) (B : Nat → Prop) (w : World) (hx : x.In w B cs) (hy : y.In w B ct) (hB : Sub B w) (ab : Option Addr) (l : ByteArray) (cb : Nat) (hl : l.size ≤ 140737488355328) (hab : BytesAt w B ab l) (he : x.all.e = 0) (hf : y.all.e = 0) (q : Nat) (er : Int) (hr : Sp.rdV (Sp.bts l) 64 0 0 = .bad q er) (her : er ≠ 0) :
    Calls Try.prog 6 #[.agg cs, .agg ct, .slice ab l.size cb] w fun e w' => e = .returned (.bool true) ∧ Below w.heap.size w w' := by
  have bx := Tm.In_bdd x cs hx
  have b_y := Tm.In_bdd y ct hy
  have HBx : Hid (∀ W, Below w.heap.size w W → Calls Try.prog 11 #[.agg cs] W fun e w' => ∃ v, e = .returned v ∧ Below W.heap.size W w' ∧ x.V w' (Lo w'.heap.size) v) := fun W hW => by
    refine (built_any x.sz x (Nat.le_refl _) cs B W (x.In_same (hB.same hW) (fun _ h => h) cs hx) (hB.later hW)).mono ?_
    rintro e w' ⟨v, rfl, hb, hv⟩
    exact ⟨v, rfl, hb, x.V_same (Same.refl _ _) (fun k hk => hk.2) v hv⟩
  have HBy : Hid (∀ W, Below w.heap.size w W → Calls Try.prog 11 #[.agg ct] W fun e w' => ∃ v, e = .returned v ∧ Below W.heap.size W w' ∧ y.V w' (Lo w'.heap.size) v) := fun W hW => by
    refine (built_any y.sz y (Nat.le_refl _) ct B W (y.In_same (hB.same hW) (fun _ h => h) ct hy) (hB.later hW)).mono ?_
    rintro e w' ⟨v, rfl, hb, hv⟩
    exact ⟨v, rfl, hb, y.V_same (Same.refl _ _) (fun k hk => hk.2) v hv⟩
  have HEx : Hid (∀ W v, x.V W (Lo W.heap.size) v → Calls Try.prog 23 #[v] W (EncE x W)) := fun W v hv => Encode_all x v W.heap.size W (Nat.le_refl _) hv bx
  have HEy : Hid (∀ W v, y.V W (Lo W.heap.size) v → Calls Try.prog 23 #[v] W (EncE y W)) := fun W v hv => Encode_all y v W.heap.size W (Nat.le_refl _) hv b_y
  have HSr : Hid (∀ W, Below w.heap.size w W → Src Try.prog 1 23 (.slice ab l.size cb) l.size (u8s (Sp.bts l)) W) := fun W hW => src_bytes l ab cb B W (hab.same (hB.same hW) (fun _ h => h))
  have HNil : Hid (∀ W, Calls Try.prog 23 #[.nilIface] W fun e w' => ∃ g cap, e = .returned (.tuple #[.slice (some ⟨g, 0, none⟩) 1 cap, .int .i64 0]) ∧ w'.cell? ⟨g, 0, none⟩ = some (.int .u8 1) ∧ Below W.heap.size W w') := Encode_nil
  have hlx := Tm.enc_le he bx
  have hly := Tm.enc_le hf b_y
  have HSm : Hid (∀ W, Below w.heap.size w W → Calls Try.prog 22 #[.agg cs, .agg ct] W fun e w' => e = .returned (.bool (decide (x.enc = y.enc))) ∧ Below W.heap.size W w') := fun W hW => by
    have := xsame_any x.sz x y (Nat.le_refl _) (Tm.ok_all he) cs ct B W (x.In_same (hB.same hW) (fun _ h => h) cs hx) (y.In_same (hB.same hW) (fun _ h => h) ct hy) (hB.later hW)
    rw [sm_iff he hf bx b_y] at this; exact this
  have HEq : Hid (x.encE = x.enc ∧ y.encE = y.enc) := ⟨by unfold Tm.encE; rw [if_pos he], by unfold Tm.encE; rw [if_pos hf]⟩
  have HD : Hid (∀ W base g cap m, m = l.size → Outs W base (some ⟨g, 0, none⟩) cap (Sp.bts l) → Calls Try.prog 25 #[.slice (some ⟨g, 0, none⟩) m cap] W fun e w' => e = .returned (.tuple #[.nilIface, .int .i64 (q : Int), .int .i64 er]) ∧ Below W.heap.size W w') := Decode_formB l q er hr her hl
  have her' : (er == 0) = false := by simp [her]
  clear hr her
  obtain ⟨i0, hi, hz0, hz1, hz2⟩ := info_parts Try.infoB
  obtain ⟨b1, i1, f1, tx1, vb1, rf1, vl1, vf1, c1, vr1, rfl⟩ := Tm.In_box hx
  obtain ⟨b2, i2, f2, tx2, vb2, rf2, vl2, vf2, c2, vr2, rfl⟩ := Tm.In_box hy
  unfold tcells at HBx HBy HSm ⊢
  have H0 : Hid (Below w.heap.size w (two w #[.int .i64 x.kind, .bool b1, .int .i64 i1, .float .f64 f1, .string tx1, vb1, .int .u64 rf1, vl1, vf1, .string c1, .int .i64 vr1] #[.int .i64 y.kind, .bool b2, .int .i64 i2, .float .f64 f2, .string tx2, vb2, .int .u64 rf2, vl2, vf2, .string c2, .int .i64 vr2])) := two_bel _ _ _
  have HX : Hid (∀ W, Below (two w #[.int .i64 x.kind, .bool b1, .int .i64 i1, .float .f64 f1, .string tx1, vb1, .int .u64 rf1, vl1, vf1, .string c1, .int .i64 vr1] #[.int .i64 y.kind, .bool b2, .int .i64 i2, .float .f64 f2, .string tx2, vb2, .int .u64 rf2, vl2, vf2, .string c2, .int .i64 vr2]).heap.size (two w #[.int .i64 x.kind, .bool b1, .int .i64 i1, .float .f64 f1, .string tx1, vb1, .int .u64 rf1, vl1, vf1, .string c1, .int .i64 vr1] #[.int .i64 y.kind, .bool b2, .int .i64 i2, .float .f64 f2, .string tx2, vb2, .int .u64 rf2, vl2, vf2, .string c2, .int .i64 vr2]) W → (W.cell? ⟨w.heap.size, 0, none⟩ = some (.int .i64 x.kind) ∧ W.cell? ⟨w.heap.size, 1, none⟩ = some (.bool b1) ∧ W.cell? ⟨w.heap.size, 2, none⟩ = some (.int .i64 i1) ∧ W.cell? ⟨w.heap.size, 3, none⟩ = some (.float .f64 f1) ∧ W.cell? ⟨w.heap.size, 4, none⟩ = some (.string tx1) ∧ W.cell? ⟨w.heap.size, 5, none⟩ = some (vb1) ∧ W.cell? ⟨w.heap.size, 6, none⟩ = some (.int .u64 rf1) ∧ W.cell? ⟨w.heap.size, 7, none⟩ = some (vl1) ∧ W.cell? ⟨w.heap.size, 8, none⟩ = some (vf1) ∧ W.cell? ⟨w.heap.size, 9, none⟩ = some (.string c1) ∧ W.cell? ⟨w.heap.size, 10, none⟩ = some (.int .i64 vr1) ∧ W.cell? ⟨w.heap.size + 1, 0, none⟩ = some (.int .i64 y.kind) ∧ W.cell? ⟨w.heap.size + 1, 1, none⟩ = some (.bool b2) ∧ W.cell? ⟨w.heap.size + 1, 2, none⟩ = some (.int .i64 i2) ∧ W.cell? ⟨w.heap.size + 1, 3, none⟩ = some (.float .f64 f2) ∧ W.cell? ⟨w.heap.size + 1, 4, none⟩ = some (.string tx2) ∧ W.cell? ⟨w.heap.size + 1, 5, none⟩ = some (vb2) ∧ W.cell? ⟨w.heap.size + 1, 6, none⟩ = some (.int .u64 rf2) ∧ W.cell? ⟨w.heap.size + 1, 7, none⟩ = some (vl2) ∧ W.cell? ⟨w.heap.size + 1, 8, none⟩ = some (vf2) ∧ W.cell? ⟨w.heap.size + 1, 9, none⟩ = some (.string c2) ∧ W.cell? ⟨w.heap.size + 1, 10, none⟩ = some (.int .i64 vr2)) ∧ Below w.heap.size w W) := fun W hW => by
    have h : Tbx W w.heap.size x.kind b1 i1 f1 tx1 vb1 rf1 vl1 vf1 c1 vr1 ∧ Tbx W (w.heap.size + 1) y.kind b2 i2 f2 tx2 vb2 rf2 vl2 vf2 c2 vr2 := ⟨bx_of (two_a hW), bx_of (two_b hW)⟩
    simp only [Tbx, and_assoc] at h
    exact ⟨h, below_to H0.out hW⟩
  clear hx hy hab hB bx b_y
  go_enter Try.func6, Try.ntmps6
  go_wp2_with fail
  refine (HBx.out _ H0.out).mono ?_
  rintro e w1 ⟨v1, rfl, hb1, hv1⟩
  have HB1 : Hid (Below (two w #[.int .i64 x.kind, .bool b1, .int .i64 i1, .float .f64 f1, .string tx1, vb1, .int .u64 rf1, vl1, vf1, .string c1, .int .i64 vr1] #[.int .i64 y.kind, .bool b2, .int .i64 i2, .float .f64 f2, .string tx2, vb2, .int .u64 rf2, vl2, vf2, .string c2, .int .i64 vr2]).heap.size (two w #[.int .i64 x.kind, .bool b1, .int .i64 i1, .float .f64 f1, .string tx1, vb1, .int .u64 rf1, vl1, vf1, .string c1, .int .i64 vr1] #[.int .i64 y.kind, .bool b2, .int .i64 i2, .float .f64 f2, .string tx2, vb2, .int .u64 rf2, vl2, vf2, .string c2, .int .i64 vr2]) w1) := hb1
  have HV1 : Hid (x.V w1 (Lo w1.heap.size) v1) := hv1
  clear hb1 hv1
  go_wp2_with fail
  refine (HEx.out w1 v1 HV1.out).mono ?_
  rintro e w2 ⟨m2, a2, cap2, rfl, HO2⟩
  have HB2 : Hid (Below (two w #[.int .i64 x.kind, .bool b1, .int .i64 i1, .float .f64 f1, .string tx1, vb1, .int .u64 rf1, vl1, vf1, .string c1, .int .i64 vr1] #[.int .i64 y.kind, .bool b2, .int .i64 i2, .float .f64 f2, .string tx2, vb2, .int .u64 rf2, vl2, vf2, .string c2, .int .i64 vr2]).heap.size (two w #[.int .i64 x.kind, .bool b1, .int .i64 i1, .float .f64 f1, .string tx1, vb1, .int .u64 rf1, vl1, vf1, .string c1, .int .i64 vr1] #[.int .i64 y.kind, .bool b2, .int .i64 i2, .float .f64 f2, .string tx2, vb2, .int .u64 rf2, vl2, vf2, .string c2, .int .i64 vr2]) w2) := below_to HB1.out HO2.out.2.2
  obtain ⟨z0, z1, z2, z3, z4, z5, z6, z7, z8, z9, z10, z11, z12, z13, z14, z15, z16, z17, z18, z19, z20, z21⟩ := (HX.out _ HB2.out).1
  go_wp2_with fail
  refine (HBy.out _ (HX.out _ HB2.out).2).mono ?_
  rintro e w3 ⟨v3, rfl, hb3, hv3⟩
  have HB3 : Hid (Below w2.heap.size w2 w3) := hb3
  have HV3 : Hid (y.V w3 (Lo w3.heap.size) v3) := hv3
  clear z0 z1 z2 z3 z4 z5 z6 z7 z8 z9 z10 z11 z12 z13 z14 z15 z16 z17 z18 z19 z20 z21 hb3 hv3
  go_wp2_with fail
  refine (HEy.out w3 v3 HV3.out).mono ?_
  rintro e w4 ⟨m4, a4, cap4, rfl, HO4⟩
  have HB4 : Hid (Below (two w #[.int .i64 x.kind, .bool b1, .int .i64 i1, .float .f64 f1, .string tx1, vb1, .int .u64 rf1, vl1, vf1, .string c1, .int .i64 vr1] #[.int .i64 y.kind, .bool b2, .int .i64 i2, .float .f64 f2, .string tx2, vb2, .int .u64 rf2, vl2, vf2, .string c2, .int .i64 vr2]).heap.size (two w #[.int .i64 x.kind, .bool b1, .int .i64 i1, .float .f64 f1, .string tx1, vb1, .int .u64 rf1, vl1, vf1, .string c1, .int .i64 vr1] #[.int .i64 y.kind, .bool b2, .int .i64 i2, .float .f64 f2, .string tx2, vb2, .int .u64 rf2, vl2, vf2, .string c2, .int .i64 vr2]) w4 ∧ Below w2.heap.size w2 w4) := ⟨below_to HB2.out (below_to HB3.out HO4.out.2.2), below_to HB3.out HO4.out.2.2⟩
  have HSS : Hid (∀ W, Below w4.heap.size w4 W → Calls Try.prog 24 #[.slice a2 m2 cap2, .slice a4 m4 cap4] W fun e w' => e = .returned (.bool (decide (x.enc = y.enc))) ∧ Below W.heap.size W w') := fun W hW => by
    obtain ⟨hm2, ho2, _⟩ := HO2.out
    obtain ⟨hm4, ho4, _⟩ := HO4.out
    rw [HEq.out.1] at hm2 ho2
    rw [HEq.out.2] at hm4 ho4
    have hb24 : Below w2.heap.size w2 W := below_to HB4.out.2 hW
    exact wsame_dec x.enc y.enc a2 a4 cap2 cap4 W m2 m4 hm2 hm4 (by omega) (outs_rdO (outs_call ho2 hb24)) (outs_rdO (outs_call ho4 hW))
  have HG : Hid (∀ W, Below w4.heap.size w4 W → (W.cell? ⟨w.heap.size, 0, none⟩ = some (.int .i64 x.kind) ∧ W.cell? ⟨w.heap.size, 1, none⟩ = some (.bool b1) ∧ W.cell? ⟨w.heap.size, 2, none⟩ = some (.int .i64 i1) ∧ W.cell? ⟨w.heap.size, 3, none⟩ = some (.float .f64 f1) ∧ W.cell? ⟨w.heap.size, 4, none⟩ = some (.string tx1) ∧ W.cell? ⟨w.heap.size, 5, none⟩ = some (vb1) ∧ W.cell? ⟨w.heap.size, 6, none⟩ = some (.int .u64 rf1) ∧ W.cell? ⟨w.heap.size, 7, none⟩ = some (vl1) ∧ W.cell? ⟨w.heap.size, 8, none⟩ = some (vf1) ∧ W.cell? ⟨w.heap.size, 9, none⟩ = some (.string c1) ∧ W.cell? ⟨w.heap.size, 10, none⟩ = some (.int .i64 vr1) ∧ W.cell? ⟨w.heap.size + 1, 0, none⟩ = some (.int .i64 y.kind) ∧ W.cell? ⟨w.heap.size + 1, 1, none⟩ = some (.bool b2) ∧ W.cell? ⟨w.heap.size + 1, 2, none⟩ = some (.int .i64 i2) ∧ W.cell? ⟨w.heap.size + 1, 3, none⟩ = some (.float .f64 f2) ∧ W.cell? ⟨w.heap.size + 1, 4, none⟩ = some (.string tx2) ∧ W.cell? ⟨w.heap.size + 1, 5, none⟩ = some (vb2) ∧ W.cell? ⟨w.heap.size + 1, 6, none⟩ = some (.int .u64 rf2) ∧ W.cell? ⟨w.heap.size + 1, 7, none⟩ = some (vl2) ∧ W.cell? ⟨w.heap.size + 1, 8, none⟩ = some (vf2) ∧ W.cell? ⟨w.heap.size + 1, 9, none⟩ = some (.string c2) ∧ W.cell? ⟨w.heap.size + 1, 10, none⟩ = some (.int .i64 vr2)) ∧ Below w.heap.size w W) := fun W hW => HX.out W (below_to HB4.out.1 hW)
  generalize decide (x.enc = y.enc) = sm at HSS HSm
  go_wp2_with fail
  go_region_held3 (fun W => W.cell? ⟨w.heap.size, 0, none⟩ = some (.int .i64 x.kind) ∧ W.cell? ⟨w.heap.size, 1, none⟩ = some (.bool b1) ∧ W.cell? ⟨w.heap.size, 2, none⟩ = some (.int .i64 i1) ∧ W.cell? ⟨w.heap.size, 3, none⟩ = some (.float .f64 f1) ∧ W.cell? ⟨w.heap.size, 4, none⟩ = some (.string tx1) ∧ W.cell? ⟨w.heap.size, 5, none⟩ = some (vb1) ∧ W.cell? ⟨w.heap.size, 6, none⟩ = some (.int .u64 rf1) ∧ W.cell? ⟨w.heap.size, 7, none⟩ = some (vl1) ∧ W.cell? ⟨w.heap.size, 8, none⟩ = some (vf1) ∧ W.cell? ⟨w.heap.size, 9, none⟩ = some (.string c1) ∧ W.cell? ⟨w.heap.size, 10, none⟩ = some (.int .i64 vr1) ∧ W.cell? ⟨w.heap.size + 1, 0, none⟩ = some (.int .i64 y.kind) ∧ W.cell? ⟨w.heap.size + 1, 1, none⟩ = some (.bool b2) ∧ W.cell? ⟨w.heap.size + 1, 2, none⟩ = some (.int .i64 i2) ∧ W.cell? ⟨w.heap.size + 1, 3, none⟩ = some (.float .f64 f2) ∧ W.cell? ⟨w.heap.size + 1, 4, none⟩ = some (.string tx2) ∧ W.cell? ⟨w.heap.size + 1, 5, none⟩ = some (vb2) ∧ W.cell? ⟨w.heap.size + 1, 6, none⟩ = some (.int .u64 rf2) ∧ W.cell? ⟨w.heap.size + 1, 7, none⟩ = some (vl2) ∧ W.cell? ⟨w.heap.size + 1, 8, none⟩ = some (vf2) ∧ W.cell? ⟨w.heap.size + 1, 9, none⟩ = some (.string c2) ∧ W.cell? ⟨w.heap.size + 1, 10, none⟩ = some (.int .i64 vr2))
    (first | with_reducible exact (HG.out w6 HB6.out).1 | with_reducible exact (HG.out w5 HB5.out).1 | with_reducible exact (HG.out _ (Below.refl _ _)).1 | with_reducible exact (HG.out _ (Below.refl _ _).drew).1)
    ((first
      | (go_at_call 22; have hq := HB5.out; refine (HSm.out _ (HG.out _ hq).2).mono ?_; rintro e w6 ⟨rfl, hb6⟩; have HB6 : Hid (Below w4.heap.size w4 w6) := below_to HB5.out hb6; clear hb6 hq)
      | (go_at_call 24; refine (HSS.out _ ?_).mono ?_; exact (Below.refl _ _).drew; rintro e w5 ⟨rfl, hb5⟩; have HB5 : Hid (Below w4.heap.size w4 w5) := below_to (Below.refl _ _).drew hb5; clear hb5)))
  have HE5 : Hid (Outs (w6.alloc (.cells #[] 5)) w6.heap.size (some ⟨w6.heap.size, 0, none⟩) 0 []) := outs_none w6
  have HBW : Hid (Below w.heap.size w w6) := (HG.out _ HB6.out).2
  have hsm : (sm != sm) = false := by cases sm <;> rfl
  go_wp2_with (first
    | (at_builtin; refine wpList_app_src _ rfl _ _ 23 23 rfl w6.heap.size 5 i0 (.int .u8 0) 1 1 Try.undB hi hz0 hz1 hz2 rfl _ _ _ _ rfl HE5.out.1 _ _ _ rfl (HSr.out _ (HBW.out.trans (((Below.refl _ _).alloc (Nat.le_refl _) _).mono HBW.out.size))) (by unfold maxLen; simp; omega) (by simp; omega) HE5.out.2 ?_; intro g7 c7 w7 hown7 hgrow7 _; have HJ7 : Hid (Outs w7 w6.heap.size (some ⟨g7, 0, none⟩) c7 (Sp.bts l) ∧ Below w6.heap.size w6 w7) := by
        have hj := outs_join HE5.out (Below.refl _ _) hown7 (by simp [Sp.bts_len]) hgrow7
        rw [List.nil_append] at hj
        exact ⟨hj.1, ((Below.refl _ _).alloc (Nat.le_refl _) _).trans hj.2⟩
       clear hown7 hgrow7))
  refine (HD.out w7 _ g7 c7 _ (by omega) HJ7.out.1).mono ?_
  rintro e w10 ⟨rfl, hb8⟩
  have HB10 : Hid (Below w.heap.size w w10) := below_to HBW.out (below_to HJ7.out.2 hb8)
  clear hb8
  go_wp2_with fail
  refine (HNil.out w10).mono ?_
  rintro e w11 ⟨g11, cap11, rfl, hc11, hb11⟩
  have HB11 : Hid (Below w.heap.size w w11) := below_to HB10.out hb11
  clear hb11
  go_wp2_with fail
  go_ret
  exact ⟨rfl, HB11.out⟩
theorem er_ne {xs : List Int} {q : Nat} {er : Int} (h : Sp.rdV xs 64 0 0 = .bad q er) : er ≠ 0 := rdV_er 64 h
theorem WireForm_any (x y : Tm) (cs ct : Array Value) (B : Nat → Prop) (w : World) (hx : x.In w B cs) (hy : y.In w B ct) (hB : Sub B w) (ab : Option Addr) (l : ByteArray) (cb : Nat) (hl : l.size ≤ 140737488355328) (hab : BytesAt w B ab l) (hcb : l.size ≤ cb) :
    Calls Try.prog 6 #[.agg cs, .agg ct, .slice ab l.size cb] w fun e w' => e = .returned (.bool true) ∧ Below w.heap.size w w' := by
  cases hr : Sp.rdV (Sp.bts l) 64 0 0 with
  | ok tp n =>
    obtain ⟨t, p2⟩ := tp
    by_cases he : x.all.e = 0
    · by_cases hf : y.all.e = 0
      · exact WForm_bo x y cs ct B w hx hy hB ab l cb hl hab he hf hcb t p2 n hr
      · exact WForm_fo x y cs ct B w hx hy hB ab l cb hl hab he hf hcb t p2 n hr
    · exact WForm_eo x y cs ct B w hx hy hB ab l cb hl hab he hcb t p2 n hr
  | bad q er =>
    have her := er_ne hr
    by_cases he : x.all.e = 0
    · by_cases hf : y.all.e = 0
      · exact WForm_bx x y cs ct B w hx hy hB ab l cb hl hab he hf q er hr her
      · exact WForm_fx x y cs ct B w hx hy hB ab l cb hl hab he hf q er hr her
    · exact WForm_ex x y cs ct B w hx hy hB ab l cb hl hab he q er hr her
end Go.Proofs.Ytjmhodngmfaboaa
