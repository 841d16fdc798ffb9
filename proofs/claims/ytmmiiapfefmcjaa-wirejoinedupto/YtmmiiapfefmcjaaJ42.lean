/- The Go function tenonlaw03.WireJoined: its first loop. -/
import Derived.Test.YtmmiiapfefmcjaaJ41
import Derived.Deep.RegionHeld3
namespace Go.Proofs.Ytmmiiapfefmcjaa
open Go.RowKit

def tAa : Tm := .mk 5 false 0 0 ⟨#[97]⟩ ByteArray.empty 0 .nil .nil ByteArray.empty 0
theorem tAa_enc : tAa.encE.length = 3 := by decide +kernel
theorem tAa_all : tAa.all.e = 0 := by decide +kernel
theorem encode_a (W : World) : Calls Try.prog 31 #[.iface 9 (.string ⟨#[97]⟩)] W fun e w' => ∃ a cap, e = .returned (.tuple #[.slice a 3 cap, .int .i64 0]) ∧ Below W.heap.size W w' := by
  refine (Encode_all tAa _ W.heap.size W (Nat.le_refl _) (by simp [tAa, Tm.V]; decide) (by simp [tAa, Tm.Bdd, TmL.Bdd, TmF.Bdd])).mono ?_
  rintro e w' ⟨m, a, cap, rfl, H⟩
  obtain ⟨hm, _, hb⟩ := H.out
  rw [tAa_enc] at hm
  subst hm
  exact ⟨a, cap, by rw [tAa_all], hb⟩
/-- bytes that stand behind a place of a row, to be put behind others -/
theorem src_drop {w : World} {base g cap : Nat} {xs : List Int} (h : Outs w base (some ⟨g, 0, none⟩) cap xs) (k : Nat) : Src Try.prog 1 23 (.slice (some ⟨g, k, none⟩) (xs.length - k) (cap - k)) (xs.length - k) (u8s (xs.drop k)) w :=
  Src.ofSlice _ Try.undB ⟨g, k, none⟩ (xs.length - k) (cap - k) _ (by simp [u8s]) (fun j u hu => by
    obtain ⟨y, hy, rfl⟩ : ∃ y, (xs.drop k)[j]? = some y ∧ u = .int .u8 y := by
      simp only [u8s, List.getElem?_map, Option.map_eq_some_iff] at hu
      obtain ⟨y, h1, h2⟩ := hu
      exact ⟨y, h1, h2.symm⟩
    rw [List.getElem?_drop] at hy
    obtain ⟨g', o, e, _, hc⟩ := (outs_rd h).1 (k + j) y hy
    simp only [Option.some.injEq, Addr.mk.injEq, and_true] at e
    obtain ⟨rfl, rfl⟩ := e
    rw [addr_add]; simpa using hc) (u8s_one _)
/-- what the second loop carries -/
structure J2 (L : TmL) (al av : Option Addr) (w w6 wr : World) (kk at' i : Nat) (Q : List Int) (r : TmL) : Prop where
  join : Q ++ r.encA = L.encA
  len : at' = Q.length
  cnt : kk + r.okL.len = L.okL.len
  left : r.len + i = L.len
  lies : r.In w (Lo w.heap.size) al i
  vals : r.okL.V w6 (Lo w6.heap.size) av kk
  bdd : r.Bdd
  bel : Below w6.heap.size w6 wr
/-- what the first loop carries: the bytes so far, how many values, and the terms that are left -/
structure J1 (L : TmL) (al : Option Addr) (w wr : World) (g cap m n k : Nat) (P : List Int) (r : TmL) : Prop where
  outs : Outs wr w.heap.size (some ⟨g, 0, none⟩) cap P
  len : m = P.length
  join : P ++ r.encA = L.encA
  cnt : n + r.okL.len = L.okL.len
  left : r.len + k = L.len
  lies : r.In w (Lo w.heap.size) al k
  bdd : r.Bdd
  bel : Below w.heap.size w wr

set_option maxRecDepth 100000 in
set_option maxHeartbeats 4000000 in
theorem WireJoined_any (L : TmL) (al : Option Addr) (cl : Nat) (w : World) (hL : L.In w (Lo w.heap.size) al 0) (hlen : L.len ≤ 87381) :
    Calls Try.prog 8 #[.slice al L.len cl] w fun e w' => e = .returned (.bool true) ∧ Below w.heap.size w w' := by
  obtain ⟨i0, hi, hz0, hz1, hz2⟩ := info_parts Try.infoB
  have HLB : Hid (L.Bdd) := L.In_bdd _ _ hL
  have HLI : Hid (L.In w (Lo w.heap.size) al 0) := hL
  have HEL : Hid (L.encA.length ≤ 94488920064000) := by
    show _ ≤ _
    have := L.encA_le HLB.out
    omega
  have H0 : Hid (J1 L al w (w.alloc (.cells #[] 5)) w.heap.size 0 0 0 0 [] L) := ⟨outs_none w, rfl, rfl, by omega, by omega, hL, HLB.out, (Below.refl _ _).alloc (Nat.le_refl _) _⟩
  clear hL
  go_enter Try.func8, Try.ntmps8
  go_wp2_with fail
  go_loopw [3, 4, 5] (fun u y x wr => ∃ (g cap m n k : Nat) (P : List Int) (r : TmL), u = .slice (some ⟨g, 0, none⟩) m cap ∧ y = .int .i64 n ∧ x = .int .i64 k ∧ n ≤ k ∧ k ≤ L.len ∧ Hid (J1 L al w wr g cap m n k P r)) (fun _ _ x _ => L.len - (intOf x).toNat)
  case atStart => exact ⟨w.heap.size, 0, 0, 0, 0, [], L, rfl, rfl, rfl, by omega, by omega, H0.out⟩
  case round =>
    obtain ⟨g, cap, m, n, k, P, r, rfl, rfl, rfl, hnk, hkl, HJ⟩ := hrel
    clear H0
    cases r with
    | nil =>
      have h1 : L.len ≤ k := by have := HJ.out.left; simp [TmL.len] at this; omega
      have HPE : Hid (P = L.encA ∧ m = P.length ∧ n = L.okL.len) := by
        have hj := HJ.out
        refine ⟨by have := hj.join; rw [TmL.encA, List.append_nil] at this; exact this, hj.len, by have := hj.cnt; simp only [TmL.okL, TmL.len] at this; omega⟩
      have hm : m ≤ 94488920064000 := by have := HEL.out; rw [← HPE.out.1, ← HPE.out.2.1] at this; exact this
      have HON : Hid (Outs (wr.alloc (.cells #[] 5)) wr.heap.size (some ⟨wr.heap.size, 0, none⟩) 0 []) := outs_none wr
      have HSR : Hid (Src Try.prog 1 23 (.slice (some ⟨g, 0, none⟩) m cap) m (u8s P) (wr.alloc (.cells #[] 5))) := by
        have := outs_src (outs_call HJ.out.outs ((Below.refl _ _).alloc (Nat.le_refl _) (.cells #[] 5)))
        rw [← HPE.out.2.1] at this; exact this
      have HAl : Hid (∀ (W : World) (g5 cap5 : Nat), Outs W wr.heap.size (some ⟨g5, 0, none⟩) cap5 P → Calls Try.prog 29 #[.slice (some ⟨g5, 0, none⟩) m cap5] W fun e w' => ∃ av cv, e = .returned (.tuple #[.slice av L.okL.len cv, .int .i64 (m : Int), .int .i64 0]) ∧ Below W.heap.size W w' ∧ L.okL.V w' (Fr W w') av 0) := fun W g5 cap5 ho => by
        obtain ⟨hrd, hcp⟩ := outs_rd ho
        have hr : Sp.rdA P (P.length + 1) 0 = .ok L.okL P.length := by rw [HPE.out.1]; exact rdA_all L HLB.out
        have := All_any P (by rw [HPE.out.1]; exact L.encA_by) g5 0 cap5 W hrd hcp (by rw [← HPE.out.2.1]; omega) (.inr ⟨L.okL, _, hr, by have := L.okL_len; omega⟩)
        rw [← HPE.out.2.1] at this hr
        refine this.mono ?_
        rintro e w' (⟨L', a', av, cv, h1, _, rfl, hb, hv⟩ | ⟨q, er, h1, _⟩)
        · rw [← HPE.out.2.1, hr] at h1
          injection h1 with e1 e2
          subst e1
          exact ⟨av, cv, by rw [HPE.out.2.1], hb, hv⟩
        · rw [← HPE.out.2.1, hr] at h1; cases h1
      go_wp2_with (at_builtin; refine wpList_app_src _ rfl _ _ 23 23 rfl wr.heap.size 5 i0 (.int .u8 0) 1 1 Try.undB hi hz0 hz1 hz2 rfl _ _ _ _ rfl HON.out.1 _ _ _ rfl HSR.out (by unfold maxLen; omega) (by omega) HON.out.2 ?_; intro g5 cap5 w5 hown' hgrow hor)
      have H5 : Hid (Outs w5 wr.heap.size (some ⟨g5, 0, none⟩) cap5 P ∧ Below wr.heap.size wr w5) := by
        have hb5 : Below wr.heap.size wr w5 := ((Below.refl _ _).alloc (Nat.le_refl _) _).grown hgrow HON.out.2 (fun k e => by injection e with e; omega)
        refine ⟨⟨?_, hb5.size⟩, hb5⟩
        rw [← HPE.out.2.1]
        rw [Nat.zero_add] at hown'
        exact hown'
      clear hown' hgrow hor
      go_wp2_with fail
      refine (HAl.out w5 g5 cap5 H5.out.1).mono ?_
      rintro e w6 ⟨av, cv, rfl, hb, hv⟩
      have HB6 : Hid (Below wr.heap.size wr w6) := below_to H5.out.2 hb
      have hnn : n = L.okL.len := HPE.out.2.2
      have HBW6 : Hid (Below w.heap.size w w6) := below_to HJ.out.bel HB6.out
      have HOB : Hid (∀ W, Below w6.heap.size w6 W → Outs W w.heap.size (some ⟨g, 0, none⟩) cap L.encA) := fun W hW => by
        have := outs_call HJ.out.outs (below_to HB6.out hW)
        rw [HPE.out.1] at this; exact this
      have HME : Hid (m = L.encA.length ∧ L.encA.length ≤ cap) := ⟨by rw [HPE.out.2.1, HPE.out.1], (outs_rd (HOB.out w6 (Below.refl _ _))).2⟩
      have H20 : Hid (J2 L al av w w6 w6 0 0 0 [] L) := ⟨rfl, rfl, by omega, by omega, HLI.out, L.okL.V_same (Same.refl _ _) (fun k hk => hk.2) _ _ hv, HLB.out, Below.refl _ _⟩
      have hok20 := L.okL_len
      subst hnn
      clear hb hv H5 HAl HSR HON HJ
      go_wp2_with fail
      go_loopw [11, 12, 13] (fun u y x wr => ∃ (at' kk i : Nat) (Q : List Int) (r : TmL), u = .int .i64 at' ∧ y = .int .i64 kk ∧ x = .int .i64 i ∧ i ≤ L.len ∧ kk ≤ i ∧ at' ≤ m ∧ Hid (J2 L al av w w6 wr kk at' i Q r)) (fun _ _ x _ => L.len - (intOf x).toNat)
      case atStart => exact ⟨0, 0, 0, [], L, rfl, rfl, rfl, by omega, by omega, by omega, H20.out⟩
      case round =>
        obtain ⟨at', kk, i, Q, r, rfl, rfl, rfl, hil, hki, ham, HJ⟩ := hrel
        clear H20
        have HBW : Hid (Below w.heap.size w wr) := below_to HBW6.out HJ.out.bel
        cases r with
        | nil =>
          have h2 : L.len ≤ i := by have := HJ.out.left; simp [TmL.len] at this; omega
          have hae : at' = m := by have := HJ.out.join; rw [TmL.encA, List.append_nil] at this; rw [HJ.out.len, this, HME.out.1]
          subst hae
          go_wp2_with fail
          refine (encode_a _).mono ?_
          rintro e w8 ⟨a8, c8, rfl, hb⟩
          have HB8 : Hid (Below wr.heap.size wr w8) := hb
          clear hb
          go_wp2_with fail
          go_ret
          exact ⟨rfl, below_to HBW.out HB8.out⟩
        | cons t r =>
          have hk1 : i < L.len := by have := HJ.out.left; simp only [TmL.len] at this; omega
          have hi0 : (0 : Int) ≤ (i : Int) := Int.natCast_nonneg _
          have hi1 : (i : Int) < (L.len : Int) := by omega
          have hin := HJ.out.lies
          simp only [TmL.In] at hin
          obtain ⟨g2, o2, cs2, rfl, hg2, c2, ht, hin'⟩ := hin
          have HTI : Hid (t.In w (Lo w.heap.size) cs2 ∧ r.In w (Lo w.heap.size) (some ⟨g2, o2, none⟩) (i + 1)) := ⟨ht, hin'⟩
          have HCk : Hid (∀ W, Below wr.heap.size wr W → Calls Try.prog 12 #[.agg cs2] W fun e w' => e = .returned (.tuple #[.int .i64 t.cAt, .int .i64 t.all.e]) ∧ Below W.heap.size W w') := fun W hW =>
            refCheck_any t cs2 (Lo w.heap.size) W (t.In_same (Same.of_below (below_to HBW.out hW) (Nat.le_refl _)) (fun _ h => h) cs2 ht) (Sub.lo (below_to HBW.out hW).size)
          have HEL2 : Hid (∀ W, Below wr.heap.size wr W → ∀ x, x < 11 → W.cell? ⟨g2, o2 + i * 11 + x, none⟩ = cs2[x]?) := fun W hW x hx => by
            have hs : Same (Lo w.heap.size) w W := Same.of_below (below_to HBW.out hW) (Nat.le_refl _)
            rw [hs.cell (p := ⟨g2, o2 + i * 11 + x, none⟩) hg2]; exact c2 x hx
          have HBT : Hid (t.Bdd ∧ r.Bdd) := HJ.out.bdd
          obtain ⟨k2, b2, i2, f2, tx2, vb2, rf2, vl2, vf2, cl2, vr2, rfl⟩ := Tm.In_tc ht
          obtain ⟨d0, d1, d2, d3, d4, d5, d6, d7, d8, d9, d10⟩ := eleven (w := wr) (g := g2) (o := o2 + i * 11) (HEL2.out wr (Below.refl _ _))
          unfold tcells at HCk HTI
          clear ht hin' c2
          go_wp2_with fail
          refine (HCk.out _ (Below.refl _ _)).mono ?_
          rintro e w7 ⟨rfl, hb⟩
          have HB7 : Hid (Below wr.heap.size wr w7) := hb
          clear hb d0 d1 d2 d3 d4 d5 d6 d7 d8 d9 d10
          by_cases he : t.all.e = 0
          · have he' : (t.all.e != 0) = false := by simp [he]
            have HZ : Hid (t.all.e = 0 ∧ t.encE = t.enc ∧ 1 ≤ t.enc.length) := ⟨he, by unfold Tm.encE; rw [if_pos he], enc_pos t he⟩
            clear he
            have HDR : Hid (L.encA.drop at' = t.enc ++ r.encA) := by
              have := HJ.out.join
              rw [TmL.encA, HZ.out.2.1] at this
              rw [← this, HJ.out.len]; exact List.drop_left
            have hatm : at' + t.enc.length + r.encA.length = m := by
              have h1 := congrArg List.length HDR.out
              rw [List.length_drop, List.length_append, ← HME.out.1] at h1
              have := HZ.out.2.2
              omega
            have hep := HZ.out.2.2
            have hvals := HJ.out.vals
            rw [TmL.okL, if_pos HZ.out.1] at hvals
            simp only [TmL.V] at hvals
            obtain ⟨g1, o1, v, rfl, hg1, c1, hv, hvr⟩ := hvals
            have HVL : Hid (t.V w6 (Lo w6.heap.size) v ∧ r.okL.V w6 (Lo w6.heap.size) (some ⟨g1, o1, none⟩) (kk + 1)) := ⟨t.clean_V v hv, hvr⟩
            have hkk : kk < L.okL.len := by have := HJ.out.cnt; rw [TmL.okL, if_pos HZ.out.1] at this; simp only [TmL.len] at this; omega
            have hkk1 : (kk : Int) < (L.okL.len : Int) := by omega
            have hkk0 : (0 : Int) ≤ (kk : Int) := Int.natCast_nonneg _
            clear hv hvr
            have hq0 : (0 : Int) ≤ (at' : Int) := Int.natCast_nonneg _
            have hq1 : (at' : Int) ≤ (m : Int) := by omega
            have hcapm : m ≤ cap := by rw [HME.out.1]; exact HME.out.2
            have hq2 : (at' : Int) ≤ (cap : Int) := by omega
            have hq3 : ¬ cap = at' := by omega
            have hq4 : IntKind.i64.wrap (at' : Int) = (at' : Int) := by rw [IntKind.wrap_i64]; omega
            have hq5 : (m : Int) ≤ (cap : Int) := by omega
            have HON : Hid (Outs (w7.alloc (.cells #[] 5)) w7.heap.size (some ⟨w7.heap.size, 0, none⟩) 0 []) := outs_none w7
            have HSR : Hid (Src Try.prog 1 23 (.slice (some ⟨g, at', none⟩) (m - at') (cap - at')) (m - at') (u8s (t.enc ++ r.encA)) (w7.alloc (.cells #[] 5))) := by
              have := src_drop (HOB.out _ (below_to (below_to HJ.out.bel HB7.out) ((Below.refl _ _).alloc (Nat.le_refl _) (.cells #[] 5)))) at'
              rw [← HME.out.1, HDR.out] at this; exact this
            have HSk : Hid (∀ (W : World) (g5 cap5 : Nat), Outs W w7.heap.size (some ⟨g5, 0, none⟩) cap5 (t.enc ++ r.encA) → Calls Try.prog 25 #[.slice (some ⟨g5, 0, none⟩) (m - at') cap5] W fun e w' => e = .returned (.tuple #[.int .i64 (t.enc.length : Int), .int .i64 0]) ∧ Below W.heap.size W w') := fun W g5 cap5 ho => by
              obtain ⟨hrd, hcp⟩ := outs_rd ho
              obtain ⟨q, hq⟩ := rd_enc t r.encA HZ.out.1 HBT.out.1
              have hby : By (t.enc ++ r.encA) := by rw [← HDR.out]; exact L.encA_by.drop _
              have hle : (t.enc ++ r.encA).length = m - at' := by rw [List.length_append]; omega
              have := Skip_ok (t.enc ++ r.encA) hby t.clean q t.enc.length hq _ cap5 W hrd hcp (by rw [hle]; omega)
              rw [hle] at this
              exact this
            go_wp2_with (at_builtin; refine wpList_app_src _ rfl _ _ 23 23 rfl w7.heap.size 5 i0 (.int .u8 0) 1 1 Try.undB hi hz0 hz1 hz2 rfl _ _ _ _ rfl HON.out.1 _ _ _ rfl HSR.out (by unfold maxLen; omega) (by omega) HON.out.2 ?_; intro g5 cap5 w8 hown' hgrow hor)
            have H8 : Hid (Outs w8 w7.heap.size (some ⟨g5, 0, none⟩) cap5 (t.enc ++ r.encA) ∧ Below w7.heap.size w7 w8) := by
              have hb5 : Below w7.heap.size w7 w8 := ((Below.refl _ _).alloc (Nat.le_refl _) _).grown hgrow HON.out.2 (fun k e => by injection e with e; omega)
              refine ⟨⟨?_, hb5.size⟩, hb5⟩
              have hle : (t.enc ++ r.encA).length = m - at' := by rw [List.length_append]; omega
              rw [hle]
              rw [Nat.zero_add] at hown'
              exact hown'
            clear hown' hgrow hor
            go_wp2_with fail
            refine (HSk.out w8 g5 cap5 H8.out.1).mono ?_
            rintro e w9 ⟨rfl, hb⟩
            have HB9 : Hid (Below wr.heap.size wr w9) := below_to HB7.out (below_to H8.out.2 hb)
            clear hb H8
            have HIs : Hid (∀ W, Below wr.heap.size wr W → Calls Try.prog 14 #[v, .agg (tcells k2 b2 i2 f2 tx2 vb2 rf2 vl2 vf2 cl2 vr2)] W fun e w' => e = .returned (.bool true) ∧ Below W.heap.size W w') := fun W hW => by
              have hW6 : Below w6.heap.size w6 W := below_to HJ.out.bel hW
              have hz6 := HBW6.out.size
              refine Is_any t v _ W (Lo w6.heap.size) (t.V_same (Same.of_below hW6 (Nat.le_refl _)) (fun _ h => h) v HVL.out.1) (t.In_same (Same.of_below (below_to HBW.out hW) (Nat.le_refl _)) (fun k hk => Nat.lt_of_lt_of_le hk hz6) _ HTI.out.1) (Sub.lo hW6.size) HZ.out.1
            unfold tcells at HIs
            have f0 : w9.cell? ⟨g1, o1 + kk, none⟩ = some v := by rw [(below_to HJ.out.bel HB9.out).cell (p := ⟨g1, o1 + kk, none⟩) hg1]; exact c1
            obtain ⟨d0, d1, d2, d3, d4, d5, d6, d7, d8, d9, d10⟩ := eleven (w := w9) (g := g2) (o := o2 + i * 11) (HEL2.out w9 HB9.out)
            have hwat : IntKind.i64.wrap ((at' : Int) + (t.enc.length : Int)) = (at' : Int) + (t.enc.length : Int) := by rw [IntKind.wrap_i64]; omega
            have hmlt : ¬ ((t.enc.length : Int) < 1) := by omega
            have hmlt2 : decide ((t.enc.length : Int) < 1) = false := decide_eq_false hmlt
            have HJN : Hid (∀ W, Below wr.heap.size wr W → J2 L (some ⟨g2, o2, none⟩) (some ⟨g1, o1, none⟩) w w6 W (kk + 1) (at' + t.enc.length) (i + 1) (Q ++ t.enc) r) := fun W hW => by
              have hj := HJ.out
              refine ⟨?_, by rw [List.length_append, hj.len], ?_, ?_, HTI.out.2, HVL.out.2, HBT.out.2, below_to hj.bel hW⟩
              · have := hj.join; rw [TmL.encA, HZ.out.2.1] at this; rw [List.append_assoc]; exact this
              · have := hj.cnt; rw [TmL.okL, if_pos HZ.out.1] at this; simp only [TmL.len] at this; omega
              · have := hj.left; simp only [TmL.len] at this; omega
            have HC1 : Hid (w6.cell? ⟨g1, o1 + kk, none⟩ = some v) := c1
            clear c1 HSk HSR HON
            generalize t.enc.length = te at *
            have HSX : Hid (∀ W, Below wr.heap.size wr W → W.cell? ⟨g1, o1 + kk, none⟩ = some v ∧ W.cell? ⟨g2, o2 + i * 11, none⟩ = some (.int .i64 k2) ∧ W.cell? ⟨g2, o2 + i * 11 + 1, none⟩ = some (.bool b2) ∧ W.cell? ⟨g2, o2 + i * 11 + 2, none⟩ = some (.int .i64 i2) ∧ W.cell? ⟨g2, o2 + i * 11 + 3, none⟩ = some (.float .f64 f2) ∧ W.cell? ⟨g2, o2 + i * 11 + 4, none⟩ = some (.string tx2) ∧ W.cell? ⟨g2, o2 + i * 11 + 5, none⟩ = some vb2 ∧ W.cell? ⟨g2, o2 + i * 11 + 6, none⟩ = some (.int .u64 rf2) ∧ W.cell? ⟨g2, o2 + i * 11 + 7, none⟩ = some vl2 ∧ W.cell? ⟨g2, o2 + i * 11 + 8, none⟩ = some vf2 ∧ W.cell? ⟨g2, o2 + i * 11 + 9, none⟩ = some (.string cl2) ∧ W.cell? ⟨g2, o2 + i * 11 + 10, none⟩ = some (.int .i64 vr2)) := fun W hW => by
              obtain ⟨y0, y1, y2, y3, y4, y5, y6, y7, y8, y9, y10⟩ := eleven (w := W) (g := g2) (o := o2 + i * 11) (HEL2.out W hW)
              exact ⟨by rw [(below_to HJ.out.bel hW).cell (p := ⟨g1, o1 + kk, none⟩) hg1]; exact HC1.out, y0, y1, y2, y3, y4, y5, y6, y7, y8, y9, y10⟩
            have HR9 : Hid (Below wr.heap.size wr w9.drew) := HB9.out.drew
            clear f0 d0 d1 d2 d3 d4 d5 d6 d7 d8 d9 d10
            go_wp2_with fail
            go_region_held3 (fun W => W.cell? ⟨g1, o1 + kk, none⟩ = some v ∧ W.cell? ⟨g2, o2 + i * 11, none⟩ = some (.int .i64 k2) ∧ W.cell? ⟨g2, o2 + i * 11 + 1, none⟩ = some (.bool b2) ∧ W.cell? ⟨g2, o2 + i * 11 + 2, none⟩ = some (.int .i64 i2) ∧ W.cell? ⟨g2, o2 + i * 11 + 3, none⟩ = some (.float .f64 f2) ∧ W.cell? ⟨g2, o2 + i * 11 + 4, none⟩ = some (.string tx2) ∧ W.cell? ⟨g2, o2 + i * 11 + 5, none⟩ = some vb2 ∧ W.cell? ⟨g2, o2 + i * 11 + 6, none⟩ = some (.int .u64 rf2) ∧ W.cell? ⟨g2, o2 + i * 11 + 7, none⟩ = some vl2 ∧ W.cell? ⟨g2, o2 + i * 11 + 8, none⟩ = some vf2 ∧ W.cell? ⟨g2, o2 + i * 11 + 9, none⟩ = some (.string cl2) ∧ W.cell? ⟨g2, o2 + i * 11 + 10, none⟩ = some (.int .i64 vr2))
              (first | with_reducible exact HSX.out _ HB9.out | with_reducible exact HSX.out _ HR9.out | with_reducible exact HSX.out w10 HB10.out)
              ((go_at_call 14; refine (HIs.out _ HR9.out).mono ?_; rintro e w10 ⟨rfl, hb⟩; have HB10 : Hid (Below wr.heap.size wr w10) := below_to HR9.out hb; clear hb))
            go_wp2_with fail
            refine ⟨⟨at' + te, kk + 1, i + 1, Q ++ t.enc, r, by go_num, by go_num, by go_num, by omega, by omega, by omega, HJN.out w10 HB10.out⟩, ?_⟩
            simp [intOf]; omega
          · have he' : (t.all.e != 0) = true := by simp [he]
            have HJN : Hid (J2 L (some ⟨g2, o2, none⟩) av w w6 w7 kk at' (i + 1) Q r) := by
              have hj := HJ.out
              have e0 : t.encE = [] := by unfold Tm.encE; rw [if_neg he]
              refine ⟨?_, hj.len, ?_, ?_, HTI.out.2, ?_, HBT.out.2, below_to hj.bel HB7.out⟩
              · have := hj.join; rw [TmL.encA, e0, List.nil_append] at this; exact this
              · have := hj.cnt; rw [TmL.okL, if_neg he] at this; exact this
              · have := hj.left; simp only [TmL.len] at this; omega
              · have := hj.vals; rw [TmL.okL, if_neg he] at this; exact this
            clear he
            go_wp2_with fail
            go_roundw
            case rel => exact ⟨at', kk, i + 1, Q, r, rfl, rfl, by go_num, by omega, by omega, by omega, HJN.out⟩
            case measure => simp [intOf]; omega
    | cons t r =>
      have hk1 : k < L.len := by have := HJ.out.left; simp only [TmL.len] at this; omega
      have hi0 : (0 : Int) ≤ (k : Int) := Int.natCast_nonneg _
      have hi1 : (k : Int) < (L.len : Int) := by omega
      have hin := HJ.out.lies
      simp only [TmL.In] at hin
      obtain ⟨g2, o2, cs2, rfl, hg2, c2, ht, hin'⟩ := hin
      have hs : Same (Lo w.heap.size) w wr := Same.of_below HJ.out.bel (Nat.le_refl _)
      have HTI : Hid (t.In w (Lo w.heap.size) cs2 ∧ r.In w (Lo w.heap.size) (some ⟨g2, o2, none⟩) (k + 1)) := ⟨ht, hin'⟩
      have HBu : Hid (∀ W, Below wr.heap.size wr W → Calls Try.prog 11 #[.agg cs2] W fun e w' => ∃ v, e = .returned v ∧ Below W.heap.size W w' ∧ t.V w' (Fr W w') v) := fun W hW =>
        built_any t.sz t (Nat.le_refl _) cs2 (Lo w.heap.size) W (t.In_same (Same.of_below (below_to HJ.out.bel hW) (Nat.le_refl _)) (fun _ h => h) cs2 ht) (Sub.lo (below_to HJ.out.bel hW).size)
      obtain ⟨k2, b2, i2, f2, tx2, vb2, rf2, vl2, vf2, cl2, vr2, rfl⟩ := Tm.In_tc ht
      obtain ⟨d0, d1, d2, d3, d4, d5, d6, d7, d8, d9, d10⟩ := eleven (w := wr) (g := g2) (o := o2 + k * 11) (fun x hx => by rw [hs.cell (p := ⟨g2, o2 + k * 11 + x, none⟩) hg2]; exact c2 x hx)
      unfold tcells at HBu
      clear ht hin' hs c2
      have HBT : Hid (t.Bdd ∧ r.Bdd) := HJ.out.bdd
      have HMP : Hid (m + t.encE.length + r.encA.length ≤ 94488920064000) := by
        show _ ≤ _
        have h1 := HEL.out
        rw [← HJ.out.join, List.length_append, TmL.encA, List.length_append] at h1
        have h2 := HJ.out.len
        omega
      go_wp2_with fail
      refine (HBu.out _ (Below.refl _ _)).mono ?_
      rintro e w1 ⟨v, rfl, hb, hv⟩
      have HB1 : Hid (Below wr.heap.size wr w1) := hb
      have HEn : Hid (Calls Try.prog 31 #[v] w1 (EncE t w1)) := Encode_all t v w1.heap.size w1 (Nat.le_refl _) (t.V_same (Same.refl _ _) (fun k hk => hk.2) v hv) HBT.out.1
      clear hb hv
      go_wp2_with fail
      refine HEn.out.mono ?_
      rintro e w2 ⟨mc, ac, capc, rfl, H2⟩
      have HB2 : Hid (Below wr.heap.size wr w2) := below_to HB1.out H2.out.2.2
      by_cases he : t.all.e = 0
      · have he' : (t.all.e == 0) = true := by simp [he]
        have HZ : Hid (t.all.e = 0 ∧ 0 < t.encE.length) := ⟨he, by unfold Tm.encE; rw [if_pos he]; exact enc_pos t he⟩
        clear he
        obtain ⟨gc, hgc⟩ := H2.out.2.1.some HZ.out.2
        subst hgc
        have HOB : Hid (Outs w2 w.heap.size (some ⟨g, 0, none⟩) cap P) := outs_call HJ.out.outs HB2.out
        have HOW : Hid (w2.ownsRow w.heap.size 5 1 (.slice (some ⟨g, 0, none⟩) m cap) m (u8s P)) := by
          have := HOB.out.1
          rw [← HJ.out.len] at this; exact this
        have HSC : Hid (Src Try.prog 1 23 (.slice (some ⟨gc, 0, none⟩) mc capc) mc (u8s t.encE) w2) := by
          have := outs_src H2.out.2.1
          rw [← H2.out.1] at this; exact this
        have hmc : m + mc ≤ 94488920064000 := by have := HMP.out; have := H2.out.1; omega
        have hwn : IntKind.i64.wrap ((n : Int) + 1) = (n : Int) + 1 := by rw [IntKind.wrap_i64]; omega
        go_wp2_with (at_builtin; refine wpList_app_src _ rfl _ _ 23 23 rfl w.heap.size 5 i0 (.int .u8 0) 1 1 Try.undB hi hz0 hz1 hz2 rfl _ _ _ _ rfl HOW.out _ _ _ rfl HSC.out (by unfold maxLen; omega) (by omega) HOB.out.2 ?_; intro g5 cap5 w5 hown' hgrow hor)
        have HJN : Hid (J1 L (some ⟨g2, o2, none⟩) w w5 g5 cap5 (m + mc) (n + 1) (k + 1) (P ++ t.encE) r) := by
          have hj := HJ.out
          have e1 : m + mc = (P ++ t.encE).length := by rw [List.length_append, hj.len, H2.out.1]
          have hb5 : Below w.heap.size w w5 := (below_to hj.bel HB2.out).grown hgrow HOB.out.2 (fun k e => by injection e with e; subst e; exact (HOW.out.lt g rfl).1)
          refine ⟨⟨by rw [u8s_app, ← e1]; exact hown', hb5.size⟩, e1, ?_, ?_, ?_, HTI.out.2, HBT.out.2, hb5⟩
          · have := hj.join; rw [TmL.encA] at this; rw [List.append_assoc]; exact this
          · have := hj.cnt; rw [TmL.okL, if_pos HZ.out.1] at this; simp only [TmL.len] at this; omega
          · have := hj.left; simp only [TmL.len] at this; omega
        clear hown' hgrow hor
        go_wp2_with fail
        go_roundw
        case rel => exact ⟨g5, cap5, m + mc, n + 1, k + 1, P ++ t.encE, r, rfl, by go_num, by go_num, by omega, by omega, HJN.out⟩
        case measure => simp [intOf]; omega
      · have he' : (t.all.e == 0) = false := by simp [he]
        have HZ : Hid (¬ t.all.e = 0) := he
        have HJN : Hid (J1 L (some ⟨g2, o2, none⟩) w w2 g cap m n (k + 1) P r) := by
          have hj := HJ.out
          have e0 : t.encE = [] := by unfold Tm.encE; rw [if_neg he]
          refine ⟨outs_call hj.outs HB2.out, hj.len, ?_, ?_, ?_, HTI.out.2, HBT.out.2, below_to hj.bel HB2.out⟩
          · have := hj.join; rw [TmL.encA, e0, List.nil_append] at this; exact this
          · have := hj.cnt; rw [TmL.okL, if_neg he] at this; exact this
          · have := hj.left; simp only [TmL.len] at this; omega
        clear he
        go_wp2_with fail
        go_roundw
        case rel => exact ⟨g, cap, m, n, k + 1, P, r, rfl, rfl, by go_num, by omega, by omega, HJN.out⟩
        case measure => simp [intOf]; omega
end Go.Proofs.Ytmmiiapfefmcjaa

