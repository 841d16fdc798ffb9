/- tenonref03.Bytes at a float and at a list; tenonref03.fields. -/
import Derived.Test.YtkomcebknllaiaaL33
import Derived.Test.YtkomcebknllaiaaL31
namespace Go.Proofs.Ytkomcebknllaiaa
open Go.RowKit

set_option maxRecDepth 100000 in
set_option maxHeartbeats 1000000 in
theorem byt_4 (b : Bool) (i : Int) (f : Nat) (tx : ByteArray) (vb : Value) (rf : Int) (vl : Value) (vf : Value) (c : ByteArray) (vr : Int) (w : World) :
    Calls Try.prog 51 #[.agg (tcells 4 b i f tx (vb) (rf) (vl) (vf) c (vr))] w (NewB w ([4] ++ Sp.bitsTo f 8)) := by
  obtain ⟨i0, hi, hz0, hz1, hz2⟩ := info_parts Try.infoB
  have HOne : Hid (∀ o, Outs ((w.alloc o).alloc (.cells #[.int .u8 4] 5)) (w.heap.size + 1) (some ⟨w.heap.size + 1, 0, none⟩) 1 [4] ∧ Below (w.heap.size + 1) (w.alloc o) ((w.alloc o).alloc (.cells #[.int .u8 4] 5))) := outs_one w 4
  have hbr := bits_run f
  unfold tcells
  go_enter Try.func51, Try.ntmps51
  go_wp2_with fail
  go_loopw [3, 5] (fun u x wr => ∃ (k g cap' : Nat), u = .slice (some ⟨g, 0, none⟩) (k + 1) cap' ∧ x = .int .i64 (k : Int) ∧ k ≤ 8 ∧ Hid (Outs wr (w.heap.size + 1) (some ⟨g, 0, none⟩) cap' ([4] ++ Sp.bitsTo f k) ∧ ∃ o, Below (w.heap.size + 1) (w.alloc o) wr)) (fun _ x _ => (8 - intOf x).toNat)
  case atStart => exact ⟨0, _, _, rfl, rfl, by omega, (HOne.out _).1, _, (HOne.out _).2⟩
  case round =>
    obtain ⟨k, g, cap', rfl, rfl, hk, HO⟩ := hrel
    have hown := HO.out.1.1
    have HOW : Hid (wr.ownsRow (w.heap.size + 1) 5 1 (.slice (some ⟨g, 0, none⟩) (k + 1) cap') (k + 1) (u8s ([4] ++ Sp.bitsTo f k))) := by
      have el : (([4] : List Int) ++ Sp.bitsTo f k).length = k + 1 := by simp [Sp.bitsTo_len]
      rw [el] at hown; exact hown
    clear hown
    by_cases hk8 : k = 8
    · subst hk8
      go_wp2_with fail
      go_ret
      obtain ⟨o, hb⟩ := HO.out.2
      exact NewB.of HO.out.1 hb rfl
    · have hi1 : (k : Int) < 8 := by omega
      go_wp2_with (at_builtin; refine wpList_app _ rfl _ _ 23 rfl (w.heap.size + 1) 5 i0 (.int .u8 0) 1 1 Try.undB hi hz0 hz1 hz2 rfl (by decide) _ _ _ rfl (HOW.out.alloc _) ⟨wr.heap.size, 0, none⟩ 1 1 [.int .u8 ((f : Int) / 2 ^ (56 - 8 * k) % 256)] rfl rfl (cell_one_new _ _ _) (fun u hu => by simp at hu; subst hu; rfl) (by decide) (by unfold maxLen; omega) (by omega) (by have := HO.out.1.2; simp; omega) ?_; intro g' cap2 w3 hown' hgrow hor')
      have el : (([4] : List Int) ++ Sp.bitsTo f k).length = k + 1 := by simp [Sp.bitsTo_len]
      have eb : (f : Int) / 2 ^ (56 - 8 * k) % 256 = ((f / 2 ^ (56 - 8 * k) % 256 : Nat) : Int) := by simp
      rw [eb] at hown'
      obtain ⟨h1, h2⟩ := HO.out.1.step (ys := [((f / 2 ^ (56 - 8 * k) % 256 : Nat) : Int)]) hown' rfl (by simp [Sp.bitsTo_len]) (by rw [el]; exact hgrow) (by rw [el]; exact hor')
      obtain ⟨o, hb⟩ := HO.out.2
      go_roundw
      case rel => exact ⟨k + 1, g', cap2, rfl, by go_num, by omega, by rw [Sp.bitsTo, ← List.append_assoc]; exact h1, o, hb.trans h2.1⟩
      case measure => simp [intOf]; omega

theorem BytC.at {N : Nat} (HC : BytC N) {t : Tm} (hN : t.sz ≤ N) {cs : Array Value} {B : Nat → Prop} {w : World} (h : t.In w B cs) (hB : Sub B w) (ho : t.Ok) (hl : t.enc.length ≤ 70368744177664) :
    ∀ W, Below w.heap.size w W → Calls Try.prog 51 #[.agg cs] W (NewB W t.enc) := fun W hW => HC t hN cs B W (t.In_same (hB.same hW) (fun _ h => h) cs h) (hB.later hW) ho hl
/-- the same, the number of bytes hidden -/
def NewH (w : World) (ys : List Int) (e : Ending) (w' : World) : Prop := ∃ m g cap, e = .returned (.slice (some ⟨g, 0, none⟩) m cap) ∧ Hid (m = ys.length ∧ Outs w' w.heap.size (some ⟨g, 0, none⟩) cap ys ∧ Below w.heap.size w w')
theorem NewB.hid {w : World} {ys : List Int} {e : Ending} {w' : World} (h : NewB w ys e w') : NewH w ys e w' := by
  obtain ⟨g, cap, rfl, h1, h2⟩ := h
  exact ⟨_, g, cap, rfl, rfl, h1, h2⟩
theorem outs_src' {w : World} {base g cap m : Nat} {ys : List Int} (hm : m = ys.length) (h : Outs w base (some ⟨g, 0, none⟩) cap ys) : Src Try.prog 1 23 (.slice (some ⟨g, 0, none⟩) m cap) m (u8s ys) w := by subst hm; exact outs_src h
theorem outs_own {w : World} {base : Nat} {a : Option Addr} {cap m : Nat} {xs : List Int} (hm : m = xs.length) (h : Outs w base a cap xs) : w.ownsRow base 5 1 (.slice a m cap) m (u8s xs) := by subst hm; exact h.1

set_option maxRecDepth 100000 in
set_option maxHeartbeats 2000000 in
theorem rfields_any (N : Nat) (HC : BytC N) (L : TmF) (hN : L.sz ≤ N) (al : Option Addr) (cl : Nat) (B : Nat → Prop) (w : World) (hB : Sub B w) (hL : L.In w B al 0) (hll : L.len ≤ 4096) (hok : L.Ok) (hlen : L.encR.length ≤ 70368744177664) :
    Calls Try.prog 95 #[.slice al L.len cl] w (NewB w L.encR) := by
  obtain ⟨i0, hi, hz0, hz1, hz2⟩ := info_parts Try.infoB
  have HCH : Hid (BytC N) := HC
  have HL : Hid ((Sp.numB L.len).length + L.enc.length ≤ 70368744177664) := by show _ ≤ _; simp [TmF.encR] at hlen; omega
  have HN : Hid (Calls Try.prog 93 #[.int .u64 (L.len : Int)] w (NewH w (Sp.numB L.len))) := (number_any L.len w (by omega)).mono fun _ _ => NewB.hid
  have HV0 : Hid (L.In w B al 0 ∧ L.Ok) := ⟨hL, hok⟩
  clear HC hlen hL hok
  go_enter Try.func95, Try.ntmps95
  go_wp2_with fail
  refine HN.out.mono ?_
  rintro e w1 ⟨m1, g1, cap1, rfl, H1⟩
  clear HN
  go_wp2_with fail
  go_loopw [3, 4] (fun u i wr => ∃ (m k g cap' : Nat) (done : List Int) (l : TmF), u = .slice (some ⟨g, 0, none⟩) m cap' ∧ i = .int .i64 k ∧ l.len + k = L.len ∧ l.sz ≤ N ∧ Hid (m = (Sp.numB L.len ++ done).length ∧ L.enc = done ++ l.enc) ∧ Hid (Outs wr w.heap.size (some ⟨g, 0, none⟩) cap' (Sp.numB L.len ++ done) ∧ Below w.heap.size w wr ∧ l.In w B al k ∧ l.Ok)) (fun _ i _ => L.len - (intOf i).toNat)
  case atStart => exact ⟨m1, 0, g1, cap1, [], L, rfl, rfl, rfl, hN, ⟨by rw [List.append_nil]; exact H1.out.1, rfl⟩, ⟨by rw [List.append_nil]; exact H1.out.2.1, H1.out.2.2, HV0.out⟩⟩
  case round =>
    obtain ⟨m, k, g, cap', done, l, rfl, rfl, hk, hlN, HM, HO⟩ := hrel
    clear H1 HV0
    cases l with
    | nil =>
      have h1 : L.len ≤ k := by simp [TmF.len] at hk; omega
      clear hk
      go_wp2_with fail
      go_ret
      have he := HM.out.2
      rw [TmF.enc, List.append_nil] at he
      refine ⟨g, cap', by rw [TmF.encR, he, ← HM.out.1]; rfl, by rw [TmF.encR, he]; exact HO.out.1, HO.out.2.1⟩
    | cons nm t l =>
      obtain ⟨hout, hgr, hv, hok⟩ := HO.out
      simp only [TmF.In] at hv
      obtain ⟨g9, o9, cs, rfl, hg9, cn, hnl, hc, ht, hv'⟩ := hv
      have hg9 := hB _ hg9
      have hlt : k < L.len := by simp [TmF.len] at hk; omega
      have HK : Hid (l.len + (k + 1) = L.len) := by show _ = _; simp [TmF.len] at hk; omega
      have htN : t.sz ≤ N ∧ l.sz ≤ N := by simp [TmF.sz] at hlN; omega
      have hm := HM.out.1
      have hbb : m + (Sp.txtB nm).length + t.enc.length ≤ 70368744177664 := by
        have h1 := HL.out
        rw [HM.out.2, TmF.enc] at h1
        rw [hm]
        simp only [List.length_append] at h1 ⊢
        omega
      have hnb : nm.size ≤ (Sp.txtB nm).length := by rw [Sp.txtB, List.length_append, Sp.bts_len]; omega
      have HT : Hid (Calls Try.prog 94 #[.string nm] wr (NewH wr (Sp.txtB nm))) := (rtext_any nm wr (by omega)).mono fun _ _ => NewB.hid
      have HNV : Hid (l.In w B (some ⟨g9, o9, none⟩) (k + 1) ∧ l.Ok) := ⟨hv', hok.head.2⟩
      have HCT := HCH.out.at htN.1 ht hB hok.head.1 (by omega)
      have HGR : Hid (Below w.heap.size w wr) := hgr
      clear hm
      cases t with
      | mk kk b' i' f' tx' by' rf' l' fs' c' vr' =>
        have ht' := ht
        simp only [Tm.In] at ht'
        obtain ⟨ab', cb', al', cl', af', cf', rfl, _⟩ := ht'
        have HS : Hid (∀ W, Below w.heap.size w W → W.cell? ⟨g9, o9 + k * 12, none⟩ = some (.string nm) ∧ ∀ x, x < 11 → W.cell? ⟨g9, o9 + k * 12 + 1 + x, none⟩ = (tcells kk b' i' f' tx' (.slice ab' by'.size cb') rf' (.slice al' l'.len cl') (.slice af' fs'.len cf') c' vr')[x]?) := fun W hW => ⟨by rw [hW.cell (p := ⟨g9, o9 + k * 12, none⟩) hg9]; exact cn, fun x hx => by rw [hW.cell (p := ⟨g9, o9 + k * 12 + 1 + x, none⟩) hg9]; exact hc x hx⟩
        have dn := (HS.out wr hgr).1
        unfold tcells at HCT
        have HCT : Hid _ := HCT
        generalize htt : Tm.mk kk b' i' f' tx' by' rf' l' fs' c' vr' = t at *
        clear hk hv' ht cn hc hlN hout hgr hok htt
        go_wp2_with fail
        refine HT.out.mono ?_
        rintro e w2 ⟨m2, g2, cap2, rfl, H2⟩
        have hm2 := H2.out.1
        have HBZ2 : w.heap.size ≤ w2.heap.size := Nat.le_trans HGR.out.size H2.out.2.2.size
        have hl2 : m + m2 + t.enc.length ≤ 70368744177664 := by omega
        clear hm2
        go_wp2_with (at_builtin; refine wpList_app_src _ rfl _ _ 23 23 rfl w.heap.size 5 i0 (.int .u8 0) 1 1 Try.undB hi hz0 hz1 hz2 rfl _ _ _ _ rfl (outs_own HM.out.1 (outs_call HO.out.1 H2.out.2.2)) _ _ _ rfl (outs_src' H2.out.1 H2.out.2.1) (by unfold maxLen; omega) (by omega) HBZ2 ?_; intro g3 cap3 w3 hown3 hgrow3 _; have HJ3 : Hid _ := outs_join HO.out.1 H2.out.2.2 hown3 (by have := HM.out.1; have := H2.out.1; rw [List.length_append]; omega) hgrow3; have HG3 : Hid (Below w.heap.size w w3) := HGR.out.trans HJ3.out.2; obtain ⟨e0, e1, e2, e3, e4, e5, e6, e7, e8, e9, e10⟩ := eleven (w := w3) (g := g9) (o := o9 + k * 12 + 1) (HS.out w3 HG3.out).2; clear hown3 hgrow3)
        go_wp2_with fail
        refine ((HCT.out _ HG3.out).mono fun _ _ => NewB.hid).mono ?_
        rintro e w4 ⟨m4, g4, cap4, rfl, H4⟩
        have hm4 := H4.out.1
        have HBZ4 : w.heap.size ≤ w4.heap.size := Nat.le_trans HG3.out.size H4.out.2.2.size
        have HM3 : Hid (m + m2 = (Sp.numB L.len ++ done ++ Sp.txtB nm).length) := by show _ = _; have := HM.out.1; have := H2.out.1; rw [List.length_append]; omega
        have hl4 : m + m2 + m4 ≤ 70368744177664 := by omega
        clear hm4
        go_wp2_with (at_builtin; refine wpList_app_src _ rfl _ _ 23 23 rfl w.heap.size 5 i0 (.int .u8 0) 1 1 Try.undB hi hz0 hz1 hz2 rfl _ _ _ _ rfl (outs_own HM3.out (outs_call HJ3.out.1 H4.out.2.2)) _ _ _ rfl (outs_src' H4.out.1 H4.out.2.1) (by unfold maxLen; omega) (by omega) HBZ4 ?_; intro g5 cap5 w5 hown5 hgrow5 _)
        have HJ5 := outs_join HJ3.out.1 H4.out.2.2 hown5 (by have := HM3.out; have := H4.out.1; rw [List.length_append]; omega) hgrow5
        have HJ5 : Hid _ := HJ5
        have HM5 : Hid (m + m2 + m4 = (Sp.numB L.len ++ done ++ Sp.txtB nm ++ t.enc).length) := by show _ = _; have := HM3.out; have := H4.out.1; rw [List.length_append]; omega
        clear hown5 hgrow5
        go_wp2_with fail
        go_roundw
        case rel =>
          refine ⟨m + m2 + m4, k + 1, g5, cap5, done ++ (Sp.txtB nm ++ t.enc), l, rfl, by go_num, HK.out, htN.2, ⟨?_, ?_⟩, ⟨?_, HG3.out.trans HJ5.out.2, HNV.out⟩⟩
          · rw [HM5.out]; simp only [List.append_assoc]
          · rw [HM.out.2, TmF.enc]; simp only [List.append_assoc]
          · have := HJ5.out.1; simp only [List.append_assoc] at this ⊢; exact this
        case measure => simp [intOf]; omega
end Go.Proofs.Ytkomcebknllaiaa

/- tenonref03.Bytes at a list, a dict, a record, and at every term that can be; tenonref03.Encode. -/
namespace Go.Proofs.Ytkomcebknllaiaa
open Go.RowKit

set_option maxRecDepth 100000 in
set_option maxHeartbeats 1000000 in
theorem byt_8 (N : Nat) (HC : BytC N) (L : TmL) (hN : L.sz ≤ N) (al : Option Addr) (cl : Nat) (B : Nat → Prop) (b : Bool) (i : Int) (f : Nat) (tx : ByteArray) (vb : Value) (rf : Int) (vf : Value) (c : ByteArray) (vr : Int) (w : World) (hB : Sub B w) (hL : L.In w B al 0) (hll : L.len ≤ 4096) (hok : L.Ok) (hlen : (8 :: L.encR).length ≤ 70368744177664) :
    Calls Try.prog 51 #[.agg (tcells 8 b i f tx (vb) (rf) (.slice al L.len cl) (vf) c (vr))] w (NewB w (8 :: L.encR)) := by
  obtain ⟨i0, hi, hz0, hz1, hz2⟩ := info_parts Try.infoB
  have HOne : Hid (∀ o, Outs ((w.alloc o).alloc (.cells #[.int .u8 8] 5)) (w.heap.size + 1) (some ⟨w.heap.size + 1, 0, none⟩) 1 [8] ∧ Below (w.heap.size + 1) (w.alloc o) ((w.alloc o).alloc (.cells #[.int .u8 8] 5))) := outs_one w 8
  have HCH : Hid (BytC N) := HC
  have HL : Hid (1 + (Sp.numB L.len).length + L.enc.length ≤ 70368744177664) := by show _ ≤ _; simp [TmL.encR] at hlen; omega
  have hnl := Sp.numB_64 (n := L.len) (by omega)
  have HV0 : Hid (L.In w B al 0 ∧ L.Ok) := ⟨hL, hok⟩
  have HD : Hid (∀ W, Below (w.heap.size + 1) (w.alloc (.cells #[.int .i64 8, .bool b, .int .i64 i, .float .f64 f, .string tx, vb, .int .u64 rf, .slice al L.len cl, vf, .string c, .int .i64 vr] 29)) W → W.cell? ⟨w.heap.size, 7, none⟩ = some (.slice al L.len cl)) := fun W hW => by rw [hW.cell (p := ⟨w.heap.size, 7, none⟩) (by show w.heap.size < _; omega)]; simp
  clear HC hlen hL hok
  unfold tcells
  go_enter Try.func51, Try.ntmps51
  go_wp2_with fail
  refine ((number_any L.len _ (by omega)).mono fun _ _ => NewB.hid).mono ?_
  rintro e w2 ⟨m2, g2, cap2, rfl, H2⟩
  have HBZ2 : w.heap.size + 1 ≤ w2.heap.size := (outs_call (HOne.out _).1 H2.out.2.2).2
  have hm2 : m2 ≤ (Sp.numB L.len).length := Nat.le_of_eq H2.out.1
  go_wp2_with (at_builtin; refine wpList_app_src _ rfl _ _ 23 23 rfl (w.heap.size + 1) 5 i0 (.int .u8 0) 1 1 Try.undB hi hz0 hz1 hz2 rfl _ _ _ _ rfl (outs_own (xs := [8]) (rfl : 1 = ([8] : List Int).length) (outs_call (HOne.out _).1 H2.out.2.2)) _ _ _ rfl (outs_src' H2.out.1 H2.out.2.1) (by unfold maxLen; omega) (by omega) HBZ2 ?_; intro gg2 cc2 v2 hown2 hgrow2 _; have HJ2 : Hid _ := outs_join (HOne.out _).1 H2.out.2.2 hown2 (by have := (rfl : 1 = ([8] : List Int).length); have := H2.out.1; simp only [List.length_append, List.length_cons, List.length_nil] at *; omega) hgrow2; have HG2 : Hid (Below (w.heap.size + 1) (w.alloc (.cells #[.int .i64 8, .bool b, .int .i64 i, .float .f64 f, .string tx, vb, .int .u64 rf, .slice al L.len cl, vf, .string c, .int .i64 vr] 29)) v2) := Below.trans (HOne.out _).2 HJ2.out.2; have c7 := HD.out v2 HG2.out; clear hown2 hgrow2)
  go_loopw [3, 6] (fun u ii wr => ∃ (m k g cap' : Nat) (done : List Int) (l : TmL), u = .slice (some ⟨g, 0, none⟩) m cap' ∧ ii = .int .i64 k ∧ l.len + k = L.len ∧ l.sz ≤ N ∧ wr.cell? ⟨w.heap.size, 7, none⟩ = some (.slice al L.len cl) ∧ Hid (m = ([8] ++ Sp.numB L.len ++ done).length ∧ L.enc = done ++ l.enc) ∧ Hid (Outs wr (w.heap.size + 1) (some ⟨g, 0, none⟩) cap' ([8] ++ Sp.numB L.len ++ done) ∧ Below (w.heap.size + 1) (w.alloc (.cells #[.int .i64 8, .bool b, .int .i64 i, .float .f64 f, .string tx, vb, .int .u64 rf, .slice al L.len cl, vf, .string c, .int .i64 vr] 29)) wr ∧ l.In w B al k ∧ l.Ok)) (fun _ ii _ => L.len - (intOf ii).toNat)
  case atStart => exact ⟨_, 0, gg2, cc2, [], L, rfl, rfl, rfl, hN, c7, ⟨by rw [List.append_nil, List.length_append, ← H2.out.1]; rfl, rfl⟩, ⟨by rw [List.append_nil]; exact HJ2.out.1, HG2.out, HV0.out⟩⟩
  case round =>
    obtain ⟨m, k, g, cap', done, l, rfl, rfl, hk, hlN, c7, HM, HO⟩ := hrel
    clear HV0
    cases l with
    | nil =>
      have h1 : L.len ≤ k := by simp [TmL.len] at hk; omega
      clear hk
      go_wp2_with fail
      go_ret
      have he := HM.out.2
      rw [TmL.enc, List.append_nil] at he
      have e8 : 8 :: L.encR = [8] ++ Sp.numB L.len ++ done := by rw [TmL.encR, he]; simp
      rw [e8]
      exact NewB.of HO.out.1 HO.out.2.1 HM.out.1
    | cons t l =>
      obtain ⟨hout, hgr, hv, hok⟩ := HO.out
      simp only [TmL.In] at hv
      obtain ⟨g9, o9, cs, rfl, hg9, hc, ht, hv'⟩ := hv
      have hg9 := hB _ hg9
      have hlt : k < L.len := by simp [TmL.len] at hk; omega
      have HK : Hid (l.len + (k + 1) = L.len) := by show _ = _; simp [TmL.len] at hk; omega
      have htN : t.sz ≤ N ∧ l.sz ≤ N := by simp [TmL.sz] at hlN; omega
      have hm := HM.out.1
      have hbb : m + t.enc.length ≤ 70368744177664 := by
        have h1 := HL.out
        rw [HM.out.2, TmL.enc] at h1
        rw [hm]
        simp only [List.length_append, List.length_cons, List.length_nil] at h1 ⊢
        omega
      have HNV : Hid (l.In w B (some ⟨g9, o9, none⟩) (k + 1) ∧ l.Ok) := ⟨hv', hok.head.2⟩
      have HCT := HCH.out.at htN.1 ht hB hok.head.1 (by omega)
      have hbw : Below w.heap.size w wr := ((Below.refl _ _).alloc (Nat.le_refl _) _).trans (hgr.mono (by omega))
      have HGW : Hid (Below w.heap.size w wr) := hbw
      have HSZ : Hid (w.heap.size + 1 ≤ wr.heap.size) := hout.2
      clear hm
      cases t with
      | mk kk b' i' f' tx' by' rf' l' fs' c' vr' =>
        have ht' := ht
        simp only [Tm.In] at ht'
        obtain ⟨ab', cb', al', cl', af', cf', rfl, _⟩ := ht'
        obtain ⟨e0, e1, e2, e3, e4, e5, e6, e7, e8, e9, e10⟩ := eleven (w := wr) (g := g9) (o := o9 + k * 11) (fun x hx => by rw [hbw.cell (p := ⟨g9, o9 + k * 11 + x, none⟩) hg9]; exact hc x hx)
        unfold tcells at HCT
        have HCT : Hid _ := HCT
        generalize htt : Tm.mk kk b' i' f' tx' by' rf' l' fs' c' vr' = t at *
        clear hk hv' ht hc hlN hout hgr hok htt hbw
        go_wp2_with fail
        refine ((HCT.out _ HGW.out).mono fun _ _ => NewB.hid).mono ?_
        rintro e w4 ⟨m4, g4, cap4, rfl, H4⟩
        have hm4 := H4.out.1
        have HBZ4 : w.heap.size + 1 ≤ w4.heap.size := Nat.le_trans HSZ.out H4.out.2.2.size
        have hl4 : m + m4 ≤ 70368744177664 := by omega
        clear hm4
        go_wp2_with (at_builtin; refine wpList_app_src _ rfl _ _ 23 23 rfl (w.heap.size + 1) 5 i0 (.int .u8 0) 1 1 Try.undB hi hz0 hz1 hz2 rfl _ _ _ _ rfl (outs_own HM.out.1 (outs_call HO.out.1 H4.out.2.2)) _ _ _ rfl (outs_src' H4.out.1 H4.out.2.1) (by unfold maxLen; omega) (by omega) HBZ4 ?_; intro g5 cap5 w5 hown5 hgrow5 _)
        have HJ5 := outs_join HO.out.1 H4.out.2.2 hown5 (by have := HM.out.1; have := H4.out.1; rw [List.length_append]; omega) hgrow5
        have HJ5 : Hid _ := HJ5
        have HM5 : Hid (m + m4 = ([8] ++ Sp.numB L.len ++ done ++ t.enc).length) := by show _ = _; have := HM.out.1; have := H4.out.1; rw [List.length_append]; omega
        have HG5 := Below.trans HO.out.2.1 HJ5.out.2
        have c7' := HD.out w5 HG5
        clear hown5 hgrow5
        go_wp2_with fail
        go_roundw
        case rel =>
          refine ⟨m + m4, k + 1, g5, cap5, done ++ t.enc, l, rfl, by go_num, HK.out, htN.2, c7', ⟨?_, ?_⟩, ⟨?_, HG5, HNV.out⟩⟩
          · rw [HM5.out]; simp only [List.append_assoc]
          · rw [HM.out.2, TmL.enc]; simp only [List.append_assoc]
          · have := HJ5.out.1; simp only [List.append_assoc] at this ⊢; exact this
        case measure => simp [intOf]; omega

set_option maxRecDepth 100000 in
set_option maxHeartbeats 1000000 in
theorem byt_9 (N : Nat) (HC : BytC N) (L : TmF) (hN : L.sz ≤ N) (al : Option Addr) (cl : Nat) (B : Nat → Prop) (b : Bool) (i : Int) (f : Nat) (tx : ByteArray) (vb : Value) (rf : Int) (vl : Value) (c : ByteArray) (vr : Int) (w : World) (hB : Sub B w) (hL : L.In w B al 0) (hll : L.len ≤ 4096) (hok : L.Ok) (hlen : (9 :: L.encR).length ≤ 70368744177664) :
    Calls Try.prog 51 #[.agg (tcells 9 b i f tx (vb) (rf) (vl) (.slice al L.len cl) c (vr))] w (NewB w (9 :: L.encR)) := by
  obtain ⟨i0, hi, hz0, hz1, hz2⟩ := info_parts Try.infoB
  have HOne : Hid (∀ o, Outs ((w.alloc o).alloc (.cells #[.int .u8 9] 5)) (w.heap.size + 1) (some ⟨w.heap.size + 1, 0, none⟩) 1 [9] ∧ Below (w.heap.size + 1) (w.alloc o) ((w.alloc o).alloc (.cells #[.int .u8 9] 5))) := outs_one w 9
  have hle : L.encR.length ≤ 70368744177663 := by simp at hlen; omega
  have HF : Hid (∀ W, Below w.heap.size w W → Calls Try.prog 95 #[.slice al L.len cl] W (NewB W L.encR)) := fun W hW => rfields_any N HC L hN al cl B W (hB.later hW) (L.In_same (hB.same hW) (fun _ h => h) al 0 hL) hll hok (by omega)
  clear HC hlen hL hok
  unfold tcells
  go_enter Try.func51, Try.ntmps51
  go_wp2_with fail
  refine ((HF.out _ (two_below w _ _)).mono fun _ _ => NewB.hid).mono ?_
  rintro e w2 ⟨m2, g2, cap2, rfl, H2⟩
  have HBZ2 : w.heap.size + 1 ≤ w2.heap.size := (outs_call (HOne.out _).1 H2.out.2.2).2
  have hm2 : m2 ≤ (L.encR).length := Nat.le_of_eq H2.out.1
  go_wp2_with (at_builtin; refine wpList_app_src _ rfl _ _ 23 23 rfl (w.heap.size + 1) 5 i0 (.int .u8 0) 1 1 Try.undB hi hz0 hz1 hz2 rfl _ _ _ _ rfl (outs_own (xs := [9]) (rfl : 1 = ([9] : List Int).length) (outs_call (HOne.out _).1 H2.out.2.2)) _ _ _ rfl (outs_src' H2.out.1 H2.out.2.1) (by unfold maxLen; omega) (by omega) HBZ2 ?_; intro gg2 cc2 v2 hown2 hgrow2 _; have HJ2 : Hid _ := outs_join (HOne.out _).1 H2.out.2.2 hown2 (by have := (rfl : 1 = ([9] : List Int).length); have := H2.out.1; simp only [List.length_append, List.length_cons, List.length_nil] at *; omega) hgrow2; have HG2 : Hid (Below (w.heap.size + 1) (w.alloc (.cells #[.int .i64 9, .bool b, .int .i64 i, .float .f64 f, .string tx, vb, .int .u64 rf, vl, .slice al L.len cl, .string c, .int .i64 vr] 29)) v2) := Below.trans (HOne.out _).2 HJ2.out.2;  clear hown2 hgrow2)
  go_ret
  exact NewB.of (ys := [9] ++ L.encR) HJ2.out.1 HG2.out (by rw [List.length_append, ← H2.out.1]; rfl)

set_option maxRecDepth 100000 in
set_option maxHeartbeats 1000000 in
theorem byt_10 (N : Nat) (HC : BytC N) (L : TmF) (hN : L.sz ≤ N) (al : Option Addr) (cl : Nat) (B : Nat → Prop) (vr : Nat) (b : Bool) (i : Int) (f : Nat) (tx : ByteArray) (vb : Value) (rf : Int) (vl : Value) (c : ByteArray) (w : World) (hB : Sub B w) (hL : L.In w B al 0) (hll : L.len ≤ 4096) (hok : L.Ok) (hcs : c.size ≤ 32) (hvr : vr ≤ 1000) (hlen : (10 :: (Sp.txtB c ++ (Sp.numB vr ++ L.encR))).length ≤ 70368744177664) :
    Calls Try.prog 51 #[.agg (tcells 10 b i f tx (vb) (rf) (vl) (.slice al L.len cl) c ((vr : Int)))] w (NewB w (10 :: (Sp.txtB c ++ (Sp.numB vr ++ L.encR)))) := by
  obtain ⟨i0, hi, hz0, hz1, hz2⟩ := info_parts Try.infoB
  have HOne : Hid (∀ o, Outs ((w.alloc o).alloc (.cells #[.int .u8 10] 5)) (w.heap.size + 1) (some ⟨w.heap.size + 1, 0, none⟩) 1 [10] ∧ Below (w.heap.size + 1) (w.alloc o) ((w.alloc o).alloc (.cells #[.int .u8 10] 5))) := outs_one w 10
  have hle : L.encR.length ≤ 70368744177663 := by simp at hlen; omega
  have hnl := Sp.numB_64 (n := vr) (by omega)
  have htl := Sp.txtB_len hcs (by decide)
  have hlz : 1 + (Sp.txtB c).length + (Sp.numB vr).length + L.encR.length ≤ 70368744177664 := by simp at hlen; omega
  have HF : Hid (∀ W, Below w.heap.size w W → Calls Try.prog 95 #[.slice al L.len cl] W (NewB W L.encR)) := fun W hW => rfields_any N HC L hN al cl B W (hB.later hW) (L.In_same (hB.same hW) (fun _ h => h) al 0 hL) hll hok (by omega)
  have HD : Hid (∀ W, Below (w.heap.size + 1) (w.alloc (.cells #[.int .i64 10, .bool b, .int .i64 i, .float .f64 f, .string tx, vb, .int .u64 rf, vl, .slice al L.len cl, .string c, .int .i64 (vr : Int)] 29)) W → W.cell? ⟨w.heap.size, 8, none⟩ = some (.slice al L.len cl) ∧ W.cell? ⟨w.heap.size, 9, none⟩ = some (.string c) ∧ W.cell? ⟨w.heap.size, 10, none⟩ = some (.int .i64 (vr : Int))) := fun W hW => ⟨by rw [hW.cell (p := ⟨w.heap.size, 8, none⟩) (by show w.heap.size < _; omega)]; simp, by rw [hW.cell (p := ⟨w.heap.size, 9, none⟩) (by show w.heap.size < _; omega)]; simp, by rw [hW.cell (p := ⟨w.heap.size, 10, none⟩) (by show w.heap.size < _; omega)]; simp⟩
  clear HC hlen hL hok
  unfold tcells
  go_enter Try.func51, Try.ntmps51
  go_wp2_with fail
  refine ((rtext_any c _ (by omega)).mono fun _ _ => NewB.hid).mono ?_
  rintro e w2 ⟨m2, g2, cap2, rfl, H2⟩
  have HBZ2 : w.heap.size + 1 ≤ w2.heap.size := (outs_call (HOne.out _).1 H2.out.2.2).2
  have hm2 : m2 ≤ (Sp.txtB c).length := Nat.le_of_eq H2.out.1
  go_wp2_with (at_builtin; refine wpList_app_src _ rfl _ _ 23 23 rfl (w.heap.size + 1) 5 i0 (.int .u8 0) 1 1 Try.undB hi hz0 hz1 hz2 rfl _ _ _ _ rfl (outs_own (xs := [10]) (rfl : 1 = ([10] : List Int).length) (outs_call (HOne.out _).1 H2.out.2.2)) _ _ _ rfl (outs_src' H2.out.1 H2.out.2.1) (by unfold maxLen; omega) (by omega) HBZ2 ?_; intro gg2 cc2 v2 hown2 hgrow2 _; have HJ2 : Hid _ := outs_join (HOne.out _).1 H2.out.2.2 hown2 (by have := (rfl : 1 = ([10] : List Int).length); have := H2.out.1; simp only [List.length_append, List.length_cons, List.length_nil] at *; omega) hgrow2; have HG2 : Hid (Below (w.heap.size + 1) (w.alloc (.cells #[.int .i64 10, .bool b, .int .i64 i, .float .f64 f, .string tx, vb, .int .u64 rf, vl, .slice al L.len cl, .string c, .int .i64 (vr : Int)] 29)) v2) := Below.trans (HOne.out _).2 HJ2.out.2; obtain ⟨x8, x9, x10⟩ := HD.out v2 HG2.out; clear hown2 hgrow2)
  have HM2 : Hid (1 + m2 = ([10] ++ Sp.txtB c).length) := by show _ = _; rw [List.length_append, ← H2.out.1]; rfl
  refine ((number_any vr _ (by omega)).mono fun _ _ => NewB.hid).mono ?_
  rintro e w4 ⟨m4, g4, cap4, rfl, H4⟩
  have HBZ4 : w.heap.size + 1 ≤ w4.heap.size := (outs_call HJ2.out.1 H4.out.2.2).2
  have hm4 : m4 ≤ (Sp.numB vr).length := Nat.le_of_eq H4.out.1
  go_wp2_with (at_builtin; refine wpList_app_src _ rfl _ _ 23 23 rfl (w.heap.size + 1) 5 i0 (.int .u8 0) 1 1 Try.undB hi hz0 hz1 hz2 rfl _ _ _ _ rfl (outs_own (xs := [10] ++ Sp.txtB c) HM2.out (outs_call HJ2.out.1 H4.out.2.2)) _ _ _ rfl (outs_src' H4.out.1 H4.out.2.1) (by unfold maxLen; omega) (by omega) HBZ4 ?_; intro gg4 cc4 v4 hown4 hgrow4 _; have HJ4 : Hid _ := outs_join HJ2.out.1 H4.out.2.2 hown4 (by have := HM2.out; have := H4.out.1; simp only [List.length_append, List.length_cons, List.length_nil] at *; omega) hgrow4; have HG4 : Hid (Below (w.heap.size + 1) (w.alloc (.cells #[.int .i64 10, .bool b, .int .i64 i, .float .f64 f, .string tx, vb, .int .u64 rf, vl, .slice al L.len cl, .string c, .int .i64 (vr : Int)] 29)) v4) := Below.trans HG2.out HJ4.out.2; obtain ⟨y8, y9, y10⟩ := HD.out v4 HG4.out; clear hown4 hgrow4)
  have HM4 : Hid (1 + m2 + m4 = ([10] ++ Sp.txtB c ++ Sp.numB vr).length) := by show _ = _; rw [List.length_append, ← H4.out.1, ← HM2.out]
  refine ((HF.out _ (((Below.refl _ _).alloc (Nat.le_refl _) _).trans (HG4.out.mono (by omega)))).mono fun _ _ => NewB.hid).mono ?_
  rintro e w6 ⟨m6, g6, cap6, rfl, H6⟩
  have HBZ6 : w.heap.size + 1 ≤ w6.heap.size := (outs_call HJ4.out.1 H6.out.2.2).2
  have hm6 : m6 ≤ (L.encR).length := Nat.le_of_eq H6.out.1
  go_wp2_with (at_builtin; refine wpList_app_src _ rfl _ _ 23 23 rfl (w.heap.size + 1) 5 i0 (.int .u8 0) 1 1 Try.undB hi hz0 hz1 hz2 rfl _ _ _ _ rfl (outs_own (xs := [10] ++ Sp.txtB c ++ Sp.numB vr) HM4.out (outs_call HJ4.out.1 H6.out.2.2)) _ _ _ rfl (outs_src' H6.out.1 H6.out.2.1) (by unfold maxLen; omega) (by omega) HBZ6 ?_; intro gg6 cc6 v6 hown6 hgrow6 _; have HJ6 : Hid _ := outs_join HJ4.out.1 H6.out.2.2 hown6 (by have := HM4.out; have := H6.out.1; simp only [List.length_append, List.length_cons, List.length_nil] at *; omega) hgrow6; have HG6 : Hid (Below (w.heap.size + 1) (w.alloc (.cells #[.int .i64 10, .bool b, .int .i64 i, .float .f64 f, .string tx, vb, .int .u64 rf, vl, .slice al L.len cl, .string c, .int .i64 (vr : Int)] 29)) v6) := Below.trans HG4.out HJ6.out.2;  clear hown6 hgrow6)
  go_ret
  have e10 : 10 :: (Sp.txtB c ++ (Sp.numB vr ++ L.encR)) = [10] ++ Sp.txtB c ++ Sp.numB vr ++ L.encR := by simp
  rw [e10]
  exact NewB.of HJ6.out.1 HG6.out (by rw [List.length_append, ← H6.out.1, ← HM4.out])
end Go.Proofs.Ytkomcebknllaiaa

/- tenonref03.Bytes at every term that can be; tenonref03.Encode. -/
namespace Go.Proofs.Ytkomcebknllaiaa
open Go.RowKit

set_option maxHeartbeats 1000000 in
theorem bytes_any (N : Nat) : BytC N := by
  induction N with
  | zero => intro t ht; cases t; simp [Tm.sz] at ht
  | succ N ih =>
    intro t hN cs B w hin hB ho hlen
    cases t with
    | mk k b i f tx by' rf l fs c vr =>
      have hlN : l.sz ≤ N ∧ fs.sz ≤ N := by simp [Tm.sz] at hN; omega
      obtain ⟨p1, p2, p3, p4⟩ := ho.parts
      obtain ⟨q1, q2, q3, q4, q5⟩ := ho.bounds
      simp only [Tm.In] at hin
      obtain ⟨ab, cb, al, cl, af, cf, rfl, bd, h1, h2, h3⟩ := hin
      have hk : k = 1 ∨ k = 2 ∨ k = 3 ∨ k = 4 ∨ k = 5 ∨ k = 6 ∨ k = 7 ∨ k = 8 ∨ k = 9 ∨ k = 10 := by omega
      rcases hk with rfl | rfl | rfl | rfl | rfl | rfl | rfl | rfl | rfl | rfl
      · rw [Tm.enc_1]; exact byt_1 _ _ _ _ _ _ _ _ _ _ w
      · rw [Tm.enc_2]
        cases b with
        | false => exact byt_2f _ _ _ _ _ _ _ _ _ w
        | true => exact byt_2t _ _ _ _ _ _ _ _ _ w
      · rw [Tm.enc_3]
        by_cases hn : i < 0
        · exact byt_3n _ _ _ _ _ _ _ _ _ _ w bd.i0 bd.i1 hn
        · exact byt_3p _ _ _ _ _ _ _ _ _ _ w bd.i0 bd.i1 hn
      · rw [Tm.enc_4]; exact byt_4 _ _ _ _ _ _ _ _ _ _ w
      · rw [Tm.enc_5]; exact byt_5 _ _ _ _ _ _ _ _ _ _ w (q1 rfl)
      · rw [Tm.enc_6]; exact byt_6 by' ab cb B _ _ _ _ _ _ _ _ _ w hB h1 (q2 rfl)
      · rw [Tm.enc_7]
        have e : rf = (rf.toNat : Int) := by have := bd.r0; omega
        have := byt_7 rf.toNat b i f tx (.slice ab by'.size cb) (.slice al l.len cl) (.slice af fs.len cf) c vr w (by have := bd.r1; have := bd.r0; omega)
        rw [← e] at this
        exact this
      · rw [Tm.enc_8]; rw [Tm.enc_8] at hlen; exact byt_8 N ih l hlN.1 al cl B _ _ _ _ _ _ _ _ _ w hB h2 (q3 rfl) (p3 rfl) hlen
      · rw [Tm.enc_9]; rw [Tm.enc_9] at hlen; exact byt_9 N ih fs hlN.2 af cf B _ _ _ _ _ _ _ _ _ w hB h3 (TmF.nm (q4 (.inl rfl))).1 (p4 (.inl rfl)) hlen
      · have hvr := head_ver (q5 rfl)
        have e : vr = (vr.toNat : Int) := by omega
        rw [Tm.enc_10]; rw [Tm.enc_10] at hlen
        have := byt_10 N ih fs hlN.2 af cf B vr.toNat b i f tx (.slice ab by'.size cb) rf (.slice al l.len cl) c w hB h3 (TmF.nm (q4 (.inr rfl))).1 (p4 (.inr rfl)) (head_len (q5 rfl)) (by omega) hlen
        rw [← e] at this
        exact this

set_option maxRecDepth 100000 in
set_option maxHeartbeats 1000000 in
theorem refEncode_ok (t : Tm) (cs : Array Value) (B : Nat → Prop) (w : World) (h : t.In w B cs) (hB : Sub B w) (he : t.all.e = 0) :
    Calls Try.prog 24 #[.agg cs] w fun e w' => ∃ g cap, e = .returned (.tuple #[.slice (some ⟨g, 0, none⟩) t.enc.length cap, .int .i64 0]) ∧ Outs w' w.heap.size (some ⟨g, 0, none⟩) cap t.enc ∧ Below w.heap.size w w' := by
  have HCk : Hid (∀ W, Below w.heap.size w W → Calls Try.prog 12 #[.agg cs] W fun e w' => e = .returned (.tuple #[.int .i64 t.cAt, .int .i64 0]) ∧ Below W.heap.size W w') := fun W hW => by
    have := refCheck_any t cs B W (t.In_same (hB.same hW) (fun _ h => h) cs h) (hB.later hW); rw [he] at this; exact this
  have HE : Hid (∀ W, Below w.heap.size w W → Calls Try.prog 51 #[.agg cs] W (NewH W t.enc)) := fun W hW =>
    ((bytes_any t.sz).at (Nat.le_refl _) h hB (Tm.ok_all he) (by have := Tm.enc_le he (Tm.In_bdd t cs h); omega) W hW).mono fun _ _ => NewB.hid
  obtain ⟨k, b, i, f, tx, vb, rf, vl, vf, c, vr, rfl⟩ : ∃ k b i f tx vb rf vl vf c vr, cs = tcells k b i f tx vb rf vl vf c vr := by
    cases t; simp only [Tm.In] at h; obtain ⟨_, _, _, _, _, _, rfl, _⟩ := h; exact ⟨_, _, _, _, _, _, _, _, _, _, _, rfl⟩
  clear h he
  unfold tcells at HCk HE ⊢
  go_enter Try.func24, Try.ntmps24
  go_wp2_with fail
  refine (HCk.out _ ((Below.refl _ _).alloc (Nat.le_refl _) _)).mono ?_
  rintro e w1 ⟨rfl, hb1⟩
  obtain ⟨hR, hbw, hsz⟩ := box_at1 hb1
  obtain ⟨r0, r1, r2, r3, r4, r5, r6, r7, r8, r9, r10⟩ := tbox hR
  have HB1 : Hid (Below w.heap.size w w1) := hbw
  clear hR hbw hb1
  go_wp2_with fail
  refine (HE.out _ HB1.out).mono ?_
  rintro e w2 ⟨m2, g2, cap2, rfl, H2⟩
  go_wp2_with fail
  go_ret2
  obtain ⟨hm, h1, h2⟩ := H2.out
  subst hm
  exact ⟨g2, cap2, rfl, ⟨⟨h1.1.1, h1.1.2.imp id fun ⟨g, c, cur, e1, e2, r⟩ => ⟨g, c, cur, e1, by have := HB1.out.size; omega, r⟩⟩, by have := HB1.out.size; have := h2.size; omega⟩, HB1.out.trans (h2.mono HB1.out.size)⟩

set_option maxRecDepth 100000 in
set_option maxHeartbeats 1000000 in
theorem refEncode_bad (t : Tm) (cs : Array Value) (B : Nat → Prop) (w : World) (h : t.In w B cs) (hB : Sub B w) (he : t.all.e ≠ 0) :
    Calls Try.prog 24 #[.agg cs] w fun e w' => e = .returned (.tuple #[.slice none 0 0, .int .i64 t.all.e]) ∧ Below w.heap.size w w' := by
  have HCk : Hid (∀ W, Below w.heap.size w W → Calls Try.prog 12 #[.agg cs] W fun e w' => e = .returned (.tuple #[.int .i64 t.cAt, .int .i64 t.all.e]) ∧ Below W.heap.size W w') := fun W hW => refCheck_any t cs B W (t.In_same (hB.same hW) (fun _ h => h) cs h) (hB.later hW)
  have he' := ne_bool he
  obtain ⟨k, b, i, f, tx, vb, rf, vl, vf, c, vr, rfl⟩ : ∃ k b i f tx vb rf vl vf c vr, cs = tcells k b i f tx vb rf vl vf c vr := by
    cases t; simp only [Tm.In] at h; obtain ⟨_, _, _, _, _, _, rfl, _⟩ := h; exact ⟨_, _, _, _, _, _, _, _, _, _, _, rfl⟩
  clear h he
  unfold tcells at HCk ⊢
  go_enter Try.func24, Try.ntmps24
  go_wp2_with fail
  refine (HCk.out _ ((Below.refl _ _).alloc (Nat.le_refl _) _)).mono ?_
  rintro e w1 ⟨rfl, hb1⟩
  have HB1 : Hid (Below w.heap.size w w1) := below_to ((Below.refl _ _).alloc (Nat.le_refl _) _) hb1
  clear hb1
  go_wp2_with fail
  go_ret2
  exact ⟨rfl, HB1.out⟩
end Go.Proofs.Ytkomcebknllaiaa

/- tenonlaw03.same and tenonlaw03.full. -/
namespace Go.Proofs.Ytkomcebknllaiaa
open Go.RowKit

/-- bytes that can be read -/
def Rd (w : World) (a : Option Addr) (xs : List Int) : Prop := ∀ j u, xs[j]? = some u → ∃ g, a = some ⟨g, 0, none⟩ ∧ g < w.heap.size ∧ w.cell? ⟨g, j, none⟩ = some (.int .u8 u)
theorem Outs.rd {w : World} {base : Nat} {a : Option Addr} {cap : Nat} {xs : List Int} (h : Outs w base a cap xs) : Rd w a xs := fun j u hu => by
  have hp : 0 < xs.length := by
    cases xs with
    | nil => simp at hu
    | cons => simp
  obtain ⟨g, rfl⟩ := h.some hp
  refine ⟨g, rfl, (h.1.lt g rfl).2, ?_⟩
  have := h.1.cells (g := g) rfl j (.int .u8 u) (by simp only [u8s, List.getElem?_map, hu, Option.map_some])
  rw [addr_add] at this; simpa using this
theorem Rd.same {w w' : World} {a : Option Addr} {xs : List Int} (h : Rd w a xs) (hb : Below w.heap.size w w') : Rd w' a xs := fun j u hu => by
  obtain ⟨g, e, hg, hc⟩ := h j u hu
  exact ⟨g, e, Nat.lt_of_lt_of_le hg hb.size, by rw [hb.cell (p := ⟨g, j, none⟩) hg]; exact hc⟩

set_option maxRecDepth 100000 in
set_option maxHeartbeats 1000000 in
theorem wsame_any (xs : List Int) (a b : Option Addr) (ca cb : Nat) (w : World) (hl : xs.length ≤ 140737488355328) (ha : Rd w a xs) (hb : Rd w b xs) :
    Calls Try.prog 25 #[.slice a xs.length ca, .slice b xs.length cb] w fun e w' => e = .returned (.bool true) ∧ Below w.heap.size w w' := by
  have HA : Hid (Rd w a xs ∧ Rd w b xs) := ⟨ha, hb⟩
  clear ha hb
  go_enter Try.func25, Try.ntmps25
  go_wp2_with fail
  go_loopw [5] (fun i wr => ∃ k : Nat, i = .int .i64 k ∧ k ≤ xs.length ∧ Hid (Below w.heap.size w wr)) (fun i _ => xs.length - (intOf i).toNat)
  case atStart => exact ⟨0, rfl, by omega, Below.refl _ _⟩
  case round =>
    obtain ⟨k, rfl, hk, HB⟩ := hrel
    by_cases hlt : k < xs.length
    · obtain ⟨g1, rfl, hg1, c1⟩ := HA.out.1 k xs[k] (List.getElem?_eq_getElem hlt)
      obtain ⟨g2, rfl, hg2, c2⟩ := HA.out.2 k xs[k] (List.getElem?_eq_getElem hlt)
      have d1 : wr.cell? ⟨g1, k, none⟩ = some (.int .u8 xs[k]) := by rw [HB.out.cell (p := ⟨g1, k, none⟩) hg1]; exact c1
      have d2 : wr.cell? ⟨g2, k, none⟩ = some (.int .u8 xs[k]) := by rw [HB.out.cell (p := ⟨g2, k, none⟩) hg2]; exact c2
      generalize xs[k] = x at d1 d2 c1 c2
      clear c1 c2
      go_wp2_with fail
      go_quiet (fail)
      go_wp2_with fail
      go_roundw
      case rel => exact ⟨k + 1, by go_num, by omega, HB.out.trans (below_drewN' _ _ _)⟩
      case measure => simp [intOf]; omega
    · have h1 : xs.length ≤ k := by omega
      go_wp2_with fail
      go_ret
      exact ⟨rfl, HB.out⟩
end Go.Proofs.Ytkomcebknllaiaa

/- tenonlaw03.full: it writes into its own row and new memory alone. -/
namespace Go.Proofs.Ytkomcebknllaiaa
open Go.RowKit

theorem outs_set {w : World} {base g cap : Nat} {xs : List Int} (h : Outs w base (some ⟨g, 0, none⟩) cap xs) (k : Nat) (hk : k < xs.length) (c : Int) :
    (∃ u, w.cell? ⟨g, k, none⟩ = some (.int .u8 u)) ∧ w.frozen? ⟨g, k, none⟩ = false ∧ Outs (w.setCell ⟨g, k, none⟩ (.int .u8 c)) base (some ⟨g, 0, none⟩) cap (xs.set k c) ∧ Gr base (some ⟨g, 0, none⟩) (some ⟨g, 0, none⟩) w (w.setCell ⟨g, k, none⟩ (.int .u8 c)) := by
  have hc := h.1.cells (g := g) rfl k (.int .u8 xs[k]) (by simp [u8s, hk])
  rw [addr_add] at hc
  simp only [Nat.zero_add] at hc
  have hlt := h.1.lt g rfl
  have hb := h.2
  rcases h.1.2 with ⟨e, _⟩ | ⟨g1, cap1, cur, e, hbg, hg, hnc, hcm, hcs, htake⟩
  · simp at e
  simp only [Value.slice.injEq, Option.some.injEq, Addr.mk.injEq, and_true, true_and] at e
  obtain ⟨rfl, rfl⟩ := e
  refine ⟨⟨_, hc⟩, frozen_of_row _ _ k _ _ hg, ⟨⟨by simp [u8s], .inr ⟨g, cap, _, by simp, hbg, heap_setCell_same w g k _ _ _ hg, by simpa using hnc, hcm, by simpa using hcs, ?_⟩⟩, by simpa using hb⟩, ?_⟩
  · simp only [Array.toList_setIfInBounds, List.length_set, List.take_set, htake]
    simp [u8s, List.map_set]
  · refine ⟨(Below.refl base w).setCell (p := ⟨g, k, none⟩) hbg _, fun j hj hn => Below.heap_setCell w ⟨g, k, none⟩ _ j (fun e => hn (by rw [e]; rfl)), fun j hj => .inl hj⟩

set_option maxRecDepth 100000 in
set_option maxHeartbeats 1000000 in
theorem full_any (xs : List Int) (a : Option Addr) (cap base : Nat) (c : Int) (w : World) (hl : xs.length ≤ 140737488351232) (h : Outs w base a cap xs) :
    Calls Try.prog 27 #[.slice a xs.length cap, .int .u8 c] w fun e w' => e = .returned (.tuple #[]) ∧ ∃ a', Gr base a a' w w' := by
  obtain ⟨i0, hi, hz0, hz1, hz2⟩ := info_parts Try.infoB
  have H0 : Hid (Outs w base a cap xs) := h
  clear h
  go_enter Try.func27, Try.ntmps27
  go_wp2_with fail
  go_loopw [4] (fun x wr => ∃ (k : Nat) (ys : List Int), x = .int .i64 k ∧ k ≤ xs.length ∧ Hid (ys.length = xs.length ∧ Outs wr base a cap ys ∧ Gr base a a w wr)) (fun x _ => xs.length - (intOf x).toNat)
  case atStart => exact ⟨0, xs, rfl, by omega, rfl, H0.out, Gr.refl _ _ _⟩
  case round =>
    obtain ⟨k, ys, rfl, hk, HD⟩ := hrel
    have hi0 : (0 : Int) ≤ (k : Int) := Int.natCast_nonneg _
    by_cases hkl : k < xs.length
    · have hi1 : (k : Int) < (xs.length : Int) := by omega
      obtain ⟨g, rfl⟩ := HD.out.2.1.some (by have := HD.out.1; omega)
      obtain ⟨⟨u, c0⟩, f0, ho, hg⟩ := outs_set HD.out.2.1 k (by have := HD.out.1; omega) c
      have HN : Hid ((ys.set k c).length = xs.length ∧ Outs (wr.setCell ⟨g, k, none⟩ (.int .u8 c)) base (some ⟨g, 0, none⟩) cap (ys.set k c) ∧ Gr base (some ⟨g, 0, none⟩) (some ⟨g, 0, none⟩) w (wr.setCell ⟨g, k, none⟩ (.int .u8 c))) := ⟨by rw [List.length_set]; exact HD.out.1, ho, HD.out.2.2.trans hg⟩
      clear ho hg
      go_wp2_with fail
      go_roundw
      case rel => exact ⟨k + 1, ys.set k c, by go_num, by omega, HN.out⟩
      case measure => simp [intOf]; omega
    · have hi1 : ¬ ((k : Int) < (xs.length : Int)) := by omega
      have HG0 : Hid (∃ zs : List Int, zs.length = xs.length + 0 ∧ Outs wr base a cap zs ∧ Gr base a a w wr) := ⟨ys, HD.out⟩
      go_wp2_with fail
      go_loopw [0, 5] (fun v x wr => ∃ (k : Nat) (a' : Option Addr) (cap' : Nat), v = .slice a' (xs.length + k) cap' ∧ x = .int .i64 k ∧ k ≤ 90 ∧ Hid (∃ zs : List Int, zs.length = xs.length + k ∧ Outs wr base a' cap' zs ∧ Gr base a a' w wr)) (fun _ x _ => 90 - (intOf x).toNat)
      case atStart => exact ⟨0, a, cap, rfl, rfl, by omega, HG0.out⟩
      case round =>
        obtain ⟨j, a', cap', rfl, rfl, hj, HR⟩ := hrel
        by_cases hj9 : j < 90
        · obtain ⟨zs, hz, ho, hgr⟩ := HR.out
          have HOW : Hid (wr.ownsRow base 5 1 (.slice a' (xs.length + j) cap') (xs.length + j) (u8s zs)) := by have := ho.1; rw [hz] at this; exact this
          have hbz := ho.2
          have HST : Hid (Outs wr base a' cap' zs ∧ zs.length = xs.length + j ∧ Gr base a a' w wr) := ⟨ho, hz, hgr⟩
          clear hz ho hgr
          go_wp2_with (at_builtin; refine wpList_app _ rfl _ _ 23 rfl base 5 i0 (.int .u8 0) 1 1 Try.undB hi hz0 hz1 hz2 rfl (by decide) _ _ _ rfl (HOW.out.alloc _) ⟨wr.heap.size, 0, none⟩ 1 1 [.int .u8 c] rfl rfl (cell_one_new _ _ _) (fun u hu => by simp at hu; subst hu; rfl) (by decide) (by unfold maxLen; omega) (by omega) (by simp; omega) ?_; intro g' cap2 w3 hown' hgrow hor')
          have hzz := HST.out.2.1
          obtain ⟨h1, h2⟩ := HST.out.1.step (ys := [c]) (n := xs.length + j + 1) (m := xs.length + j + 1) hown' rfl (by simp; omega) (by rw [hzz]; exact hgrow) (by rw [hzz]; exact hor')
          have HN : Hid (∃ zs : List Int, zs.length = xs.length + (j + 1) ∧ Outs w3 base (some ⟨g', 0, none⟩) cap2 zs ∧ Gr base a (some ⟨g', 0, none⟩) w w3) := ⟨zs ++ [c], by simp; omega, h1, HST.out.2.2.trans h2⟩
          clear hzz h1 h2 hown' hgrow hor'
          go_roundw
          case rel => exact ⟨j + 1, some ⟨g', 0, none⟩, cap2, rfl, by go_num, by omega, HN.out⟩
          case measure => simp [intOf]; omega
        · go_wp2_with fail
          go_end0
          obtain ⟨_, _, _, hg⟩ := HR.out
          exact ⟨rfl, a', hg⟩
end Go.Proofs.Ytkomcebknllaiaa

/- tenonmake.plain at whatever value: the term that it answers, plainly. -/
namespace Go.Proofs.Ytkomcebknllaiaa
open Go.RowKit

def zeroT : Tm := .mk 0 false 0 0 ByteArray.empty ByteArray.empty 0 .nil .nil ByteArray.empty 0
mutual
/-- the term that plain answers at a term's value that lies so deep -/
def Tm.pl : Tm → Int → Tm
  | .mk k b i f tx by' rf l fs c v, d =>
    if 400 < d then zeroT
    else .mk (if 1 ≤ k ∧ k ≤ 11 then k else 0) (if k = 2 then b else false) (if k = 3 then i else 0) (if k = 4 then f else 0) (if k = 5 then tx else ByteArray.empty) (if k = 6 then by' else ByteArray.empty) (if k = 7 then rf else 0) (if k = 8 then l.pl (d + 1) else .nil) (if k = 9 ∨ k = 10 then fs.pl (d + 1) else .nil) (if k = 10 then c else ByteArray.empty) (if k = 10 then v else 0)
def TmL.pl : TmL → Int → TmL
  | .nil, _ => .nil
  | .cons t l, d => .cons (t.pl d) (l.pl d)
def TmF.pl : TmF → Int → TmF
  | .nil, _ => .nil
  | .cons n t l, d => .cons n (t.pl d) (l.pl d)
end
theorem TmL.pl_len : (l : TmL) → ∀ d, (l.pl d).len = l.len
  | .nil, _ => rfl
  | .cons t l, d => by simp only [TmL.pl, TmL.len, TmL.pl_len l]
theorem TmF.pl_len : (l : TmF) → ∀ d, (l.pl d).len = l.len
  | .nil, _ => rfl
  | .cons n t l, d => by simp only [TmF.pl, TmF.len, TmF.pl_len l]
mutual
/-- all that a term holds is within the bounds of memory -/
def Tm.Sm : Tm → Prop
  | .mk _ _ i f tx by' rf l fs c v => ((-9223372036854775808 ≤ i ∧ i ≤ 9223372036854775807) ∧ f < 18446744073709551616 ∧ (0 ≤ rf ∧ rf ≤ 18446744073709551615) ∧ (-9223372036854775808 ≤ v ∧ v ≤ 9223372036854775807)) ∧ (tx.size ≤ 140737488355328 ∧ by'.size ≤ 140737488355328 ∧ c.size ≤ 140737488355328) ∧ (l.len * 152 ≤ 140737488355328 ∧ fs.len * 168 ≤ 140737488355328) ∧ l.Sm ∧ fs.Sm
def TmL.Sm : TmL → Prop
  | .nil => True
  | .cons t l => t.Sm ∧ l.Sm
def TmF.Sm : TmF → Prop
  | .nil => True
  | .cons n t l => n.size ≤ 140737488355328 ∧ t.Sm ∧ l.Sm
end
mutual
theorem Tm.In_sm {w : World} {B : Nat → Prop} : (t : Tm) → ∀ cs, t.In w B cs → t.Sm
  | .mk k b i f tx by' rf l fs c v, cs, h => by
    simp only [Tm.In] at h
    obtain ⟨ab, cb, al, cl, af, cf, rfl, hbd, hby, hl, hfs⟩ := h
    simp only [Tm.Sm]
    exact ⟨⟨⟨hbd.i0, hbd.i1⟩, hbd.f1, ⟨hbd.r0, hbd.r1⟩, ⟨hbd.v0, hbd.v1⟩⟩, ⟨hbd.tx, hbd.nb, hbd.c⟩, ⟨hbd.nl, hbd.nf⟩, TmL.In_sm l _ _ hl, TmF.In_sm fs _ _ hfs⟩
theorem TmL.In_sm {w : World} {B : Nat → Prop} : (l : TmL) → ∀ a j, l.In w B a j → l.Sm
  | .nil, _, _, _ => trivial
  | .cons t l, a, j, h => by
    simp only [TmL.In] at h
    obtain ⟨_, _, _, _, _, _, ht, hl⟩ := h
    exact ⟨Tm.In_sm t _ ht, TmL.In_sm l _ _ hl⟩
theorem TmF.In_sm {w : World} {B : Nat → Prop} : (l : TmF) → ∀ a j, l.In w B a j → l.Sm
  | .nil, _, _, _ => trivial
  | .cons n t l, a, j, h => by
    simp only [TmF.In] at h
    obtain ⟨_, _, _, _, _, _, hn, _, ht, hl⟩ := h
    exact ⟨hn, Tm.In_sm t _ ht, TmF.In_sm l _ _ hl⟩
end
def GPlC (N : Nat) : Prop := ∀ (t : Tm), t.sz ≤ N → ∀ (v : Value) (B : Nat → Prop) (w : World) (deep : Int), t.V w B v → Sub B w → t.Sm → 0 ≤ deep → deep ≤ 401 →
  Calls Try.prog 52 #[v, .int .i64 deep] w fun e w' => ∃ cs, e = .returned (.agg cs) ∧ Below w.heap.size w w' ∧ (t.pl deep).In w' (Fr w w') cs
theorem GPlC.at {N : Nat} (HC : GPlC N) {t : Tm} (hN : t.sz ≤ N) {v : Value} {B : Nat → Prop} {w : World} {deep : Int} (h : t.V w B v) (hB : Sub B w) (hb : t.Sm) (h0 : 0 ≤ deep) (h1 : deep ≤ 401) :
    ∀ W, Below w.heap.size w W → Calls Try.prog 52 #[v, .int .i64 deep] W fun e w' => ∃ k b i f tx ab nb cb rf al nl cl af nf cf c vr, e = .returned (.agg (tcells k b i f tx (.slice ab nb cb) rf (.slice al nl cl) (.slice af nf cf) c vr)) ∧ Below W.heap.size W w' ∧ (t.pl deep).In w' (Fr W w') (tcells k b i f tx (.slice ab nb cb) rf (.slice al nl cl) (.slice af nf cf) c vr) := by
  intro W hW
  refine (HC t hN v B W deep (t.V_same (hB.same hW) (fun _ h => h) v h) (hB.later hW) hb h0 h1).mono ?_
  rintro e w' ⟨cs, rfl, hb, hv⟩
  obtain ⟨k1, b1, i1, f1, tx1, ab1, nb1, cb1, rf1, al1, nl1, cl1, af1, nf1, cf1, cc1, vr1, rfl⟩ := Tm.In_tc' hv
  exact ⟨k1, b1, i1, f1, tx1, ab1, nb1, cb1, rf1, al1, nl1, cl1, af1, nf1, cf1, cc1, vr1, rfl, hb, hv⟩
end Go.Proofs.Ytkomcebknllaiaa
