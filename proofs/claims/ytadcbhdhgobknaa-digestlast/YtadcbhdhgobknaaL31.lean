/- wire.appendValue at a list, a dict, a record; at every value that can be; wire.Encode. -/
import Derived.Test.YtadcbhdhgobknaaL30
import Derived.Deep.RegionHeld3
import Derived.Deep.AppendLies
import Derived.Test.YtadcbhdhgobknaaL16
import Derived.Test.YtadcbhdhgobknaaL24
import Derived.Defers
import Derived.Recover
namespace Go.Proofs.Ytadcbhdhgobknaa
open Go.RowKit

theorem Gr.drew {base : Nat} {a a' : Option Addr} {w w' : World} (h : Gr base a a' w w') : Gr base a a' w w'.drew := ⟨h.1.drew, h.2.1, h.2.2⟩

set_option maxRecDepth 100000 in
set_option maxHeartbeats 1000000 in
theorem aval_8 (N : Nat) (HC : EncC N) (L : TmL) (hN : L.sz ≤ N) (al : Option Addr) (cl : Nat) (base : Nat) (a : Option Addr) (cap : Nat) (xs : List Int) (w : World) (hv : L.V w (Lo base) al 0) (hll : L.len ≤ 4096) (hok : L.Ok) (hbd : L.Bdd) (h : Outs w base a cap xs) (hlen : xs.length + (8 :: L.encR).length ≤ 140737488355328) :
    Calls Try.prog 102 #[.slice a xs.length cap, .iface 81 (.slice al L.len cl)] w (Apd base a w xs (8 :: L.encR)) := by
  obtain ⟨i0, hi, hz0, hz1, hz2⟩ := info_parts Try.infoB
  have hl : xs.length + 1 ≤ 140737488355328 := by simp at hlen; omega
  have HCH : Hid (EncC N) := HC
  have HL : Hid (xs.length + 1 + (Sp.numB L.len).length + L.enc.length ≤ 140737488355328) := by show _ ≤ _; simp [TmL.encR] at hlen; omega
  have HV0 : Hid (L.V w (Lo base) al 0 ∧ L.Ok ∧ L.Bdd) := ⟨hv, hok, hbd⟩
  clear hv hok hbd
  have HO : Hid (Outs w base a cap xs) := h
  have HOW : Hid (w.ownsRow base 5 1 (.slice a xs.length cap) xs.length (u8s xs)) := h.1
  clear h HC hlen
  go_enter Try.func102, Try.ntmps102
  go_wp2_with (at_builtin; refine wpList_app _ rfl _ _ 23 rfl base 5 i0 (.int .u8 0) 1 1 Try.undB hi hz0 hz1 hz2 rfl (by decide) _ _ _ rfl (HOW.out.alloc _) ⟨w.heap.size, 0, none⟩ 1 1 [.int .u8 8] rfl rfl (cell_one_new _ _ _) (fun u hu => by simp at hu; subst hu; rfl) (by decide) (by unfold maxLen; omega) (by omega) (by have := HO.out.2; simp; omega) ?_; intro g' cap2 w3 hown' hgrow hor')
  obtain ⟨h1, h2⟩ := HO.out.step (ys := [8]) hown' rfl (by simp) hgrow hor'
  have HE : Hid (Outs w3 base (some ⟨g', 0, none⟩) cap2 (xs ++ [8])) := h1
  have HB : Hid (Gr base a (some ⟨g', 0, none⟩) w w3) := h2
  clear h1 h2 hown' hgrow hor'
  go_wp2_with fail
  refine ((appNum_at L.len base _ _ (xs ++ [8]) _ _ (by simp) (by omega) HE.out (by have := HL.out; simp; omega)).mono fun _ _ => Apd.hid).mono ?_
  rintro e w1 ⟨m1, a1, cap1, rfl, H1⟩
  go_wp2_with fail
  go_loopw [0, 84] (fun u i wr => ∃ (m k : Nat) (a' : Option Addr) (cap' : Nat) (done : List Int) (l : TmL), u = .slice a' m cap' ∧ i = .int .i64 k ∧ l.len + k = L.len ∧ l.sz ≤ N ∧ Hid (m = (xs ++ [8] ++ Sp.numB L.len ++ done).length ∧ L.enc = done ++ l.enc) ∧ Hid (Outs wr base a' cap' (xs ++ [8] ++ Sp.numB L.len ++ done) ∧ Gr base a a' w wr ∧ l.V w (Lo base) al k ∧ l.Ok ∧ l.Bdd)) (fun _ i _ => L.len - (intOf i).toNat)
  case atStart => exact ⟨m1, 0, a1, cap1, [], L, rfl, rfl, rfl, hN, ⟨by rw [List.append_nil]; exact H1.out.1, rfl⟩, ⟨by rw [List.append_nil]; exact H1.out.2.1, HB.out.trans H1.out.2.2, HV0.out⟩⟩
  case round =>
    obtain ⟨m, k, a', cap', done, l, rfl, rfl, hk, hlN, HM, HOU⟩ := hrel
    clear H1 HV0
    cases l with
    | nil =>
      have h1 : L.len ≤ k := by simp [TmL.len] at hk; omega
      clear hk
      go_wp2_with fail
      go_ret
      have he := HM.out.2
      rw [TmL.enc, List.append_nil] at he
      have e8 : xs ++ 8 :: L.encR = xs ++ [8] ++ Sp.numB L.len ++ done := by rw [TmL.encR, he]; simp
      refine Apd.of ?_ ?_ HOU.out.2.1
      · rw [HM.out.1, e8]
      · rw [e8]; exact HOU.out.1
    | cons t l =>
      obtain ⟨hout, hgr, hv, hok, hbd⟩ := HOU.out
      simp only [TmL.V] at hv
      obtain ⟨g, o, v, rfl, hg, c0, ht, hv'⟩ := hv
      have hg : g < base := hg
      have hlt : k < L.len := by simp [TmL.len] at hk; omega
      have HK : Hid (l.len + (k + 1) = L.len) := by show _ = _; simp [TmL.len] at hk; omega
      have htN : t.sz ≤ N ∧ l.sz ≤ N := by simp [TmL.sz] at hlN; omega
      have d0 : wr.cell? ⟨g, o + k, none⟩ = some v := by rw [hgr.1.cell (p := ⟨g, o + k, none⟩) hg]; exact c0
      have HLN : Hid ((xs ++ [8] ++ Sp.numB L.len ++ done).length + t.enc.length ≤ 140737488355328) := by
        show _ ≤ _
        have h1 := HL.out
        have h2 := HM.out.2
        rw [h2, TmL.enc] at h1
        simp only [List.length_append, List.length_cons, List.length_nil] at h1 ⊢
        omega
      have HNV : Hid (l.V w (Lo base) (some ⟨g, o, none⟩) (k + 1) ∧ l.Ok ∧ l.Bdd) := ⟨hv', hok.head.2, hbd.2⟩
      have HTV : Hid (t.V wr (Lo base) v ∧ t.Ok ∧ t.Bdd) := ⟨t.V_same (Same.of_below hgr.1 (Nat.le_refl _)) (fun _ h => h) v ht, hok.head.1, hbd.1⟩
      clear hk hv' ht c0 hlN hout hgr hok hbd
      go_wp2_with fail
      refine (HCH.out.at htN.1 HM.out.1 HTV.out.1 HTV.out.2.1 HTV.out.2.2 HOU.out.1 HLN.out).mono ?_
      rintro e w4 ⟨m4, a4, cap4, rfl, H4⟩
      go_wp2_with fail
      go_roundw
      case rel =>
        refine ⟨m4, k + 1, a4, cap4, done ++ t.enc, l, rfl, by go_num, HK.out, htN.2, ⟨?_, ?_⟩, ⟨?_, HOU.out.2.1.trans H4.out.2.2, HNV.out⟩⟩
        · rw [H4.out.1]; simp only [List.append_assoc]
        · rw [HM.out.2, TmL.enc]; simp only [List.append_assoc]
        · have := H4.out.2.1; simp only [List.append_assoc] at this ⊢; exact this
      case measure => simp [intOf]; omega

set_option maxRecDepth 100000 in
set_option maxHeartbeats 1000000 in
theorem aval_9 (N : Nat) (HC : EncC N) (L : TmF) (hN : L.sz ≤ N) (al : Option Addr) (cl : Nat) (base : Nat) (a : Option Addr) (cap : Nat) (xs : List Int) (w : World) (hv : L.V w (Lo base) al 0) (hll : L.len ≤ 4096) (hok : L.Ok) (hbd : L.Bdd) (h : Outs w base a cap xs) (hlen : xs.length + (9 :: L.encR).length ≤ 140737488355328) :
    Calls Try.prog 102 #[.slice a xs.length cap, .iface 83 (.slice al L.len cl)] w (Apd base a w xs (9 :: L.encR)) := by
  obtain ⟨i0, hi, hz0, hz1, hz2⟩ := info_parts Try.infoB
  have hl : xs.length + 1 ≤ 140737488355328 := by simp at hlen; omega
  have HCH : Hid (EncC N) := HC
  have HL : Hid (xs.length + 1 + L.encR.length ≤ 140737488355328) := by show _ ≤ _; simp at hlen; omega
  have HV0 : Hid ((∀ W, Below base w W → L.V W (Lo base) al 0) ∧ L.Ok ∧ L.Bdd) := ⟨fun W hW => L.V_same (Same.of_below hW (Nat.le_refl _)) (fun _ h => h) al 0 hv, hok, hbd⟩
  clear hv hok hbd
  have HO : Hid (Outs w base a cap xs) := h
  have HOW : Hid (w.ownsRow base 5 1 (.slice a xs.length cap) xs.length (u8s xs)) := h.1
  clear h HC hlen
  go_enter Try.func102, Try.ntmps102
  go_wp2_with (at_builtin; refine wpList_app _ rfl _ _ 23 rfl base 5 i0 (.int .u8 0) 1 1 Try.undB hi hz0 hz1 hz2 rfl (by decide) _ _ _ rfl (HOW.out.alloc _) ⟨w.heap.size, 0, none⟩ 1 1 [.int .u8 9] rfl rfl (cell_one_new _ _ _) (fun u hu => by simp at hu; subst hu; rfl) (by decide) (by unfold maxLen; omega) (by omega) (by have := HO.out.2; simp; omega) ?_; intro g' cap2 w3 hown' hgrow hor')
  obtain ⟨h1, h2⟩ := HO.out.step (ys := [9]) hown' rfl (by simp) hgrow hor'
  have HE : Hid (Outs w3 base (some ⟨g', 0, none⟩) cap2 (xs ++ [9])) := h1
  have HB : Hid (Gr base a (some ⟨g', 0, none⟩) w w3) := h2
  clear h1 h2 hown' hgrow hor'
  go_wp2_with fail
  refine (appFields_any N HCH.out L hN al cl base _ _ (xs ++ [9]) _ _ (by simp) (HV0.out.1 _ HB.out.1) hll HV0.out.2.1 HV0.out.2.2 HE.out (by have := HL.out; simp; omega)).mono ?_
  rintro e w1 ⟨a2, cap3, rfl, ho2, hb2⟩
  go_wp2_with fail
  go_ret
  exact Apd.cons HB.out ho2 hb2

set_option maxRecDepth 100000 in
set_option maxHeartbeats 1000000 in
theorem aval_10 (N : Nat) (HC : EncC N) (L : TmF) (hN : L.sz ≤ N) (g : Nat) (al : Option Addr) (cl : Nat) (s : ByteArray) (vr : Nat) (base : Nat) (a : Option Addr) (cap : Nat) (xs : List Int) (w : World) (hg : g < base) (c0 : w.cell? ⟨g, 0, none⟩ = some (.string s)) (c1 : w.cell? ⟨g, 1, none⟩ = some (.int .i64 (vr : Int))) (c2 : w.cell? ⟨g, 2, none⟩ = some (.slice al L.len cl)) (hvr : vr ≤ 1000) (hv : L.V w (Lo base) al 0) (hll : L.len ≤ 4096) (hok : L.Ok) (hbd : L.Bdd) (h : Outs w base a cap xs) (hlen : xs.length + (10 :: (Sp.txtB s ++ (Sp.numB vr ++ L.encR))).length ≤ 140737488355328) :
    Calls Try.prog 102 #[.slice a xs.length cap, .iface 85 (.pointer (some ⟨g, 0, none⟩))] w (Apd base a w xs (10 :: (Sp.txtB s ++ (Sp.numB vr ++ L.encR)))) := by
  obtain ⟨i0, hi, hz0, hz1, hz2⟩ := info_parts Try.infoB
  have hl : xs.length + 1 ≤ 140737488355328 := by simp at hlen; omega
  have HCH : Hid (EncC N) := HC
  have HL : Hid (xs.length + 1 + (Sp.txtB s).length + (Sp.numB vr).length + L.encR.length ≤ 140737488355328) := by show _ ≤ _; simp at hlen; omega
  have HV0 : Hid ((∀ W, Below base w W → L.V W (Lo base) al 0) ∧ L.Ok ∧ L.Bdd) := ⟨fun W hW => L.V_same (Same.of_below hW (Nat.le_refl _)) (fun _ h => h) al 0 hv, hok, hbd⟩
  have HD : Hid (∀ W, Below base w W → W.cell? ⟨g, 0, none⟩ = some (.string s) ∧ W.cell? ⟨g, 1, none⟩ = some (.int .i64 (vr : Int)) ∧ W.cell? ⟨g, 2, none⟩ = some (.slice al L.len cl)) := fun W hW => ⟨by rw [hW.cell (p := ⟨g, 0, none⟩) hg]; exact c0, by rw [hW.cell (p := ⟨g, 1, none⟩) hg]; exact c1, by rw [hW.cell (p := ⟨g, 2, none⟩) hg]; exact c2⟩
  clear hv hok hbd
  have hbz := h.2
  have HA : Hid (∀ o, Below base w (w.alloc o).drew) := fun o => ((Below.refl base w).alloc hbz o).drew
  have HA0 : Hid (∀ o, Below base w (w.alloc o)) := fun o => ((Below.refl base w).alloc hbz o)
  have HO : Hid (Outs w base a cap xs) := h
  have HOW : Hid (w.ownsRow base 5 1 (.slice a xs.length cap) xs.length (u8s xs)) := h.1
  clear h HC hlen
  go_enter Try.func102, Try.ntmps102
  go_wp2_with fail
  go_region_held3 (fun W => W.cell? ⟨g, 0, none⟩ = some (.string s))
    (first | with_reducible exact (HD.out _ (Below.refl base w)).1 | with_reducible exact (HD.out _ (Below.refl base w).drew).1 | with_reducible exact (HD.out _ (HA.out _)).1 | with_reducible exact (HD.out _ (HA0.out _)).1 | with_reducible exact (HD.out _ HBb.out).1 | with_reducible exact (HD.out _ HGb.out).1 | (show False))
    ((first | (refine step_append_lies _ (by rfl) _ _ _ (by rfl) base 5 i0 _ 1 1 Try.undB hi hz0 hz1 hz2 rfl (by omega) _ xs.length (u8s xs) (by rfl) ((outs_call (outs_alloc HO.out (.cells #[.int .u8 10] 5)) ((Below.refl _ _).drew)).1) ⟨w.heap.size, 0, none⟩ 1 1 [.int .u8 10] (by rfl) (by rfl) (cell_one_new _ _ _) (fun u hu => by simp at hu; subst hu; rfl) (by omega) (by unfold maxLen; omega) (by omega) (by simp; omega) (w.heap.size + 1) (by simp) ?_; intro g' cap2 w3 hown' hgrow hor' hlt3; have h12 := (outs_call HO.out ((Below.refl _ _).drew)).step (o := .cells #[.int .u8 10] 5) (ys := [10]) hown' rfl (by simp) hgrow (by simpa using hor'); have HE : Hid (Outs w3 base (some ⟨g', 0, none⟩) cap2 (xs ++ [10])) := h12.1; have HB : Hid (Gr base a (some ⟨g', 0, none⟩) w w3) := (Gr.refl base a w).drew.trans h12.2; have HBb : Hid (Below base w w3) := HB.out.1) | (go_at_call 133; refine ((appText_at s base _ _ (xs ++ [10]) _ _ (by simp) HE.out (by have := HL.out; simp; omega)).mono fun _ _ => Apd.hid).mono ?_; rintro e w1 ⟨m1, a1, cap1, rfl, H1⟩; have HG1 : Hid (Gr base a a1 w w1) := HB.out.trans H1.out.2.2; have HGb : Hid (Below base w w1) := HG1.out.1)))
  obtain ⟨e0, e1, e2⟩ := HD.out w1 HG1.out.1
  go_wp2_with fail
  refine ((appNum_at vr base _ _ (xs ++ [10] ++ Sp.txtB s) _ _ H1.out.1 (by omega) H1.out.2.1 (by have := HL.out; simp; omega)).mono fun _ _ => Apd.hid).mono ?_
  rintro e w2 ⟨m2, a2, cap4, rfl, H2⟩
  have HG2 : Hid (Gr base a a2 w w2) := HG1.out.trans H2.out.2.2
  obtain ⟨b0, b1, b2⟩ := HD.out w2 HG2.out.1
  go_wp2_with fail
  refine ((appFields_any N HCH.out L hN al cl base _ _ (xs ++ [10] ++ Sp.txtB s ++ Sp.numB vr) _ _ H2.out.1 (HV0.out.1 _ HG2.out.1) hll HV0.out.2.1 HV0.out.2.2 H2.out.2.1 (by have := HL.out; simp; omega)).mono fun _ _ => Apd.hid).mono ?_
  rintro e w4 ⟨m4, a4, cap5, rfl, H4⟩
  go_wp2_with fail
  go_ret
  have e10 : xs ++ 10 :: (Sp.txtB s ++ (Sp.numB vr ++ L.encR)) = xs ++ [10] ++ Sp.txtB s ++ Sp.numB vr ++ L.encR := by simp
  refine Apd.of ?_ ?_ (HG2.out.trans H4.out.2.2)
  · rw [H4.out.1, e10]
  · rw [e10]; exact H4.out.2.1
end Go.Proofs.Ytadcbhdhgobknaa

/- wire.appendValue at every value that can be; wire.Encode. -/
namespace Go.Proofs.Ytadcbhdhgobknaa
open Go.RowKit

set_option maxHeartbeats 1000000 in
theorem enc_any (N : Nat) : EncC N := by
  induction N with
  | zero => intro t ht; cases t; simp [Tm.sz] at ht
  | succ N ih =>
    intro t hN v base a cap xs w hv ho hbd hx hlen
    cases t with
    | mk k b i f tx by' rf l fs c vr =>
      have hlN : l.sz ≤ N ∧ fs.sz ≤ N := by simp [Tm.sz] at hN; omega
      obtain ⟨p1, p2, p3, p4⟩ := ho.parts
      obtain ⟨q1, q2, q3, q4, q5⟩ := ho.bounds
      simp only [Tm.Bdd] at hbd
      obtain ⟨bi, bf, br, bv, bl, bfs⟩ := hbd
      simp only [Tm.V] at hv
      obtain ⟨h1, h2, h3, h4, h5, h6, h7, h8, h9, h10, h11, h12⟩ := hv
      have hk : k = 1 ∨ k = 2 ∨ k = 3 ∨ k = 4 ∨ k = 5 ∨ k = 6 ∨ k = 7 ∨ k = 8 ∨ k = 9 ∨ k = 10 := by omega
      rcases hk with rfl | rfl | rfl | rfl | rfl | rfl | rfl | rfl | rfl | rfl
      · rw [h1 rfl, Tm.enc_1]; rw [Tm.enc_1] at hlen; exact aval_1 base a cap xs w hx hlen
      · rw [h2 rfl, Tm.enc_2]; rw [Tm.enc_2] at hlen
        cases b with
        | false => exact aval_2f base a cap xs w hx hlen
        | true => exact aval_2t base a cap xs w hx hlen
      · rw [h3 rfl, Tm.enc_3]; rw [Tm.enc_3] at hlen; exact aval_3 i base a cap xs w bi.1 bi.2 hx hlen
      · rw [(h4 rfl).1, Tm.enc_4]; rw [Tm.enc_4] at hlen; exact aval_4 f base a cap xs w hx hlen
      · rw [(h5 rfl).1, Tm.enc_5]; rw [Tm.enc_5] at hlen; exact aval_5 tx base a cap xs w hx hlen
      · obtain ⟨ab, cb, rfl, _, hb⟩ := h6 rfl
        rw [Tm.enc_6]; rw [Tm.enc_6] at hlen; exact aval_6 by' ab cb base a cap xs w hb hx hlen
      · rw [h7 rfl, Tm.enc_7]; rw [Tm.enc_7] at hlen
        have e : rf = (rf.toNat : Int) := by omega
        have := aval_7 rf.toNat base a cap xs w (by omega) hx hlen
        rw [← e] at this
        exact this
      · obtain ⟨al, cl, rfl, _, hb⟩ := h8 rfl
        rw [Tm.enc_8]; rw [Tm.enc_8] at hlen; exact aval_8 N ih l hlN.1 al cl base a cap xs w hb (q3 rfl) (p3 rfl) bl hx hlen
      · obtain ⟨al, cl, rfl, _, hb⟩ := h9 rfl
        rw [Tm.enc_9]; rw [Tm.enc_9] at hlen; exact aval_9 N ih fs hlN.2 al cl base a cap xs w hb (TmF.nm (q4 (.inl rfl))).1 (p4 (.inl rfl)) bfs hx hlen
      · obtain ⟨g, al, cl, rfl, hg, c0, c1, c2, _, _, hb⟩ := h10 rfl
        have hvr := head_ver (q5 rfl)
        have e : vr = (vr.toNat : Int) := by omega
        rw [Tm.enc_10]; rw [Tm.enc_10] at hlen; exact aval_10 N ih fs hlN.2 g al cl c vr.toNat base a cap xs w hg c0 (by rw [← e]; exact c1) c2 (by omega) hb (TmF.nm (q4 (.inr rfl))).1 (p4 (.inr rfl)) bfs hx hlen

theorem Tm.enc_pos (t : Tm) : 0 < t.enc.length := by cases t; simp [Tm.enc]

set_option maxRecDepth 100000 in
set_option maxHeartbeats 1000000 in
theorem Encode_ok (t : Tm) (v : Value) (B : Nat) (w : World) (hB : B ≤ w.heap.size) (h : t.V w (Lo B) v) (hb : t.Bdd) (he : t.all.e = 0) :
    Calls Try.prog 55 #[v] w fun e w' => ∃ g cap, e = .returned (.tuple #[.slice (some ⟨g, 0, none⟩) t.enc.length cap, .int .i64 0]) ∧ Outs w' w.heap.size (some ⟨g, 0, none⟩) cap t.enc ∧ Below w.heap.size w w' := by
  have HCk : Hid (Calls Try.prog 39 #[v] w fun e w' => e = .returned (.tuple #[.int .i64 t.cAt, .int .i64 0]) ∧ Below w.heap.size w w') := by
    have := Check_any t v B w hB h; rw [he] at this; exact this
  have HE : Hid (∀ W, Below w.heap.size w W → Calls Try.prog 102 #[.slice none 0 0, v] W (ApdH w.heap.size none W [] t.enc)) := fun W hW =>
    (enc_any t.sz).at (xs := []) (Nat.le_refl _) rfl (t.V_same (Same.of_below hW hB) (Lo.le hB) v h) (Tm.ok_all he) hb ⟨⟨rfl, .inl ⟨rfl, rfl⟩⟩, hW.size⟩ (by have := Tm.enc_le he hb; simp; omega)
  clear h hb he
  go_enter Try.func55, Try.ntmps55
  go_wp2_with fail
  refine HCk.out.mono ?_
  rintro e w1 ⟨rfl, hb1⟩
  have HB1 : Hid (Below w.heap.size w w1) := hb1
  clear hb1
  go_wp2_with fail
  refine (HE.out _ HB1.out).mono ?_
  rintro e w2 ⟨m2, a2, cap2, rfl, H2⟩
  go_wp2_with fail
  go_ret2
  obtain ⟨g, rfl⟩ := H2.out.2.1.some (by have := t.enc_pos; simp; omega)
  have hm := H2.out.1
  rw [List.nil_append] at hm
  subst hm
  refine ⟨g, cap2, rfl, by have := H2.out.2.1; rw [List.nil_append] at this; exact this, HB1.out.trans H2.out.2.2.1⟩

set_option maxRecDepth 100000 in
set_option maxHeartbeats 1000000 in
theorem Encode_bad (t : Tm) (v : Value) (B : Nat) (w : World) (hB : B ≤ w.heap.size) (h : t.V w (Lo B) v) (he : t.all.e ≠ 0) :
    Calls Try.prog 55 #[v] w fun e w' => e = .returned (.tuple #[.slice none 0 0, .int .i64 t.all.e]) ∧ Below w.heap.size w w' := by
  have HCk : Hid (Calls Try.prog 39 #[v] w fun e w' => e = .returned (.tuple #[.int .i64 t.cAt, .int .i64 t.all.e]) ∧ Below w.heap.size w w') := Check_any t v B w hB h
  have he' := ne_bool he
  clear h he
  go_enter Try.func55, Try.ntmps55
  go_wp2_with fail
  refine HCk.out.mono ?_
  rintro e w1 ⟨rfl, hb1⟩
  go_wp2_with fail
  go_ret2
  exact ⟨rfl, hb1⟩
end Go.Proofs.Ytadcbhdhgobknaa

/- Encode, of whatever value, in one form. -/
namespace Go.Proofs.Ytadcbhdhgobknaa
open Go.RowKit

/-- the bytes that Encode answers: none of a term that can't be -/
def Tm.encE (t : Tm) : List Int := if t.all.e = 0 then t.enc else []
theorem Tm.encE_le {t : Tm} (hb : t.Bdd) : t.encE.length ≤ 1081344000 := by
  unfold Tm.encE
  split
  · rename_i h; exact Tm.enc_le h hb
  · simp
theorem outs_nil (w : World) (base : Nat) (h : base ≤ w.heap.size) : Outs w base none 0 [] := ⟨⟨rfl, .inl ⟨rfl, rfl⟩⟩, h⟩
/-- what both answer -/
def EncE (t : Tm) (w : World) (e : Ending) (w' : World) : Prop := ∃ m a cap, e = .returned (.tuple #[.slice a m cap, .int .i64 t.all.e]) ∧ Hid (m = t.encE.length ∧ Outs w' w.heap.size a cap t.encE ∧ Below w.heap.size w w')
theorem Encode_all (t : Tm) (v : Value) (B : Nat) (w : World) (hB : B ≤ w.heap.size) (h : t.V w (Lo B) v) (hb : t.Bdd) : Calls Try.prog 55 #[v] w (EncE t w) := by
  by_cases he : t.all.e = 0
  · refine (Encode_ok t v B w hB h hb he).mono ?_
    rintro e w' ⟨g, cap, rfl, h1, h2⟩
    have e1 : t.encE = t.enc := by unfold Tm.encE; rw [if_pos he]
    exact ⟨_, _, cap, by rw [he], by rw [e1], by rw [e1]; exact h1, h2⟩
  · refine (Encode_bad t v B w hB h he).mono ?_
    rintro e w' ⟨rfl, h2⟩
    have e1 : t.encE = [] := by unfold Tm.encE; rw [if_neg he]
    exact ⟨0, none, 0, rfl, by rw [e1]; rfl, by rw [e1]; exact outs_nil _ _ h2.size, h2⟩
end Go.Proofs.Ytadcbhdhgobknaa

/- bytes.Compare at what a reader took; the reader's fields where nothing is wrong. -/
namespace Go.Proofs.Ytadcbhdhgobknaa
open Go.RowKit

/-- the contract of the reader's value where it can be read, so deep -/
def VC (xs : List Int) (f : Nat) : Prop := ∀ (b : Nat) (a : Option Addr) (cap at' p : Nat) (t : Tm) (p2 a2 : Nat) (w : World) (d : Int), d = 65 - (f : Int) → Rdr w b a xs cap at' p → Sp.rdV xs f at' p = .ok (t, p2) a2 →
  Calls Try.prog 91 #[.pointer (some ⟨b, 0, none⟩), .int .i64 d] w fun e w' => e = .returned (.tuple #[]) ∧ Rdr w' b a xs cap a2 p2 ∧ But b w w'
end Go.Proofs.Ytadcbhdhgobknaa

/- The reader's value where nothing is wrong, kind by kind. -/
namespace Go.Proofs.Ytadcbhdhgobknaa
open Go.RowKit

section
variable (d : Int) (b : Nat) (a : Option Addr) (xs : List Int) (cap at' p : Nat) (w : World) (h : Rdr w b a xs cap at' p) (hp : p < 16384) (hd : d ≤ 64)
include h hp hd
end
end Go.Proofs.Ytadcbhdhgobknaa

/- The reader's value: a list; and all kinds, where nothing is wrong. -/
namespace Go.Proofs.Ytadcbhdhgobknaa
open Go.RowKit

section
variable (d : Int) (b : Nat) (a : Option Addr) (xs : List Int) (cap at' p : Nat) (w : World) (h : Rdr w b a xs cap at' p) (hp : p < 16384) (hd : d ≤ 64)
include h hp hd
end

end Go.Proofs.Ytadcbhdhgobknaa

/- wire.look's deferred closure: a reader that gave up is caught. -/
namespace Go.Proofs.Ytadcbhdhgobknaa
open Go.RowKit

end Go.Proofs.Ytadcbhdhgobknaa

/- wire.look at bytes that begin with a value. -/
namespace Go.Proofs.Ytadcbhdhgobknaa
open Go.RowKit

/-- the two variables that look's results lie in, and the reader, all new -/
def lookW (w : World) (a : Option Addr) (n cap : Nat) : World := ((w.alloc (.cells #[.int .i64 0] 3)).alloc (.cells #[.int .i64 0] 30)).alloc (.cells #[.slice a n cap, .int .i64 0, .int .i64 0] 102)
end Go.Proofs.Ytadcbhdhgobknaa

