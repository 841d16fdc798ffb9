/- Encode, the document's and the program's, in one form; tenonmake.Plain at whatever value; what a term that can be comes to. -/
import Derived.Test.YtkomcebknllaiaaK22
import Derived.Test.YtkomcebknllaiaaK39
import Derived.Test.YtkomcebknllaiaaK40
import Derived.Test.YtkomcebknllaiaaK41
import Derived.Test.YtkomcebknllaiaaK42
import Derived.Test.YtkomcebknllaiaaK37
import Derived.Test.YtkomcebknllaiaaK13
import Derived.Test.YtkomcebknllaiaaK12
namespace Go.Proofs.Ytkomcebknllaiaa
open Go.RowKit

theorem refEncode_all (t : Tm) (cs : Array Value) (B : Nat → Prop) (w : World) (h : t.In w B cs) (hB : Sub B w) : Calls Try.prog 24 #[.agg cs] w (EncE t w) := by
  by_cases he : t.all.e = 0
  · refine (refEncode_ok t cs B w h hB he).mono ?_
    rintro e w' ⟨g, cap, rfl, h1, h2⟩
    have e1 : t.encE = t.enc := by unfold Tm.encE; rw [if_pos he]
    exact ⟨_, _, cap, by rw [he], by rw [e1], by rw [e1]; exact h1, h2⟩
  · refine (refEncode_bad t cs B w h hB he).mono ?_
    rintro e w' ⟨rfl, h2⟩
    have e1 : t.encE = [] := by unfold Tm.encE; rw [if_neg he]
    exact ⟨0, none, 0, rfl, by rw [e1]; rfl, by rw [e1]; exact outs_nil _ _ h2.size, h2⟩
theorem wsame_at (xs : List Int) (a b : Option Addr) (ca cb : Nat) (w : World) (m n : Nat) (hm : m = xs.length) (hn : n = xs.length) (hl : xs.length ≤ 140737488355328) (ha : Rd w a xs) (hb : Rd w b xs) :
    Calls Try.prog 25 #[.slice a m ca, .slice b n cb] w fun e w' => e = .returned (.bool true) ∧ Below w.heap.size w w' := by subst hm; subst hn; exact wsame_any xs a b ca cb w hl ha hb
theorem full_at (xs : List Int) (a : Option Addr) (cap base : Nat) (c : Int) (w : World) (m : Nat) (hm : m = xs.length) (hl : xs.length ≤ 70368744177664) (h : Outs w base a cap xs) :
    Calls Try.prog 27 #[.slice a m cap, .int .u8 c] w fun e w' => e = .returned (.tuple #[]) ∧ ∃ a', Gr base a a' w w' := by subst hm; exact full_any xs a cap base c w hl h
/-- one row written over, another one made later stands -/
theorem Rd.gr {w w' : World} {base : Nat} {a a' b : Option Addr} {xs : List Int} (h : Rd w b xs) (hg : Gr base a a' w w') (hne : ∀ k, a.map Addr.block = some k → b.map Addr.block ≠ some k) : Rd w' b xs := fun j u hu => by
  obtain ⟨g, rfl, hlt, hc⟩ := h j u hu
  refine ⟨g, rfl, Nat.lt_of_lt_of_le hlt hg.1.size, ?_⟩
  rw [World.cell?_of_block (w := w) (a := ⟨g, j, none⟩) (hg.2.1 g hlt (fun e => hne g e rfl))]
  exact hc

mutual
theorem Tm.pl_tame : (t : Tm) → ∀ n p d deep, (t.wk n p d).e = 0 → deep ≤ n → (t.pl deep).tame = true
  | .mk k b i f tx by' rf l fs c v, n, p, d, deep, h, hd => by
    have ho : Tm.Ok (.mk k b i f tx by' rf l fs c v) := ⟨n, p, d, h⟩
    obtain ⟨p1, p2, -, -⟩ := ho.parts
    have e : (Tm.mk k b i f tx by' rf l fs c v).own p n = 0 := by
      by_cases e : (Tm.mk k b i f tx by' rf l fs c v).own p n ≠ 0
      · rw [Tm.wk, if_pos e] at h; exact absurd h e
      · exact Decidable.not_not.1 e
    have hz := Sp.ent_zero (Tm.own_ent _ _ _ e)
    have hn : n ≤ 64 := hz.2.2.2
    rw [Tm.wk, if_neg (by simp [e])] at h
    simp only [Tm.pl]
    rw [if_neg (by omega), if_pos (by omega)]
    simp only [Tm.tame]
    by_cases k8 : k = 8
    · rw [if_pos k8, if_pos k8]; rw [if_pos k8] at h
      exact TmL.pl_tame l (n + 1) _ _ (deep + 1) h (by omega)
    · rw [if_neg k8] at h; rw [if_neg k8]
      by_cases k9 : k = 9 ∨ k = 10
      · rw [if_pos k9, if_pos k9]; rw [if_pos k9] at h
        exact TmF.pl_tame fs (n + 1) _ _ (deep + 1) h (by omega)
      · rw [if_neg k9]; exact decide_eq_true (by omega)
theorem TmL.pl_tame : (l : TmL) → ∀ n p d deep, (l.wk n p d).e = 0 → deep ≤ n → (l.pl deep).tame = true
  | .nil, _, _, _, _, _, _ => rfl
  | .cons t l, n, p, d, deep, h, hd => by
    rw [TmL.wk] at h
    by_cases e : (t.wk n p d).e ≠ 0
    · rw [if_pos e] at h; exact absurd h e
    · rw [if_neg e] at h
      simp only [TmL.pl, TmL.tame, Tm.pl_tame t n p d deep (Decidable.not_not.1 e) hd, TmL.pl_tame l n _ _ deep h hd, Bool.true_and]
theorem TmF.pl_tame : (l : TmF) → ∀ n p d deep, (l.wk n p d).e = 0 → deep ≤ n → (l.pl deep).tame = true
  | .nil, _, _, _, _, _, _ => rfl
  | .cons m t l, n, p, d, deep, h, hd => by
    rw [TmF.wk] at h
    by_cases e : (t.wk n p d).e ≠ 0
    · rw [if_pos e] at h; exact absurd h e
    · rw [if_neg e] at h
      simp only [TmF.pl, TmF.tame, Tm.pl_tame t n p d deep (Decidable.not_not.1 e) hd, TmF.pl_tame l n _ _ deep h hd, Bool.true_and]
end

set_option maxRecDepth 100000 in
set_option maxHeartbeats 1000000 in
theorem gmPlain_any (t : Tm) (v : Value) (w : World) (S : Nat → Prop) (h : t.V w S v) (hS : Sub S w) (hb : t.Sm) :
    Calls Try.prog 26 #[v] w fun e w' => ∃ k b i f tx ab nb cb rf al nl cl af nf cf c vr, e = .returned (.agg (tcells k b i f tx (.slice ab nb cb) rf (.slice al nl cl) (.slice af nf cf) c vr)) ∧ Below w.heap.size w w' ∧ (t.pl 0).In w' (Fr w w') (tcells k b i f tx (.slice ab nb cb) rf (.slice al nl cl) (.slice af nf cf) c vr) := by
  have HT := (gplain_any t.sz).at (deep := 0) (Nat.le_refl _) h hS hb (by decide) (by decide)
  have HT : Hid _ := HT
  unfold tcells at HT
  clear h hb
  unfold tcells
  go_enter Try.func26, Try.ntmps26
  go_wp2_with fail
  refine (HT.out _ ((Below.refl _ _).alloc (Nat.le_refl _) _)).mono ?_
  rintro e w1 ⟨k1, b1, i1, f1, tx1, ab1, nb1, cb1, rf1, al1, nl1, cl1, af1, nf1, cf1, cc1, vr1, rfl, hb1, hv1⟩
  obtain ⟨hR, hbw, hsz⟩ := box_at1 hb1
  obtain ⟨r0, r1, r2, r3, r4, r5, r6, r7, r8, r9, r10⟩ := tbox hR
  have hf := box_writes hR
  have z0 := hf 0; have z1 := hf 1; have z2 := hf 2; have z3 := hf 3; have z4 := hf 4; have z5 := hf 5; have z6 := hf 6; have z7 := hf 7; have z8 := hf 8; have z9 := hf 9; have z10 := hf 10
  have HE : Hid (Below w.heap.size w (setN w1 w.heap.size 0 [.int .i64 k1, .bool b1, .int .i64 i1, .float .f64 f1, .string tx1, .slice ab1 nb1 cb1, .int .u64 rf1, .slice al1 nl1 cl1, .slice af1 nf1 cf1, .string cc1, .int .i64 vr1]) ∧ (t.pl 0).In (setN w1 w.heap.size 0 [.int .i64 k1, .bool b1, .int .i64 i1, .float .f64 f1, .string tx1, .slice ab1 nb1 cb1, .int .u64 rf1, .slice al1 nl1 cl1, .slice af1 nf1 cf1, .string cc1, .int .i64 vr1]) (Fr w (setN w1 w.heap.size 0 [.int .i64 k1, .bool b1, .int .i64 i1, .float .f64 f1, .string tx1, .slice ab1 nb1 cb1, .int .u64 rf1, .slice al1 nl1 cl1, .slice af1 nf1 cf1, .string cc1, .int .i64 vr1])) #[.int .i64 k1, .bool b1, .int .i64 i1, .float .f64 f1, .string tx1, .slice ab1 nb1 cb1, .int .u64 rf1, .slice al1 nl1 cl1, .slice af1 nf1 cf1, .string cc1, .int .i64 vr1]) := by
    refine ⟨setN_below (Nat.le_refl _) _ _ _ _ hbw, (t.pl 0).In_same (fun k hk => setN_other (by have := hk.1; simp at this; omega) _ _ _) (fun k hk => ⟨by have := hk.1; simp at this; omega, by rw [setN_size]; exact hk.2⟩) _ hv1⟩
  clear hb1 hv1 hR hbw hf
  go_wp2_with fail
  refine bodyPost_ret (v := .agg #[.int .i64 k1, .bool b1, .int .i64 i1, .float .f64 f1, .string tx1, .slice ab1 nb1 cb1, .int .u64 rf1, .slice al1 nl1 cl1, .slice af1 nf1 cf1, .string cc1, .int .i64 vr1]) (by simp [results, Try.results26, go_sem, r0, r1, r2, r3, r4, r5, r6, r7, r8, r9, r10]) rfl ⟨k1, b1, i1, f1, tx1, ab1, nb1, cb1, rf1, al1, nl1, cl1, af1, nf1, cf1, cc1, vr1, rfl, HE.out.1, HE.out.2⟩

end Go.Proofs.Ytkomcebknllaiaa

/- tenonref05.Sum. -/
namespace Go.Proofs.Ytkomcebknllaiaa
open Go.RowKit

set_option maxRecDepth 100000 in
set_option maxHeartbeats 1000000 in
theorem refSum_bad (t : Tm) (cs : Array Value) (B : Nat → Prop) (w : World) (h : t.In w B cs) (hB : Sub B w) (he : t.all.e ≠ 0) :
    Calls Try.prog 35 #[.agg cs] w fun e w' => e = .returned (.tuple #[.int .u64 t.sum, .int .i64 t.all.e]) ∧ Below w.heap.size w w' := by
  have HE : Hid (∀ W, Below w.heap.size w W → Calls Try.prog 24 #[.agg cs] W (EncE t W)) := fun W hW =>
    refEncode_all t cs B W (t.In_same (hB.same hW) (fun _ h => h) cs h) (hB.later hW)
  obtain ⟨b2, i2, f2, tx2, vb2, rf2, vl2, vf2, c2, vr2, rfl⟩ := Tm.In_box h
  clear h
  have hs : Hid (t.sum = 0) := by show _ = _; unfold Tm.sum; rw [if_neg he]
  have he' : (t.all.e != 0) = true := by simp [he]
  clear he
  unfold tcells at HE ⊢
  go_enter Try.func35, Try.ntmps35
  go_wp2_with fail
  refine (HE.out _ ((Below.refl _ _).alloc (Nat.le_refl _) _)).mono ?_
  rintro e w1 ⟨m, a, cap, rfl, H⟩
  have HBW : Hid (Below w.heap.size w w1) := below_to ((Below.refl _ _).alloc (Nat.le_refl _) _) H.out.2.2
  go_wp2_with fail
  go_ret2
  exact ⟨by rw [hs.out]; rfl, HBW.out⟩

set_option maxRecDepth 100000 in
set_option maxHeartbeats 1000000 in
theorem refSum_ok (t : Tm) (cs : Array Value) (B : Nat → Prop) (w : World) (h : t.In w B cs) (hB : Sub B w) (he : t.all.e = 0) :
    Calls Try.prog 35 #[.agg cs] w fun e w' => e = .returned (.tuple #[.int .u64 t.sum, .int .i64 t.all.e]) ∧ Below w.heap.size w w' := by
  have HE : Hid (∀ W, Below w.heap.size w W → Calls Try.prog 24 #[.agg cs] W (EncE t W)) := fun W hW =>
    refEncode_all t cs B W (t.In_same (hB.same hW) (fun _ h => h) cs h) (hB.later hW)
  have hs : Hid (t.sum = Sp.fnv t.encE t.encE.length) := by show _ = _; unfold Tm.sum; rw [if_pos he]
  have HL : Hid (t.encE.length ≤ 1081344000) := Tm.encE_le (t.In_bdd cs h)
  obtain ⟨b2, i2, f2, tx2, vb2, rf2, vl2, vf2, c2, vr2, rfl⟩ := Tm.In_box h
  clear h
  unfold EncE tcells at HE
  unfold tcells
  rw [he] at HE ⊢
  clear he
  go_enter Try.func35, Try.ntmps35
  go_wp2_with fail
  refine (HE.out _ ((Below.refl _ _).alloc (Nat.le_refl _) _)).mono ?_
  rintro e w1 ⟨m, a, cap, rfl, H⟩
  have HA : Hid (RdB w1 (Lo w1.heap.size) a t.encE ∧ m = t.encE.length) := ⟨outs_rdO' H.out.2.1, H.out.1⟩
  have HBW : Hid (Below w.heap.size w w1) := below_to ((Below.refl _ _).alloc (Nat.le_refl _) _) H.out.2.2
  have hm : m ≤ 1081344000 := by rw [HA.out.2]; exact HL.out
  clear H HE
  generalize t.encE = xs at *
  go_wp2_with fail
  go_loopw [6, 7] (fun h i wr => ∃ k : Nat, i = .int .i64 k ∧ h = .int .u64 (Sp.fnv xs k) ∧ k ≤ m ∧ Hid (Below w1.heap.size w1 wr)) (fun _ i _ => m - (intOf i).toNat)
  case atStart => exact ⟨0, rfl, rfl, by omega, Below.refl _ _⟩
  case round =>
    obtain ⟨k, rfl, rfl, hk, HB⟩ := hrel
    by_cases hlt : k < m
    · obtain ⟨g, o, rfl, hg, c1⟩ := HA.out.1 k (xs[k]'(by rw [← HA.out.2]; exact hlt)) (List.getElem?_eq_getElem _)
      have d1 : wr.cell? ⟨g, o + k, none⟩ = some (.int .u8 (xs[k]'(by rw [← HA.out.2]; exact hlt))) := by rw [HB.out.cell (p := ⟨g, o + k, none⟩) hg]; exact c1
      have HF : Hid (Sp.fnv xs (k + 1) = IntKind.u64.wrap (bits .xor .u64 (Sp.fnv xs k) (IntKind.u64.wrap (xs[k]'(by rw [← HA.out.2]; exact hlt))) * 1099511628211)) := fnv_at _
      generalize xs[k]'(by rw [← HA.out.2]; exact hlt) = x at d1 c1 HF
      generalize Sp.fnv xs k = h0 at HF ⊢
      clear c1
      go_wp2_with fail
      go_roundw
      case rel => exact ⟨k + 1, by go_num, by rw [HF.out], by omega, HB.out⟩
      case measure => simp [intOf]; omega
    · have h1 : m ≤ k := by omega
      have hkm : k = m := by omega
      subst hkm
      go_wp2_with fail
      go_ret2
      exact ⟨by rw [hs.out, ← HA.out.2]; rfl, below_to HBW.out HB.out⟩

theorem refSum_any (t : Tm) (cs : Array Value) (B : Nat → Prop) (w : World) (h : t.In w B cs) (hB : Sub B w) :
    Calls Try.prog 35 #[.agg cs] w fun e w' => e = .returned (.tuple #[.int .u64 t.sum, .int .i64 t.all.e]) ∧ Below w.heap.size w w' := by
  by_cases he : t.all.e = 0
  · exact refSum_ok t cs B w h hB he
  · exact refSum_bad t cs B w h hB he
theorem Sum_any (t : Tm) (v : Value) (B : Nat) (w : World) (hB : B ≤ w.heap.size) (h : t.V w (Lo B) v) (hb : t.Bdd) :
    Calls Try.prog 34 #[v] w fun e w' => e = .returned (.tuple #[.int .u64 t.sum, .int .i64 t.all.e]) ∧ Below w.heap.size w w' := by
  by_cases he : t.all.e = 0
  · exact Sum_ok t v B w hB h hb he
  · exact Sum_bad t v B w hB h hb he
end Go.Proofs.Ytkomcebknllaiaa

/- The document's own order of any two terms that can be (tenonref01.Compare), and its Order and Same. -/
namespace Go.Proofs.Ytkomcebknllaiaa
open Go.RowKit

set_option maxRecDepth 100000 in
set_option maxHeartbeats 2000000 in
theorem compare_8 (N : Nat) (HC : CmpC N) (b : Bool) (i : Int) (f : Nat) (tx : ByteArray) (vb : Value) (rf : Int) (vf : Value) (c : ByteArray) (vr : Int) (b2 : Bool) (i2 : Int) (f2 : Nat) (tx2 : ByteArray) (vb2 : Value) (rf2 : Int) (vf2 : Value) (c2 : ByteArray) (vr2 : Int)
    (A B : TmL) (hN : A.sz ≤ N) (a b' : Option Addr) (ca cb : Nat) (S : Nat → Prop) (w : World) (ha : A.In w S a 0) (hb : B.In w S b' 0) (hS : Sub S w) (oa : A.Ok) (ob : B.Ok) (la : A.len * 152 ≤ 140737488355328) (lb : B.len * 152 ≤ 140737488355328) :
    Calls Try.prog 46 #[.agg (tcells 8 b i f tx vb rf (.slice a A.len ca) vf c vr), .agg (tcells 8 b2 i2 f2 tx2 vb2 rf2 (.slice b' B.len cb) vf2 c2 vr2)] w fun e w' => e = .returned (.int .i64 (A.cmp B)) ∧ Below w.heap.size w w' := by
  unfold tcells
  have HCH : Hid (CmpC N) := HC
  have H0 : Hid (A.In w S a 0 ∧ B.In w S b' 0 ∧ A.Ok ∧ B.Ok) := ⟨ha, hb, oa, ob⟩
  clear HC ha hb oa ob
  have HB := two_below w
  have HB : Hid _ := HB
  go_enter Try.func46, Try.ntmps46
  go_wp2_with fail
  go_loopw [5] (fun x wr => ∃ (k : Nat) (l r : TmL), x = .int .i64 k ∧ l.len + k = A.len ∧ r.len + k = B.len ∧ l.sz ≤ N ∧ wr.cell? ⟨w.heap.size, 7, none⟩ = some (.slice a A.len ca) ∧ wr.cell? ⟨w.heap.size + 1, 7, none⟩ = some (.slice b' B.len cb) ∧ w.heap.size + 1 < wr.heap.size ∧ Hid (l.In w S a k ∧ r.In w S b' k ∧ l.Ok ∧ r.Ok ∧ A.cmp B = l.cmp r) ∧ Hid (Below w.heap.size w wr)) (fun x _ => A.len - (intOf x).toNat)
  case atStart => exact ⟨0, A, B, rfl, rfl, rfl, hN, by simp, by simp, by simp, ⟨H0.out.1, H0.out.2.1, H0.out.2.2.1, H0.out.2.2.2, rfl⟩, HB.out _ _⟩
  case round =>
    obtain ⟨k, l, r, rfl, hl, hr, hlN, x7, y7, hsz, HI, HW⟩ := hrel
    have HK : Hid (IntKind.u64.wrap (A.len : Int) = A.len ∧ IntKind.u64.wrap (B.len : Int) = B.len) := ⟨wrapU (by omega) (by omega), wrapU (by omega) (by omega)⟩
    cases l with
    | nil =>
      have h1 : A.len ≤ k := by simp [TmL.len] at hl; omega
      have H : Hid (A.cmp B = Sp.cmpI A.len B.len) := by
        show _ = _
        rw [HI.out.2.2.2.2]
        cases r with
        | nil => simp only [TmL.len] at hl hr; simp only [TmL.cmp]; unfold Sp.cmpI; rw [if_neg (by omega), if_neg (by omega)]
        | cons u r => simp only [TmL.len] at hl hr; simp only [TmL.cmp]; unfold Sp.cmpI; rw [if_pos (by omega)]
      have hw1 := HK.out.1
      have hw2 := HK.out.2
      clear hl hr
      go_wp2_with (go_at_call 81; refine (numbers_any _ _ _).mono ?_; rintro e w' ⟨rfl, rfl⟩)
      go_ret
      exact ⟨ret_int H.out.symm, HW.out⟩
    | cons t l =>
      cases r with
      | nil =>
        have h1 : B.len ≤ k := by simp [TmL.len] at hr; omega
        have H : Hid (A.cmp B = Sp.cmpI A.len B.len) := by
          show _ = _
          rw [HI.out.2.2.2.2]
          simp only [TmL.len] at hl hr; simp only [TmL.cmp]; unfold Sp.cmpI; rw [if_neg (by omega), if_pos (by omega)]
        have h3 : k < A.len := by simp only [TmL.len] at hl hr; omega
        have hw1 := HK.out.1
        have hw2 := HK.out.2
        clear hl hr
        go_wp2_with (go_at_call 81; refine (numbers_any _ _ _).mono ?_; rintro e w' ⟨rfl, rfl⟩)
        go_ret
        exact ⟨ret_int H.out.symm, HW.out⟩
      | cons u r =>
        obtain ⟨hv1, hv2, ho1, ho2, hc⟩ := HI.out
        simp only [TmL.In] at hv1 hv2
        obtain ⟨g1, o1, cs1, rfl, hg1, c1, ht, hl'⟩ := hv1
        obtain ⟨g2, o2, cs2, rfl, hg2, c2, hu, hr'⟩ := hv2
        have hk1 : k < A.len := by simp only [TmL.len] at hl; omega
        have hk2 : k < B.len := by simp only [TmL.len] at hr; omega
        have hi0 : (0 : Int) ≤ (k : Int) := Int.natCast_nonneg _
        have hi1 : (k : Int) < (A.len : Int) := by omega
        have hi2 : (k : Int) < (B.len : Int) := by omega
        have HL : Hid (l.len + (k + 1) = A.len ∧ r.len + (k + 1) = B.len) := by show _ ∧ _; simp only [TmL.len] at hl hr; omega
        have htN : t.sz ≤ N ∧ l.sz ≤ N := by simp [TmL.sz] at hlN; omega
        have hs : Same S w wr := hS.same HW.out
        have HO : Hid (∀ W, Below wr.heap.size wr W → Calls Try.prog 46 #[.agg cs1, .agg cs2] W fun e w' => e = .returned (.int .i64 (t.cmp u)) ∧ Below W.heap.size W w') :=
          HCH.out.at htN.1 (t.In_same hs (fun _ h => h) cs1 ht) (u.In_same hs (fun _ h => h) cs2 hu) (hS.later HW.out) ho1.head.1 ho2.head.1
        obtain ⟨k1, b1, i1, f1, tx1, vb1, rf1, vl1, vf1, cl1, vr1, rfl⟩ := Tm.In_tc ht
        obtain ⟨k2, b2', i2', f2', tx2', vb2', rf2', vl2, vf2', cl2, vr2', rfl⟩ := Tm.In_tc hu
        obtain ⟨e0, e1, e2, e3, e4, e5, e6, e7, e8, e9, e10⟩ := eleven (w := wr) (g := g1) (o := o1 + k * 11) (fun x hx => by rw [hs.cell (p := ⟨g1, o1 + k * 11 + x, none⟩) hg1]; exact c1 x hx)
        obtain ⟨d0, d1, d2, d3, d4, d5, d6, d7, d8, d9, d10⟩ := eleven (w := wr) (g := g2) (o := o2 + k * 11) (fun x hx => by rw [hs.cell (p := ⟨g2, o2 + k * 11 + x, none⟩) hg2]; exact c2 x hx)
        have HN : Hid (l.In w S (some ⟨g1, o1, none⟩) (k + 1) ∧ r.In w S (some ⟨g2, o2, none⟩) (k + 1) ∧ l.Ok ∧ r.Ok) := ⟨hl', hr', ho1.head.2, ho2.head.2⟩
        have HCC : Hid (A.cmp B = if t.cmp u ≠ 0 then t.cmp u else l.cmp r) := by show _ = _; rw [hc, TmL.cmp]
        unfold tcells at HO
        have HX : Hid (∀ W, Below wr.heap.size wr W → W.cell? ⟨w.heap.size, 7, none⟩ = some (.slice (some ⟨g1, o1, none⟩) A.len ca) ∧ W.cell? ⟨w.heap.size + 1, 7, none⟩ = some (.slice (some ⟨g2, o2, none⟩) B.len cb) ∧ w.heap.size + 1 < W.heap.size) := fun W hW =>
          ⟨by rw [hW.cell (p := ⟨w.heap.size, 7, none⟩) (by show w.heap.size < _; omega)]; exact x7, by rw [hW.cell (p := ⟨w.heap.size + 1, 7, none⟩) (by show w.heap.size + 1 < _; omega)]; exact y7, Nat.lt_of_lt_of_le hsz hW.size⟩
        clear hl hr hlN HI hl' hr' ho1 ho2 hc ht hu H0 hs c1 c2 HK
        go_wp2_with fail
        go_region_with ((go_at_call 46; refine (HO.out _ ?_).mono ?_; exact (Below.refl _ _).drew; rintro e w4 ⟨rfl, hb4⟩; have HB4 : Hid (Below wr.heap.size wr w4) := (Below.refl _ _).drew.trans hb4; clear hb4))
        all_goals
          have HBw : Hid (Below w.heap.size w w4) := HW.out.trans (HB4.out.mono HW.out.size)
          by_cases he : t.cmp u ≠ 0
          · have he' := ne_bool he
            have H : Hid (A.cmp B = t.cmp u) := by show _ = _; rw [HCC.out, if_pos he]
            clear he
            go_wp2_with fail
            go_ret
            exact ⟨ret_int H.out.symm, HBw.out⟩
          · have he0 : t.cmp u = 0 := Decidable.not_not.1 he
            have H : Hid (A.cmp B = l.cmp r) := by show _ = _; rw [HCC.out, if_neg he]
            clear he
            go_wp2_with fail
            go_roundw
            case rel => exact ⟨k + 1, l, r, by go_num, HL.out.1, HL.out.2, htN.2, (HX.out _ HB4.out).1, (HX.out _ HB4.out).2.1, (HX.out _ HB4.out).2.2, ⟨HN.out.1, HN.out.2.1, HN.out.2.2.1, HN.out.2.2.2, H.out⟩, HBw.out⟩
            case measure => simp [intOf]; omega

theorem Tm.Ok.ver {b : Bool} {i : Int} {f : Nat} {tx : ByteArray} {by' : ByteArray} {rf : Int} {l : TmL} {fs : TmF} {c : ByteArray} {v : Int} (h : Tm.Ok (.mk 10 b i f tx by' rf l fs c v)) : 1 ≤ v ∧ v ≤ 1000 := by
  obtain ⟨n, p, d, h⟩ := h
  by_cases he : Sp.ent 10 p n = 0
  · by_cases hh : Sp.headR c v = 0
    · unfold Sp.headR at hh
      split at hh
      · omega
      · split at hh
        · omega
        · omega
    · rw [Tm.wk_10' he hh] at h; exact absurd h hh
  · rw [Tm.wk_ent he] at h; exact absurd h he

set_option maxHeartbeats 2000000 in
theorem compare_any (N : Nat) : CmpC N := by
  induction N with
  | zero => intro t u ht; cases t; simp [Tm.sz] at ht
  | succ N ih =>
    intro s t hN cs ct S w hs ht hS os ot
    cases s with
    | mk k b i f tx by' rf l fs c v =>
      cases t with
      | mk k2 b2 i2 f2 tx2 by2 rf2 l2 fs2 c2 v2 =>
        have hlN : l.sz ≤ N ∧ fs.sz ≤ N := by simp [Tm.sz] at hN; omega
        obtain ⟨p1, p2, p3, p4⟩ := os.parts
        obtain ⟨q1, q2, q3, q4⟩ := ot.parts
        simp only [Tm.In] at hs ht
        obtain ⟨ab, cb, al, cl, af, cf, rfl, bd, h1, h2, h3⟩ := hs
        obtain ⟨ab2, cb2, al2, cl2, af2, cf2, rfl, bd2, g1, g2, g3⟩ := ht
        by_cases hne : Sp.cmpI k k2 ≠ 0
        · rw [Tm.cmp_ne hne]
          exact compare_diff _ _ _ _ _ _ _ _ _ _ _ _ _ _ _ _ _ _ _ _ w k k2 (fun e => hne (by rw [e]; exact cmpI_self _)) p1 p2 q1 q2
        · obtain rfl := cmpI_zero (Decidable.not_not.1 hne)
          clear hne
          have HF : ∀ (of : fs.Ok) (of2 : fs2.Ok), ∀ W, Below w.heap.size w W → Calls Try.prog 85 #[.slice af fs.len cf, .slice af2 fs2.len cf2] W fun e w' => e = .returned (.int .i64 (fs.cmp fs2)) ∧ Below W.heap.size W w' := fun of of2 W hW =>
            fields_any N ih fs fs2 hlN.2 af af2 cf cf2 S W (fs.In_same (hS.same hW) (fun _ h => h) af 0 h3) (fs2.In_same (hS.same hW) (fun _ h => h) af2 0 g3) (hS.later hW) of of2 bd.nf bd2.nf
          by_cases k1 : k = 1
          · subst k1; rw [Tm.cmp_1]; exact compare_1 _ _ _ _ _ _ _ _ _ _ _ _ _ _ _ _ _ _ _ _ w
          by_cases k2 : k = 2
          · subst k2; rw [Tm.cmp_2]; exact compare_2 _ _ _ _ _ _ _ _ _ _ _ _ _ _ _ _ _ _ _ _ w
          by_cases k3 : k = 3
          · subst k3; rw [Tm.cmp_3]; exact compare_3 _ _ _ _ _ _ _ _ _ _ _ _ _ _ _ _ _ _ _ _ w bd.i0 bd.i1 bd2.i0 bd2.i1
          by_cases k4 : k = 4
          · subst k4; rw [Tm.cmp_4]; exact compare_4 _ _ _ _ _ _ _ _ _ _ _ _ _ _ _ _ _ _ _ _ w bd.f1 bd2.f1
          by_cases k5 : k = 5
          · subst k5; rw [Tm.cmp_5]; exact compare_5 _ _ _ _ _ _ _ _ _ _ _ _ _ _ _ _ _ _ _ _ w
          by_cases k6 : k = 6
          · subst k6; rw [Tm.cmp_6]; exact compare_6 _ _ _ _ _ _ _ _ _ _ _ _ _ _ _ _ _ _ w by' by2 ab ab2 cb cb2 S h1 g1 hS
          by_cases k7 : k = 7
          · subst k7; rw [Tm.cmp_7]; exact compare_7 _ _ _ _ _ _ _ _ _ _ _ _ _ _ _ _ _ _ _ _ w bd.r0 bd.r1 bd2.r0 bd2.r1
          by_cases k8 : k = 8
          · subst k8; rw [Tm.cmp_8]; exact compare_8 N ih _ _ _ _ _ _ _ _ _ _ _ _ _ _ _ _ _ _ l l2 hlN.1 al al2 cl cl2 S w h2 g2 hS (p3 rfl) (q3 rfl) bd.nl bd2.nl
          by_cases k9 : k = 9
          · subst k9; rw [Tm.cmp_9]; exact compare_9 _ _ _ _ _ _ _ _ _ _ _ _ _ _ _ _ _ _ _ _ w _ (HF (p4 (.inl rfl)) (q4 (.inl rfl)))
          have k10 : k = 10 := by omega
          subst k10
          rw [Tm.cmp_10]; exact compare_10 _ _ _ _ _ _ _ _ _ _ _ _ _ _ _ _ _ _ _ _ w _ os.ver ot.ver (HF (p4 (.inr rfl)) (q4 (.inr rfl)))
end Go.Proofs.Ytkomcebknllaiaa

/- Two boxes in new memory, each with a term's eleven cells. -/
namespace Go.Proofs.Ytkomcebknllaiaa
open Go.RowKit

def two (w : World) (a b : Array Value) : World := (w.alloc (.cells a 29 (0, 0))).alloc (.cells b 29 (0, 0))
theorem two_size (w : World) (a b : Array Value) : (two w a b).heap.size = w.heap.size + 2 := by simp [two]
theorem two_bel (w : World) (a b : Array Value) : Below w.heap.size w (two w a b) := by
  unfold two
  refine Below.alloc (Below.alloc (Below.refl _ _) (Nat.le_refl _) _) ?_ _; simp
theorem two_a {w W : World} {a b : Array Value} (h : Below (two w a b).heap.size (two w a b) W) : W.heap[w.heap.size]? = some (.cells a 29 (0, 0)) := by
  rw [h.block w.heap.size (by rw [two_size]; omega)]; unfold two
  rw [((Below.refl (w.alloc (.cells a 29 (0, 0))).heap.size _).alloc (Nat.le_refl _) (.cells b 29 (0, 0))).block w.heap.size (by simp)]; exact heap_alloc_new w _
theorem two_b {w W : World} {a b : Array Value} (h : Below (two w a b).heap.size (two w a b) W) : W.heap[w.heap.size + 1]? = some (.cells b 29 (0, 0)) := by
  rw [h.block (w.heap.size + 1) (by rw [two_size]; omega)]; unfold two
  have := heap_alloc_new (w.alloc (.cells a 29 (0, 0))) (.cells b 29 (0, 0))
  simpa using this
theorem two_w {w W : World} {a b : Array Value} (h : Below (two w a b).heap.size (two w a b) W) : Below w.heap.size w W := below_to (two_bel w a b) h
end Go.Proofs.Ytkomcebknllaiaa
