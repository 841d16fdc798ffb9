/- Plain mathematics: two terms that can be are the same just if their keys are one. -/
import Derived.Test.YtkomcebknllaiaaK20
import Derived.Test.YtkomcebknllaiaaK22
import Derived.Test.YtkomcebknllaiaaK35
import Derived.Test.YtkomcebknllaiaaK36
import Derived.Test.YtkomcebknllaiaaK21
namespace Go.Proofs.Ytkomcebknllaiaa

theorem cmpS_zero {a b : ByteArray} : Sp.cmpS a b = 0 ↔ a = b := by
  unfold Sp.cmpS
  rw [cmp_eq_zero]
  constructor
  · intro h
    have h2 : a.data = b.data := Array.ext' h
    cases a; cases b; simp at h2; rw [h2]
  · rintro rfl; rfl
theorem cmpI_zero' {a b : Int} : Sp.cmpI a b = 0 ↔ a = b := ⟨cmpI_zero, fun h => by rw [h]; exact cmpI_self b⟩
theorem rank_inj {a b : Bool} : Sp.rank a = Sp.rank b ↔ a = b := by cases a <;> cases b <;> simp [Sp.rank]
theorem frank_inj {a b : Nat} (ha : a < 18446744073709551616) (hb : b < 18446744073709551616) : Sp.frank a = Sp.frank b ↔ a = b := by
  unfold Sp.frank; constructor
  · intro h; split at h <;> split at h <;> omega
  · rintro rfl; rfl
mutual
theorem Tm.cmp_sm : (s t : Tm) → s.Ok → s.Bdd → t.Bdd → (s.cmp t = 0 ↔ s.sm t = true)
  | .mk k b i f tx by' rf l fs c v, .mk k2 b2 i2 f2 tx2 by2 rf2 l2 fs2 c2 v2, ho, hs, ht => by
    obtain ⟨p1, p2, p3, p4⟩ := ho.parts
    rw [Tm.sm, Bool.and_eq_true, decide_eq_true_eq]
    by_cases hk : k = k2
    · subst hk
      simp only [Tm.Bdd] at hs ht
      have hk : k = 1 ∨ k = 2 ∨ k = 3 ∨ k = 4 ∨ k = 5 ∨ k = 6 ∨ k = 7 ∨ k = 8 ∨ k = 9 ∨ k = 10 := by omega
      rcases hk with rfl | rfl | rfl | rfl | rfl | rfl | rfl | rfl | rfl | rfl
      · rw [Tm.cmp_1]; simp
      · rw [Tm.cmp_2, cmpI_zero', rank_inj]; simp
      · rw [Tm.cmp_3, cmpI_zero']; simp
      · rw [Tm.cmp_4, cmpI_zero', frank_inj hs.2.1 ht.2.1]; simp
      · rw [Tm.cmp_5, cmpS_zero]; simp
      · rw [Tm.cmp_6, cmpS_zero]; simp
      · rw [Tm.cmp_7, cmpI_zero']; simp
      · rw [Tm.cmp_8, TmL.cmp_sm l l2 (p3 rfl) hs.2.2.2.2.1 ht.2.2.2.2.1]; simp
      · rw [Tm.cmp_9, TmF.cmp_sm fs fs2 (p4 (Or.inl rfl)) hs.2.2.2.2.2 ht.2.2.2.2.2]; simp
      · have hf := TmF.cmp_sm fs fs2 (p4 (Or.inr rfl)) hs.2.2.2.2.2 ht.2.2.2.2.2
        rw [Tm.cmp_10]
        by_cases e1 : Sp.cmpS c c2 = 0
        · rw [if_neg (by simp [e1])]
          have e1' := cmpS_zero.1 e1
          by_cases e2 : Sp.cmpI v v2 = 0
          · rw [if_neg (by simp [e2]), hf]
            have e2' := cmpI_zero'.1 e2
            simp [e1', e2']
          · rw [if_pos e2]
            have : v ≠ v2 := fun h => e2 (cmpI_zero'.2 h)
            simp [e2, this]
        · rw [if_pos e1]
          have : c ≠ c2 := fun h => e1 (cmpS_zero.2 h)
          simp [e1, this]
    · have e : Sp.cmpI k k2 ≠ 0 := fun h => hk (cmpI_zero'.1 h)
      rw [Tm.cmp_ne e]
      simp [e, hk]
theorem TmL.cmp_sm : (l r : TmL) → l.Ok → l.Bdd → r.Bdd → (l.cmp r = 0 ↔ l.sm r = true)
  | .nil, .nil, _, _, _ => by simp [TmL.cmp, TmL.sm]
  | .nil, .cons _ _, _, _, _ => by simp [TmL.cmp, TmL.sm]
  | .cons _ _, .nil, _, _, _ => by simp [TmL.cmp, TmL.sm]
  | .cons t l, .cons u r, ho, hs, ht => by
    simp only [TmL.Bdd] at hs ht
    have h1 := Tm.cmp_sm t u ho.head.1 hs.1 ht.1
    have h2 := TmL.cmp_sm l r ho.head.2 hs.2 ht.2
    rw [TmL.cmp, TmL.sm, Bool.and_eq_true, ← h1, ← h2]
    by_cases e : t.cmp u = 0
    · rw [if_neg (by simp [e])]; simp [e]
    · rw [if_pos e]; simp [e]
theorem TmF.cmp_sm : (l r : TmF) → l.Ok → l.Bdd → r.Bdd → (l.cmp r = 0 ↔ l.sm r = true)
  | .nil, .nil, _, _, _ => by simp [TmF.cmp, TmF.sm]
  | .nil, .cons _ _ _, _, _, _ => by simp [TmF.cmp, TmF.sm]
  | .cons _ _ _, .nil, _, _, _ => by simp [TmF.cmp, TmF.sm]
  | .cons n t l, .cons m u r, ho, hs, ht => by
    simp only [TmF.Bdd] at hs ht
    have h1 := Tm.cmp_sm t u ho.head.1 hs.1 ht.1
    have h2 := TmF.cmp_sm l r ho.head.2 hs.2 ht.2
    rw [TmF.cmp, TmF.sm, Bool.and_eq_true, Bool.and_eq_true, decide_eq_true_eq, ← h1, ← h2]
    by_cases e0 : Sp.cmpS n m = 0
    · rw [if_neg (by simp [e0])]
      have e0' := cmpS_zero.1 e0
      by_cases e : t.cmp u = 0
      · rw [if_neg (by simp [e])]; simp [e, e0']
      · rw [if_pos e]; simp [e]
    · rw [if_pos e0]
      have : n ≠ m := fun h => e0 (cmpS_zero.2 h)
      simp [e0, this]
end
/-- a value's key: its bytes as a text, none of one that can't be -/
def Tm.key (t : Tm) : ByteArray := Sp.txt t.encE
theorem Tm.encE_by (t : Tm) : By t.encE := by
  unfold Tm.encE; split
  · rename_i h; exact Tm.enc_by t (Tm.ok_all h)
  · exact By.nil
theorem key_iff (x y : Tm) : x.key = y.key ↔ x.encE = y.encE := by
  constructor
  · intro h
    have := congrArg Sp.bts h
    unfold Tm.key at this
    rwa [bts_txt x.encE_by, bts_txt y.encE_by] at this
  · intro h; unfold Tm.key; rw [h]
theorem key_same {x y : Tm} (hx : x.all.e = 0) (hy : y.all.e = 0) (bx : x.Bdd) (b_y : y.Bdd) : decide (x.key = y.key) = x.sameB y := by
  have h1 := Tm.cmp_sm x y (Tm.ok_all hx) bx b_y
  have h2 := sm_iff hx hy bx b_y
  have e1 : x.encE = x.enc := by unfold Tm.encE; rw [if_pos hx]
  have e2 : y.encE = y.enc := by unfold Tm.encE; rw [if_pos hy]
  unfold Tm.sameB
  have : (x.key = y.key) ↔ (x.all.e = 0 ∧ y.all.e = 0 ∧ x.cmp y = 0) := by
    rw [key_iff, e1, e2, h1, h2, decide_eq_true_eq]
    exact ⟨fun h => ⟨hx, hy, h⟩, fun h => h.2.2⟩
  exact decide_eq_decide.2 this
/-- the sum over the first k bytes -/
def Sp.fnv (xs : List Int) : Nat → Int
  | 0 => 14695981039346656037
  | k + 1 => IntKind.u64.wrap (bits .xor .u64 (Sp.fnv xs k) (IntKind.u64.wrap (xs.getD k 0)) * 1099511628211)
theorem fnv_at {xs : List Int} {k : Nat} (h : k < xs.length) : Sp.fnv xs (k + 1) = IntKind.u64.wrap (bits .xor .u64 (Sp.fnv xs k) (IntKind.u64.wrap xs[k]) * 1099511628211) := by
  rw [Sp.fnv, List.getD_eq_getElem?_getD, List.getElem?_eq_getElem h]; rfl
/-- a value's sum: 0 of one that can't be -/
def Tm.sum (t : Tm) : Int := if t.all.e = 0 then Sp.fnv t.encE t.encE.length else 0
end Go.Proofs.Ytkomcebknllaiaa

/- digest.Key and digest.Sum. -/
namespace Go.Proofs.Ytkomcebknllaiaa
open Go.RowKit

theorem outs_rdO' {w : World} {base : Nat} {a : Option Addr} {cap : Nat} {xs : List Int} (h : Outs w base a cap xs) : RdB w (Lo w.heap.size) a xs := by
  cases a with
  | none =>
    intro j u hu
    have hp : 0 < xs.length := by have := (List.getElem?_eq_some_iff.1 hu).1; omega
    obtain ⟨g, e⟩ := h.some hp
    simp at e
  | some p =>
    intro j u hu
    have hp : 0 < xs.length := by have := (List.getElem?_eq_some_iff.1 hu).1; omega
    obtain ⟨g, e⟩ := h.some hp
    injection e with e
    subst e
    exact (outs_rd h).1 j u hu

set_option maxRecDepth 100000 in
set_option maxHeartbeats 1000000 in
theorem Key_any (t : Tm) (v : Value) (B : Nat) (w : World) (hB : B ≤ w.heap.size) (h : t.V w (Lo B) v) (hb : t.Bdd) :
    Calls Try.prog 33 #[v] w fun e w' => e = .returned (.tuple #[.string t.key, .int .i64 t.all.e]) ∧ Below w.heap.size w w' := by
  have HE : Hid (∀ W, Below w.heap.size w W → Calls Try.prog 23 #[v] W (EncE t W)) := fun W hW =>
    Encode_all t v B W (Nat.le_trans hB hW.size) (t.V_same (fun k hk => hW.block k (Nat.lt_of_lt_of_le hk hB)) (fun _ h => h) v h) hb
  clear h hb
  go_enter Try.func33, Try.ntmps33
  go_wp2_with fail
  refine (HE.out _ (Below.refl _ _)).mono ?_
  rintro e w1 ⟨m, a, cap, rfl, H⟩
  have hcv : ∀ W, Below w1.heap.size w1 W → (convert 23 9 (.slice a m cap)).run Try.prog W = .ok (.string t.key) W := fun W hW => by
    obtain ⟨rfl, ho, _⟩ := H.out
    exact conv_rd t.encE a cap _ W ((outs_rdO' ho).same (B' := Lo w1.heap.size) (fun k hk => hW.block k hk) (fun _ h => h))
  have hcv1 := hcv w1 (Below.refl _ _)
  have hcv2 := hcv w1.drew (Below.refl _ _).drew
  have hcv : Hid _ := hcv
  go_wp2_with fail
  go_ret2
  exact ⟨rfl, H.out.2.2⟩

set_option maxRecDepth 100000 in
set_option maxHeartbeats 1000000 in
theorem Sum_bad (t : Tm) (v : Value) (B : Nat) (w : World) (hB : B ≤ w.heap.size) (h : t.V w (Lo B) v) (hb : t.Bdd) (he : t.all.e ≠ 0) :
    Calls Try.prog 34 #[v] w fun e w' => e = .returned (.tuple #[.int .u64 t.sum, .int .i64 t.all.e]) ∧ Below w.heap.size w w' := by
  have HE : Hid (∀ W, Below w.heap.size w W → Calls Try.prog 23 #[v] W (EncE t W)) := fun W hW =>
    Encode_all t v B W (Nat.le_trans hB hW.size) (t.V_same (fun k hk => hW.block k (Nat.lt_of_lt_of_le hk hB)) (fun _ h => h) v h) hb
  clear h hb
  have hs : Hid (t.sum = 0) := by show _ = _; unfold Tm.sum; rw [if_neg he]
  have he' : (t.all.e != 0) = true := by simp [he]
  clear he
  go_enter Try.func34, Try.ntmps34
  go_wp2_with fail
  refine (HE.out _ (Below.refl _ _)).mono ?_
  rintro e w1 ⟨m, a, cap, rfl, H⟩
  go_wp2_with fail
  go_ret2
  exact ⟨by rw [hs.out]; rfl, H.out.2.2⟩

set_option maxRecDepth 100000 in
set_option maxHeartbeats 1000000 in
theorem Sum_ok (t : Tm) (v : Value) (B : Nat) (w : World) (hB : B ≤ w.heap.size) (h : t.V w (Lo B) v) (hb : t.Bdd) (he : t.all.e = 0) :
    Calls Try.prog 34 #[v] w fun e w' => e = .returned (.tuple #[.int .u64 t.sum, .int .i64 t.all.e]) ∧ Below w.heap.size w w' := by
  have HE : Hid (∀ W, Below w.heap.size w W → Calls Try.prog 23 #[v] W (EncE t W)) := fun W hW =>
    Encode_all t v B W (Nat.le_trans hB hW.size) (t.V_same (fun k hk => hW.block k (Nat.lt_of_lt_of_le hk hB)) (fun _ h => h) v h) hb
  have hs : Hid (t.sum = Sp.fnv t.encE t.encE.length) := by show _ = _; unfold Tm.sum; rw [if_pos he]
  have HL : Hid (t.encE.length ≤ 1081344000) := Tm.encE_le hb
  clear h hb
  unfold EncE at HE
  rw [he] at HE ⊢
  clear he
  go_enter Try.func34, Try.ntmps34
  go_wp2_with fail
  refine (HE.out _ (Below.refl _ _)).mono ?_
  rintro e w1 ⟨m, a, cap, rfl, H⟩
  have HA : Hid (RdB w1 (Lo w1.heap.size) a t.encE ∧ m = t.encE.length) := ⟨outs_rdO' H.out.2.1, H.out.1⟩
  have HBW : Hid (Below w.heap.size w w1) := H.out.2.2
  have hm : m ≤ 1081344000 := by rw [HA.out.2]; exact HL.out
  clear H
  clear HE
  generalize t.encE = xs at *
  go_wp2_with fail
  go_loopw [6, 19] (fun h i wr => ∃ k : Nat, i = .int .i64 k ∧ h = .int .u64 (Sp.fnv xs k) ∧ k ≤ m ∧ Hid (Below w1.heap.size w1 wr)) (fun _ i _ => m - (intOf i).toNat)
  case atStart => exact ⟨0, rfl, rfl, by omega, Below.refl _ _⟩
  case round =>
    obtain ⟨k, rfl, rfl, hk, HB⟩ := hrel
    by_cases hlt : k < m
    · obtain ⟨g, o, rfl, hg, c1⟩ := HA.out.1 k (xs[k]'(by rw [← HA.out.2]; exact hlt)) (List.getElem?_eq_getElem _)
      have d1 : wr.cell? ⟨g, o + k, none⟩ = some (.int .u8 (xs[k]'(by rw [← HA.out.2]; exact hlt))) := by rw [HB.out.cell (p := ⟨g, o + k, none⟩) hg]; exact c1
      have HF : Hid (Sp.fnv xs (k + 1) = IntKind.u64.wrap (bits .xor .u64 (Sp.fnv xs k) (IntKind.u64.wrap (xs[k]'(by rw [← HA.out.2]; exact hlt))) * 1099511628211)) := fnv_at _
      generalize xs[k]'(by rw [← HA.out.2]; exact hlt) = x at d1 c1 HF
      generalize Sp.fnv xs k = h0 at HF ⊢
      clear c1
      go_wp2_with fail
      go_roundw
      case rel => exact ⟨k + 1, by go_num, by rw [HF.out], by omega, HB.out⟩
      case measure => simp [intOf]; omega
    · have h1 : m ≤ k := by omega
      have hkm : k = m := by omega
      subst hkm
      go_wp2_with fail
      go_ret2
      exact ⟨by rw [hs.out, ← HA.out.2]; rfl, below_to HBW.out HB.out⟩
end Go.Proofs.Ytkomcebknllaiaa

/- tenonref03.Number and tenonref03.text: new bytes. -/
namespace Go.Proofs.Ytkomcebknllaiaa
open Go.RowKit

set_option maxRecDepth 100000 in
set_option maxHeartbeats 1000000 in
theorem number_any (n : Nat) (w : World) (hn : n < 18446744073709551616) :
    Calls Try.prog 93 #[.int .u64 n] w (NewB w (Sp.numB n)) := by
  obtain ⟨i0, hi, hz0, hz1, hz2⟩ := info_parts Try.infoB
  have hlen := Sp.numB_64 hn
  have H0 : Hid (Outs (w.alloc (.cells #[] 5)) w.heap.size (some ⟨w.heap.size, 0, none⟩) 0 [] ∧ Below w.heap.size w (w.alloc (.cells #[] 5))) := ⟨outs_none w, (Below.refl _ _).alloc (Nat.le_refl _) _⟩
  go_enter Try.func93, Try.ntmps93
  go_wp2_with fail
  go_loopw [0, 3] (fun x u wr => ∃ (m g : Nat) (ys : List Int) (cap' : Nat), u = .slice (some ⟨g, 0, none⟩) ys.length cap' ∧ x = .int .u64 m ∧ m < 18446744073709551616 ∧ Hid (Sp.numB n = ys ++ Sp.numB m) ∧ Hid (Outs wr w.heap.size (some ⟨g, 0, none⟩) cap' ys ∧ Below w.heap.size w wr)) (fun x _ _ => (intOf x).toNat)
  case atStart => exact ⟨n, w.heap.size, [], 0, rfl, rfl, hn, rfl, H0.out⟩
  case round =>
    obtain ⟨m, g, ys, cap', rfl, rfl, hm, HE, HO⟩ := hrel
    have hl : ys.length + (Sp.numB m).length ≤ 10 := by rw [HE.out, List.length_append] at hlen; omega
    have hp := Sp.numB_pos m
    have HOW : Hid (wr.ownsRow w.heap.size 5 1 (.slice (some ⟨g, 0, none⟩) ys.length cap') ys.length (u8s ys)) := HO.out.1.1
    by_cases hm' : m < 128
    · have hi1 : ¬ ((128 : Int) ≤ (m : Int)) := by omega
      go_wp2_with (at_builtin; refine wpList_app _ rfl _ _ 23 rfl w.heap.size 5 i0 (.int .u8 0) 1 1 Try.undB hi hz0 hz1 hz2 rfl (by decide) _ _ _ rfl (HOW.out.alloc _) ⟨wr.heap.size, 0, none⟩ 1 1 [.int .u8 (m : Int)] rfl rfl (cell_one_new _ _ _) (fun u hu => by simp at hu; subst hu; rfl) (by decide) (by unfold maxLen; omega) (by omega) (by have := HO.out.1.2; simp; omega) ?_; intro g' cap2 w3 hown' hgrow hor)
      go_wp2_with fail
      go_ret
      obtain ⟨h1, h2⟩ := HO.out.1.step (ys := [(m : Int)]) hown' rfl (by simp) hgrow hor
      have e1 := Sp.numB_lt hm'
      refine ⟨g', cap2, by rw [HE.out, e1, List.length_append]; rfl, by rw [HE.out, e1]; exact h1, HO.out.2.trans h2.1⟩
    · have hi1 : (128 : Int) ≤ (m : Int) := by omega
      go_wp2_with (at_builtin; refine wpList_app _ rfl _ _ 23 rfl w.heap.size 5 i0 (.int .u8 0) 1 1 Try.undB hi hz0 hz1 hz2 rfl (by decide) _ _ _ rfl (HOW.out.alloc _) ⟨wr.heap.size, 0, none⟩ 1 1 [.int .u8 ((m % 128 + 128 : Nat) : Int)] rfl rfl (cell_one_new _ _ _) (fun u hu => by simp at hu; subst hu; rfl) (by decide) (by unfold maxLen; omega) (by omega) (by have := HO.out.1.2; simp; omega) ?_; intro g' cap2 w3 hown' hgrow hor')
      obtain ⟨h1, h2⟩ := HO.out.1.step (ys := [((m % 128 + 128 : Nat) : Int)]) hown' rfl (by simp) hgrow hor'
      refine ⟨⟨m / 128, g', ys ++ [((m % 128 + 128 : Nat) : Int)], cap2, by simp, by simp, by omega, ?_, h1, HO.out.2.trans h2.1⟩, by simp [intOf]; omega⟩
      show _ = _
      rw [HE.out, Sp.numB_ge hm', List.append_assoc]; rfl

set_option maxRecDepth 100000 in
set_option maxHeartbeats 1000000 in
theorem rtext_any (s : ByteArray) (w : World) (hs : s.size ≤ 70368744177664) :
    Calls Try.prog 94 #[.string s] w (NewB w (Sp.txtB s)) := by
  obtain ⟨i0, hi, hz0, hz1, hz2⟩ := info_parts Try.infoB
  have hl : (Sp.txtB s).length = (Sp.numB s.size).length + s.size := by simp [Sp.txtB, Sp.bts_len]
  have HN : Hid (∀ W, Calls Try.prog 93 #[.int .u64 (s.size : Int)] W (NewB W (Sp.numB s.size))) := fun W => number_any s.size W (by omega)
  have hp := Sp.numB_pos s.size
  have hp' := Sp.numB_64 (n := s.size) (by omega)
  go_enter Try.func94, Try.ntmps94
  go_wp2_with fail
  refine (HN.out _).mono ?_
  rintro e w1 ⟨g1, cap1, rfl, ho1, hb1⟩
  have HO : Hid (Outs w1 w.heap.size (some ⟨g1, 0, none⟩) cap1 (Sp.numB s.size) ∧ Below w.heap.size w w1) := ⟨ho1, hb1⟩
  clear ho1 hb1 HN
  go_wp2_with (at_builtin; refine wpList_app_src _ rfl _ _ 23 9 rfl w.heap.size 5 i0 (.int .u8 0) 1 1 Try.undB hi hz0 hz1 hz2 rfl _ _ _ _ rfl HO.out.1.1 _ _ _ rfl (Src.ofString _ Try.underlying9 s) (by unfold maxLen; omega) (by omega) HO.out.1.2 ?_; intro g' cap2 w3 hown' hgrow _)
  go_wp2_with fail
  go_ret
  rw [byteCells_bts] at hown'
  obtain ⟨h1, h2⟩ := outs_join HO.out.1 (ys := Sp.bts s) (Below.refl _ _) hown' (by simp [Sp.bts_len]) hgrow
  exact ⟨g', cap2, by rw [hl]; rfl, h1, HO.out.2.trans h2⟩
end Go.Proofs.Ytkomcebknllaiaa
