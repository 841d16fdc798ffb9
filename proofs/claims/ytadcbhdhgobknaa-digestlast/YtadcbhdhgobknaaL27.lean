/- Plain mathematics: what was written is read back. -/
import Derived.Test.YtadcbhdhgobknaaL24
import Derived.Test.YtadcbhdhgobknaaL26
import Derived.Test.YtadcbhdhgobknaaL14
namespace Go.Proofs.Ytadcbhdhgobknaa
open Go.RowKit

/-- l stands in xs from place a on -/
def Has (xs : List Int) (a : Nat) (l : List Int) : Prop := ∃ pre rest, xs = pre ++ (l ++ rest) ∧ pre.length = a
theorem Has.app {xs : List Int} {a : Nat} {l m : List Int} (h : Has xs a (l ++ m)) : Has xs a l ∧ Has xs (a + l.length) m := by
  obtain ⟨pre, rest, rfl, rfl⟩ := h
  exact ⟨⟨pre, m ++ rest, by simp, rfl⟩, ⟨pre ++ l, rest, by simp, by simp⟩⟩
theorem Has.get {xs : List Int} {a j : Nat} {l : List Int} {u : Int} (h : Has xs a l) (hu : l[j]? = some u) : xs[a + j]? = some u := by
  obtain ⟨pre, rest, rfl, rfl⟩ := h
  have hj := (List.getElem?_eq_some_iff.1 hu).1
  rw [List.getElem?_append_right (by omega), Nat.add_sub_cancel_left, List.getElem?_append_left hj, hu]
theorem Has.le {xs : List Int} {a : Nat} {l : List Int} (h : Has xs a l) : a + l.length ≤ xs.length := by
  obtain ⟨pre, rest, rfl, rfl⟩ := h
  simp
theorem Has.take {xs : List Int} {a : Nat} {l : List Int} (h : Has xs a l) : (xs.drop a).take l.length = l := by
  obtain ⟨pre, rest, rfl, rfl⟩ := h
  simp

theorem mod_split (m i : Nat) : (m % 128) * 128 ^ i + m / 128 * 128 ^ (i + 1) = m * 128 ^ i := by
  rw [Nat.pow_succ, Nat.mul_comm (128 ^ i) 128, ← Nat.mul_assoc, ← Nat.add_mul, Nat.mul_comm (m / 128) 128, Nat.add_comm, Nat.div_add_mod]
theorem rn_numB {xs : List Int} {s : Nat} : ∀ (k i m acc : Nat), i + k = 10 → m * 128 ^ i < 18446744073709551616 → (0 < i → 0 < m) → Has xs (s + i) (Sp.numB m) → Sp.rn xs s k i acc = .ok (acc + m * 128 ^ i) (s + i + (Sp.numB m).length)
  | 0, i, m, acc, hk, hm, hp, hx => by
    have h10 : i = 10 := by omega
    subst h10
    have := hp (by omega)
    have h2 : 1 * 128 ^ 10 ≤ m * 128 ^ 10 := Nat.mul_le_mul_right _ this
    omega
  | k + 1, i, m, acc, hk, hm, hp, hx => by
    rw [Sp.rn]
    by_cases h1 : m < 128
    · rw [Sp.numB_lt h1] at hx ⊢
      have h0 := hx.get (j := 0) (u := (m : Int)) rfl
      rw [Nat.add_zero] at h0
      rw [h0]
      simp only
      have hbad : ¬ ((i = 9 ∧ (1 : Int) < (m : Int)) ∨ (0 < i ∧ (m : Int) = 0)) := by
        rintro (⟨h9, hlt⟩ | ⟨hi, hz⟩)
        · subst h9
          have h2 : 2 * 128 ^ 9 ≤ m * 128 ^ 9 := Nat.mul_le_mul_right _ (by omega)
          omega
        · have := hp hi; omega
      rw [if_neg hbad, if_pos (by omega), Int.toNat_natCast]
      rfl
    · rw [Sp.numB_ge h1] at hx ⊢
      have h0 := hx.get (j := 0) (u := ((m % 128 + 128 : Nat) : Int)) rfl
      rw [Nat.add_zero] at h0
      rw [h0]
      simp only
      have hi9 : i < 9 := by
        have : i = 9 ∨ i < 9 := by omega
        rcases this with rfl | h
        · have h2 : 2 * 128 ^ 9 ≤ m * 128 ^ 9 := Nat.mul_le_mul_right _ (by omega)
          omega
        · exact h
      rw [if_neg (by omega), if_neg (by omega)]
      have hq : m / 128 * 128 ^ (i + 1) ≤ m * 128 ^ i := by have := mod_split m i; omega
      have ht : Has xs (s + (i + 1)) (Sp.numB (m / 128)) := (Has.app (l := [((m % 128 + 128 : Nat) : Int)]) hx).2
      rw [rn_numB k (i + 1) (m / 128) _ (by omega) (by omega) (fun _ => by omega) ht]
      have e1 : (((m % 128 + 128 : Nat) : Int)).toNat - 128 = m % 128 := by omega
      rw [e1, Nat.add_assoc acc, mod_split]
      rw [List.length_cons, show s + (i + 1) + (Sp.numB (m / 128)).length = s + i + ((Sp.numB (m / 128)).length + 1) by omega]
theorem rn_of {xs : List Int} {s m : Nat} (hm : m < 18446744073709551616) (hx : Has xs s (Sp.numB m)) : Sp.rn xs s 10 0 0 = .ok m (s + (Sp.numB m).length) := by
  have := rn_numB (xs := xs) (s := s) 10 0 m 0 rfl (by simpa using hm) (by omega) (by simpa using hx)
  simpa using this
theorem cnt_of {xs : List Int} {s m start most : Nat} (hm : m ≤ most) (hl : most < 18446744073709551616) (hx : Has xs s (Sp.numB m)) : Sp.cnt xs s start most = .ok m (s + (Sp.numB m).length) := by
  unfold Sp.cnt
  rw [rn_of (by omega) hx]
  simp only
  rw [if_neg (by omega)]
theorem tk_of {xs : List Int} {s : Nat} {l : List Int} {n : Nat} (hn : n = l.length) (hx : Has xs s l) : Sp.tk xs s n = .ok l (s + n) := by
  subst hn
  unfold Sp.tk
  rw [if_pos hx.le, hx.take]
theorem txt_bts (s : ByteArray) : Sp.txt (Sp.bts s) = s := by
  cases s with
  | mk d =>
    simp only [Sp.txt, strOfNums]
    congr 1
    apply Array.ext
    · simp [Sp.bts, ByteArray.size]
    · intro i h1 h2
      simp [Sp.bts, Sp.byte, Array.getD, h2]
theorem unfold_fold (i : Int) : Sp.unfold' (Sp.fold i) = i := by
  unfold Sp.unfold' Sp.fold
  by_cases h : i < 0
  · rw [if_pos h, if_pos (by omega)]; omega
  · rw [if_neg h, if_neg (by omega)]; omega
theorem bits_fold (f : Nat) (hf : f < 18446744073709551616) : ∀ k, k ≤ 8 → (Sp.bitsTo f k).foldl (fun n x => n * 256 + x.toNat) 0 = f / 2 ^ (64 - 8 * k)
  | 0, _ => by simp [Sp.bitsTo]; omega
  | k + 1, hk => by
    rw [Sp.bitsTo, List.foldl_append, bits_fold f hf k (by omega)]
    simp only [List.foldl_cons, List.foldl_nil, Int.toNat_natCast]
    rw [show 64 - 8 * k = (56 - 8 * k) + 8 by omega, show 64 - 8 * (k + 1) = 56 - 8 * k by omega, Nat.pow_add, ← Nat.div_div_eq_div_mul]
    have := Nat.div_add_mod (f / 2 ^ (56 - 8 * k)) 256
    omega
theorem le_of_leS {a b : ByteArray} (h : Sp.leS a b = false) : ¬ Sp.cmpS a b ≤ 0 := by
  unfold Sp.leS at h
  rw [less_of, same_of] at h
  simp only [Bool.or_eq_false_iff, decide_eq_false_iff_not] at h
  have := cmp_vals a.data.toList b.data.toList
  unfold Sp.cmpS at h ⊢
  omega
theorem nm_32 {s : ByteArray} (h : Sp.isNm s = true) : s.size ≤ 32 := by simp [Sp.isNm] at h; omega
theorem rdN_of {xs : List Int} {s start : Nat} {c : ByteArray} (hc : Sp.isNm c = true) (hx : Has xs s (Sp.txtB c)) : Sp.rdN xs s start = .ok (Sp.bts c) (s + (Sp.txtB c).length) := by
  have hl := nm_32 hc
  have h := Has.app (l := Sp.numB c.size) (m := Sp.bts c) hx
  unfold Sp.rdN
  rw [rn_of (by omega) h.1]
  simp only
  rw [if_neg (by omega), tk_of (by rw [Sp.bts_len]) h.2]
  simp only
  rw [txt_bts, if_pos hc]
  simp [Sp.txtB, Sp.bts_len, Nat.add_assoc]

theorem fieldsR_named {l : TmF} (hfr : Sp.fieldsR l.names = 0) : Sp.named (Sp.txt []) l.names = true := by
  unfold Sp.fieldsR at hfr
  split at hfr
  · omega
  · split at hfr
    · rename_i hh; exact hh
    · omega
theorem rdD_of {xs : List Int} {l L : TmF} {start at' pn q : Nat} {step : Nat → Nat → Rs (Tm × Nat)} (hfr : Sp.fieldsR l.names = 0) (hx : Has xs at' l.encR) (hr : Sp.rdF xs start step l.len [] (at' + (Sp.numB l.len).length) pn = .ok (L, q) (at' + (Sp.numB l.len).length + l.enc.length)) : Sp.rdD xs start step at' pn = .ok (L, q) (at' + l.encR.length) := by
  have h3 := Has.app (l := Sp.numB l.len) (m := l.enc) hx
  unfold Sp.rdD
  rw [cnt_of (start := start) (TmF.nm hfr).1 (by decide) h3.1]
  simp only
  rw [hr]
  simp [TmF.encR]; omega

mutual
theorem Tm.rd {xs : List Int} : (t : Tm) → ∀ (f at' pn : Nat) (d : Int), (t.wk (65 - (f : Int)) (pn : Int) d).e = 0 → t.Bdd → Has xs at' t.enc → ∃ q : Nat, (t.wk (65 - (f : Int)) (pn : Int) d).p = (q : Int) ∧ Sp.rdV xs f at' pn = .ok (t.clean, q) (at' + t.enc.length)
  | .mk k b i f' tx by' rf l fs c vr, f, at', pn, d, h, hb, hx => by
    have ho : Tm.Ok (.mk k b i f' tx by' rf l fs c vr) := ⟨_, _, _, h⟩
    obtain ⟨q1, q2, q3, q4, q5⟩ := ho.bounds
    simp only [Tm.Bdd] at hb
    obtain ⟨bi, bf, br, bv, bl, bfs⟩ := hb
    have e : (Tm.mk k b i f' tx by' rf l fs c vr).own (pn : Int) (65 - (f : Int)) = 0 := by
      by_cases e : (Tm.mk k b i f' tx by' rf l fs c vr).own (pn : Int) (65 - (f : Int)) ≠ 0
      · rw [Tm.wk, if_pos e] at h; exact absurd h e
      · exact Decidable.not_not.1 e
    have hen : Sp.ent k (pn : Int) (65 - (f : Int)) = 0 := Tm.own_ent _ _ _ e
    have he := Sp.ent_zero hen
    obtain ⟨g, rfl⟩ : ∃ g, f = g + 1 := ⟨f - 1, by omega⟩
    have hn : (65 - ((g + 1 : Nat) : Int)) + 1 = 65 - (g : Int) := by omega
    have hpp : (pn : Int) + 1 = ((pn + 1 : Nat) : Int) := by omega
    have h0 : xs[at']? = some k := by
      have := hx.get (j := 0) (u := k) (by simp [Tm.enc])
      simpa using this
    rw [Sp.rdV, h0]
    simp only
    rw [if_neg (by omega)]
    have hk : k = 1 ∨ k = 2 ∨ k = 3 ∨ k = 4 ∨ k = 5 ∨ k = 6 ∨ k = 7 ∨ k = 8 ∨ k = 9 ∨ k = 10 := by omega
    rcases hk with rfl | rfl | rfl | rfl | rfl | rfl | rfl | rfl | rfl | rfl
    · refine ⟨pn + 1, by rw [Tm.wk_else hen (by decide) (by decide) (by decide) (by decide) (by decide)]; exact hpp, ?_⟩
      rw [Tm.enc_1]; simp [Sp.rdB, Tm.clean, lfT]
    · refine ⟨pn + 1, by rw [Tm.wk_else hen (by decide) (by decide) (by decide) (by decide) (by decide)]; exact hpp, ?_⟩
      rw [Tm.enc_2] at hx
      have h1 := hx.get (j := 1) (u := if b then 1 else 0) rfl
      rw [Tm.enc_2]
      cases b <;> simp [Sp.rdB, h1, Tm.clean, lfT] at h1 ⊢ <;> simp [h1]
    · refine ⟨pn + 1, by rw [Tm.wk_else hen (by decide) (by decide) (by decide) (by decide) (by decide)]; exact hpp, ?_⟩
      rw [Tm.enc_3] at hx ⊢
      have h1 := rn_of (Sp.fold_lt bi.1 bi.2) (Has.app (l := [(3 : Int)]) hx).2
      simp only [List.length_cons, List.length_nil, Nat.zero_add] at h1
      simp [Sp.rdB, h1, Tm.clean, lfT, unfold_fold, Nat.add_assoc, Nat.add_comm 1]
    · refine ⟨pn + 1, by rw [Tm.wk_else hen (by decide) (by decide) (by decide) (by decide) (by decide)]; exact hpp, ?_⟩
      rw [Tm.enc_4] at hx ⊢
      have h1 := tk_of (n := 8) (Sp.bitsTo_len f' 8).symm (Has.app (l := [(4 : Int)]) hx).2
      simp only [List.length_cons, List.length_nil, Nat.zero_add] at h1
      have h2 := bits_fold f' bf 8 (by omega)
      simp only [Nat.reduceMul, Nat.reduceSub, Nat.pow_zero, Nat.div_one] at h2
      simp [Sp.rdB, h1, h2, Tm.clean, lfT, Sp.bitsTo_len]
    · refine ⟨pn + 1, by rw [Tm.wk_5 hen]; exact hpp, ?_⟩
      rw [Tm.enc_5] at hx ⊢
      have h3 := Has.app (l := Sp.numB tx.size) (m := Sp.bts tx) (Has.app (l := [(5 : Int)]) hx).2
      have h1 := cnt_of (start := at') (q1 rfl) (by decide) h3.1
      have h2 := tk_of (Sp.bts_len tx).symm h3.2
      simp only [List.length_cons, List.length_nil, Nat.zero_add] at h1 h2
      simp [Sp.rdB, h1, h2, Tm.clean, lfT, txt_bts, Sp.txtB, Sp.bts_len]; omega
    · refine ⟨pn + 1, by rw [Tm.wk_6 hen]; exact hpp, ?_⟩
      rw [Tm.enc_6] at hx ⊢
      have h3 := Has.app (l := Sp.numB by'.size) (m := Sp.bts by') (Has.app (l := [(6 : Int)]) hx).2
      have h1 := cnt_of (start := at') (q2 rfl) (by decide) h3.1
      have h2 := tk_of (Sp.bts_len by').symm h3.2
      simp only [List.length_cons, List.length_nil, Nat.zero_add] at h1 h2
      simp [Sp.rdB, h1, h2, Tm.clean, lfT, txt_bts, Sp.txtB, Sp.bts_len]; omega
    · refine ⟨pn + 1, by rw [Tm.wk_else hen (by decide) (by decide) (by decide) (by decide) (by decide)]; exact hpp, ?_⟩
      rw [Tm.enc_7] at hx ⊢
      have h1 := rn_of (m := rf.toNat) (by omega) (Has.app (l := [(7 : Int)]) hx).2
      simp only [List.length_cons, List.length_nil, Nat.zero_add] at h1
      have h2 : ((rf.toNat : Nat) : Int) = rf := by omega
      simp [Sp.rdB, h1, Tm.clean, lfT, Nat.add_assoc, Nat.add_comm 1]
      omega
    · have hw : (Tm.mk 8 b i f' tx by' rf l fs c vr).wk (65 - ((g + 1 : Nat) : Int)) (pn : Int) d = l.wk (65 - (g : Int)) ((pn + 1 : Nat) : Int) (max d (65 - ((g + 1 : Nat) : Int))) := by
        rw [Tm.wk_8 hen, TmL.wkR, if_neg (by have := q3 rfl; omega), hn, hpp]
      rw [hw] at h ⊢
      rw [Tm.enc_8] at hx ⊢
      have h3 := Has.app (l := Sp.numB l.len) (m := l.enc) (Has.app (l := [(8 : Int)]) hx).2
      have h1 := cnt_of (start := at') (q3 rfl) (by decide) h3.1
      obtain ⟨q, hq, hr⟩ := TmL.rd (xs := xs) l g _ (pn + 1) _ h bl h3.2
      simp only [List.length_cons, List.length_nil, Nat.zero_add] at h1 hr
      refine ⟨q, hq, ?_⟩
      simp [Sp.rdB, h1, hr, Tm.clean, TmL.encR]; omega
    · have hfr := q4 (Or.inl rfl)
      have hw : (Tm.mk 9 b i f' tx by' rf l fs c vr).wk (65 - ((g + 1 : Nat) : Int)) (pn : Int) d = fs.wk (65 - (g : Int)) ((pn + 1 : Nat) : Int) (max d (65 - ((g + 1 : Nat) : Int))) := by
        rw [Tm.wk_9 hen, TmF.wkR, if_neg (by simp [hfr]), hn, hpp]
      rw [hw] at h ⊢
      rw [Tm.enc_9] at hx ⊢
      have h3 := (Has.app (l := [(9 : Int)]) hx).2
      obtain ⟨q, hq, hr0⟩ := TmF.rd (xs := xs) fs at' g _ (pn + 1) _ [] (fieldsR_named hfr) h bfs (Has.app (l := Sp.numB fs.len) (m := fs.enc) h3).2
      have hr := rdD_of hfr h3 hr0
      simp only [List.length_cons, List.length_nil, Nat.zero_add] at hr
      refine ⟨q, hq, ?_⟩
      simp [Sp.rdB, hr, Tm.clean]; omega
    · have hfr := q4 (Or.inr rfl)
      have hhd := q5 rfl
      have hv := head_ver hhd
      have hcn : Sp.isNm c = true := by
        unfold Sp.headR at hhd
        split at hhd
        · omega
        · rename_i hc; simpa using hc
      have hw : (Tm.mk 10 b i f' tx by' rf l fs c vr).wk (65 - ((g + 1 : Nat) : Int)) (pn : Int) d = fs.wk (65 - (g : Int)) ((pn + 1 : Nat) : Int) (max d (65 - ((g + 1 : Nat) : Int))) := by
        rw [Tm.wk_10 hen hhd, TmF.wkR, if_neg (by simp [hfr]), hn, hpp]
      rw [hw] at h ⊢
      rw [Tm.enc_10] at hx ⊢
      have h3 := Has.app (Has.app (l := [(10 : Int)]) hx).2
      have h4 := Has.app h3.2
      have h1 := rdN_of (start := at') hcn h3.1
      have h2 := rn_of (m := vr.toNat) (by omega) h4.1
      obtain ⟨q, hq, hr0⟩ := TmF.rd (xs := xs) fs at' g _ (pn + 1) _ [] (fieldsR_named hfr) h bfs (Has.app (l := Sp.numB fs.len) (m := fs.enc) h4.2).2
      have hr := rdD_of hfr h4.2 hr0
      simp only [List.length_cons, List.length_nil, Nat.zero_add] at h1 h2 hr
      refine ⟨q, hq, ?_⟩
      have hv2 : ((vr.toNat : Nat) : Int) = vr := by omega
      have hv3 : ¬ (vr.toNat < 1 ∨ 1000 < vr.toNat) := by omega
      simp only [Sp.rdB, h1, h2, if_neg hv3, hr]
      simp [Tm.clean, txt_bts, hv2]; omega
theorem TmL.rd {xs : List Int} : (l : TmL) → ∀ (f at' pn : Nat) (d : Int), (l.wk (65 - (f : Int)) (pn : Int) d).e = 0 → l.Bdd → Has xs at' l.enc → ∃ q : Nat, (l.wk (65 - (f : Int)) (pn : Int) d).p = (q : Int) ∧ Sp.rdL (Sp.rdV xs f) l.len at' pn = .ok (l.clean, q) (at' + l.enc.length)
  | .nil, f, at', pn, d, h, hb, hx => ⟨pn, by rw [TmL.wk], by simp [TmL.len, Sp.rdL, TmL.clean, TmL.enc]⟩
  | .cons t l, f, at', pn, d, h, hb, hx => by
    rw [TmL.wk] at h
    by_cases e : (t.wk (65 - (f : Int)) (pn : Int) d).e ≠ 0
    · rw [if_pos e] at h; exact absurd h e
    · rw [if_neg e] at h
      rw [TmL.enc] at hx
      have hxx := Has.app hx
      obtain ⟨q, hq, hr⟩ := Tm.rd (xs := xs) t f at' pn d (Decidable.not_not.1 e) hb.1 hxx.1
      rw [hq] at h
      obtain ⟨q2, hq2, hr2⟩ := TmL.rd (xs := xs) l f _ q _ h hb.2 hxx.2
      refine ⟨q2, by rw [TmL.wk, if_neg e, hq]; exact hq2, ?_⟩
      rw [TmL.len, Sp.rdL, hr]
      simp only
      rw [hr2]
      simp [TmL.clean, TmL.enc]; omega
theorem TmF.rd {xs : List Int} : (l : TmF) → ∀ (start f at' pn : Nat) (d : Int) (ahead : List Int), Sp.named (Sp.txt ahead) l.names = true → (l.wk (65 - (f : Int)) (pn : Int) d).e = 0 → l.Bdd → Has xs at' l.enc → ∃ q : Nat, (l.wk (65 - (f : Int)) (pn : Int) d).p = (q : Int) ∧ Sp.rdF xs start (Sp.rdV xs f) l.len ahead at' pn = .ok (l.clean, q) (at' + l.enc.length)
  | .nil, start, f, at', pn, d, ahead, hnm, h, hb, hx => ⟨pn, by rw [TmF.wk], by simp [TmF.len, Sp.rdF, TmF.clean, TmF.enc]⟩
  | .cons n t l, start, f, at', pn, d, ahead, hnm, h, hb, hx => by
    rw [TmF.wk] at h
    by_cases e : (t.wk (65 - (f : Int)) (pn : Int) d).e ≠ 0
    · rw [if_pos e] at h; exact absurd h e
    · rw [if_neg e] at h
      rw [TmF.enc] at hx
      have hx1 := Has.app hx
      have hx2 := Has.app hx1.2
      simp only [TmF.names, Sp.named, Bool.and_eq_true, Bool.not_eq_true'] at hnm
      obtain ⟨⟨hn1, hn2⟩, hn3⟩ := hnm
      obtain ⟨q, hq, hr⟩ := Tm.rd (xs := xs) t f _ pn d (Decidable.not_not.1 e) hb.1 hx2.1
      rw [hq] at h
      obtain ⟨q2, hq2, hr2⟩ := TmF.rd (xs := xs) l start f _ q _ (Sp.bts n) (by rw [txt_bts]; exact hn3) h hb.2 hx2.2
      refine ⟨q2, by rw [TmF.wk, if_neg e, hq]; exact hq2, ?_⟩
      rw [TmF.len, Sp.rdF, rdN_of (start := start) hn1 hx1.1]
      simp only
      rw [if_neg (by rw [txt_bts]; exact le_of_leS hn2), hr]
      simp only
      rw [hr2]
      simp [TmF.clean, TmF.enc, txt_bts]; omega
end
/-- what was written is read back, whatever stands behind it -/
theorem rd_enc (t : Tm) (rest : List Int) (h : t.all.e = 0) (hb : t.Bdd) : ∃ q : Nat, Sp.rdV (t.enc ++ rest) 64 0 0 = .ok (t.clean, q) t.enc.length := by
  obtain ⟨q, _, hr⟩ := Tm.rd (xs := t.enc ++ rest) t 64 0 0 0 h hb ⟨[], rest, rfl, rfl⟩
  exact ⟨q, by simpa using hr⟩
end Go.Proofs.Ytadcbhdhgobknaa

