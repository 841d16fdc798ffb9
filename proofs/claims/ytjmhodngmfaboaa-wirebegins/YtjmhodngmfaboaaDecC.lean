/- Plain mathematics: of a beginning of what was written it is told that it is too short. -/
import Derived.Test.YtjmhodngmfaboaaDecM
namespace Go.Proofs.Ytjmhodngmfaboaa
open Go.RowKit

/-- xs ends within l, which begins at place a -/
def Cut (xs : List Int) (a : Nat) (l : List Int) : Prop := ∃ pre m r, xs = pre ++ m ∧ pre.length = a ∧ l = m ++ r ∧ r ≠ []
theorem Cut.len {xs : List Int} {a : Nat} {l : List Int} (h : Cut xs a l) : a ≤ xs.length ∧ xs.length < a + l.length := by
  obtain ⟨pre, m, r, rfl, rfl, rfl, hr⟩ := h
  have : 0 < r.length := List.length_pos_iff.2 hr
  simp; omega
theorem Cut.app {xs : List Int} {a : Nat} {l l' : List Int} (h : Cut xs a (l ++ l')) : Cut xs a l ∨ (Has xs a l ∧ Cut xs (a + l.length) l') := by
  obtain ⟨pre, m, r, rfl, rfl, he, hr⟩ := h
  rcases List.append_eq_append_iff.1 he with ⟨c, h1, h2⟩ | ⟨c, h1, h2⟩
  · refine .inr ⟨⟨pre, c, by rw [h1], rfl⟩, ⟨pre ++ l, c, r, by rw [h1]; simp, by simp, h2, hr⟩⟩
  · by_cases hc : c = []
    · subst hc
      simp only [List.append_nil] at h1
      simp only [List.nil_append] at h2
      subst h1
      exact .inr ⟨⟨pre, [], by simp, rfl⟩, ⟨pre ++ l, [], l', by simp, by simp, rfl, by rw [← h2]; exact hr⟩⟩
    · exact .inl ⟨pre, m, c, rfl, rfl, h1, hc⟩
theorem Cut.none {xs : List Int} {a : Nat} {x : Int} (h : Cut xs a [x]) : xs[a]? = none := by
  have := h.len
  simp only [List.length_cons, List.length_nil] at this
  rw [List.getElem?_eq_none_iff]; omega
theorem Cut.end {xs : List Int} {a : Nat} {x : Int} (h : Cut xs a [x]) : xs.length = a := by
  have := h.len
  simp only [List.length_cons, List.length_nil] at this
  omega

theorem rn_cut {xs : List Int} {s : Nat} : ∀ (k i m acc : Nat), i + k = 10 → m * 128 ^ i < 18446744073709551616 → (0 < i → 0 < m) → Cut xs (s + i) (Sp.numB m) → Sp.rn xs s k i acc = .bad xs.length 4
  | 0, i, m, acc, hk, hm, hp, hx => by
    have h10 : i = 10 := by omega
    subst h10
    have := hp (by omega)
    have h2 : 1 * 128 ^ 10 ≤ m * 128 ^ 10 := Nat.mul_le_mul_right _ this
    omega
  | k + 1, i, m, acc, hk, hm, hp, hx => by
    rw [Sp.rn]
    by_cases h1 : m < 128
    · rw [Sp.numB_lt h1] at hx
      rw [hx.none]
    · rw [Sp.numB_ge h1] at hx
      rcases Cut.app (l := [((m % 128 + 128 : Nat) : Int)]) hx with hc | ⟨hh, hc⟩
      · rw [hc.none]
      · have h0 := hh.get (j := 0) (u := ((m % 128 + 128 : Nat) : Int)) rfl
        rw [Nat.add_zero] at h0
        rw [h0]
        simp only
        have hi9 : i < 9 := by
          have : i = 9 ∨ i < 9 := by omega
          rcases this with rfl | h
          · have h2 : 2 * 128 ^ 9 ≤ m * 128 ^ 9 := Nat.mul_le_mul_right _ (by omega)
            omega
          · exact h
        rw [if_neg (by omega), if_neg (by omega)]
        have hq : m / 128 * 128 ^ (i + 1) ≤ m * 128 ^ i := by have := mod_split m i; omega
        exact rn_cut k (i + 1) (m / 128) _ (by omega) (by omega) (fun _ => by omega) hc
theorem rn_cut0 {xs : List Int} {s m : Nat} (hm : m < 18446744073709551616) (hx : Cut xs s (Sp.numB m)) : Sp.rn xs s 10 0 0 = .bad xs.length 4 :=
  rn_cut 10 0 m 0 rfl (by simpa using hm) (by omega) (by simpa using hx)
theorem cnt_cut {xs : List Int} {s m start most : Nat} (hm : m < 18446744073709551616) (hx : Cut xs s (Sp.numB m)) : Sp.cnt xs s start most = .bad xs.length 4 := by
  unfold Sp.cnt; rw [rn_cut0 hm hx]
theorem tk_cut {xs : List Int} {s : Nat} {l : List Int} {n : Nat} (hn : n = l.length) (hx : Cut xs s l) : Sp.tk xs s n = .bad xs.length 4 := by
  have := hx.len
  unfold Sp.tk; rw [if_neg (by omega)]
theorem rdN_cut {xs : List Int} {s start : Nat} {c : ByteArray} (hc : Sp.isNm c = true) (hx : Cut xs s (Sp.txtB c)) : Sp.rdN xs s start = .bad xs.length 4 := by
  have hl := nm_32 hc
  unfold Sp.rdN
  rcases Cut.app (l := Sp.numB c.size) (l' := Sp.bts c) hx with h1 | ⟨h1, h2⟩
  · rw [rn_cut0 (by omega) h1]
  · rw [rn_of (by omega) h1]
    simp only
    rw [if_neg (by omega), tk_cut (by rw [Sp.bts_len]) h2]

mutual
theorem Tm.cut {xs : List Int} : (t : Tm) → ∀ (f at' pn : Nat) (d : Int), (t.wk (65 - (f : Int)) (pn : Int) d).e = 0 → t.Bdd → Cut xs at' t.enc → Sp.rdV xs f at' pn = .bad xs.length 4
  | .mk k b i f' tx by' rf l fs c vr, f, at', pn, d, h, hb, hx => by
    have ho : Tm.Ok (.mk k b i f' tx by' rf l fs c vr) := ⟨_, _, _, h⟩
    obtain ⟨q1, q2, q3, q4, q5⟩ := ho.bounds
    simp only [Tm.Bdd] at hb
    obtain ⟨bi, bf, br, bv, bl, bfs⟩ := hb
    have e : (Tm.mk k b i f' tx by' rf l fs c vr).own (pn : Int) (65 - (f : Int)) = 0 := by
      by_cases e : (Tm.mk k b i f' tx by' rf l fs c vr).own (pn : Int) (65 - (f : Int)) ≠ 0
      · rw [Tm.wk, if_pos e] at h; exact absurd h e
      · exact Decidable.not_not.1 e
    have hen : Sp.ent k (pn : Int) (65 - (f : Int)) = 0 := Tm.own_ent _ _ _ e
    have he := Sp.ent_zero hen
    obtain ⟨g, rfl⟩ : ∃ g, f = g + 1 := ⟨f - 1, by omega⟩
    have hn : (65 - ((g + 1 : Nat) : Int)) + 1 = 65 - (g : Int) := by omega
    have hpp : (pn : Int) + 1 = ((pn + 1 : Nat) : Int) := by omega
    have hx1 : ∃ tl, (Tm.mk k b i f' tx by' rf l fs c vr).enc = [k] ++ tl := ⟨_, by rw [Tm.enc]; rfl⟩
    obtain ⟨tl, htl⟩ := hx1
    rw [Sp.rdV]
    rcases Cut.app (l := [k]) (l' := tl) (by rw [← htl]; exact hx) with hc | ⟨hh, hc⟩
    · rw [hc.none]
    have h0 : xs[at']? = some k := by
      have := hh.get (j := 0) (u := k) rfl
      simpa using this
    rw [h0]
    simp only
    rw [if_neg (by omega)]
    simp only [List.length_cons, List.length_nil, Nat.zero_add] at hc
    have hk : k = 1 ∨ k = 2 ∨ k = 3 ∨ k = 4 ∨ k = 5 ∨ k = 6 ∨ k = 7 ∨ k = 8 ∨ k = 9 ∨ k = 10 := by omega
    rcases hk with rfl | rfl | rfl | rfl | rfl | rfl | rfl | rfl | rfl | rfl
    · rw [Tm.enc_1] at htl
      have : tl = [] := by simpa using htl.symm
      subst this
      have := hc.len; simp at this; omega
    · rw [Tm.enc_2] at htl
      obtain rfl := List.append_cancel_left htl
      simp [Sp.rdB, hc.none]
    · rw [Tm.enc_3] at htl
      obtain rfl := List.append_cancel_left htl
      simp [Sp.rdB, rn_cut0 (Sp.fold_lt bi.1 bi.2) hc]
    · rw [Tm.enc_4] at htl
      obtain rfl := List.append_cancel_left htl
      simp [Sp.rdB, tk_cut (n := 8) (Sp.bitsTo_len f' 8).symm hc]
    · rw [Tm.enc_5] at htl
      obtain rfl := List.append_cancel_left htl
      have := q1 rfl
      rcases Cut.app (l := Sp.numB tx.size) (l' := Sp.bts tx) hc with h1 | ⟨h1, h2⟩
      · simp [Sp.rdB, cnt_cut (start := at') (most := 65536) (by omega) h1]
      · simp [Sp.rdB, cnt_of (start := at') (q1 rfl) (by decide) h1, tk_cut (Sp.bts_len tx).symm h2]
    · rw [Tm.enc_6] at htl
      obtain rfl := List.append_cancel_left htl
      have := q2 rfl
      rcases Cut.app (l := Sp.numB by'.size) (l' := Sp.bts by') hc with h1 | ⟨h1, h2⟩
      · simp [Sp.rdB, cnt_cut (start := at') (most := 65536) (by omega) h1]
      · simp [Sp.rdB, cnt_of (start := at') (q2 rfl) (by decide) h1, tk_cut (Sp.bts_len by').symm h2]
    · rw [Tm.enc_7] at htl
      obtain rfl := List.append_cancel_left htl
      simp [Sp.rdB, rn_cut0 (m := rf.toNat) (by omega) hc]
    · have hw : (Tm.mk 8 b i f' tx by' rf l fs c vr).wk (65 - ((g + 1 : Nat) : Int)) (pn : Int) d = l.wk (65 - (g : Int)) ((pn + 1 : Nat) : Int) (max d (65 - ((g + 1 : Nat) : Int))) := by
        rw [Tm.wk_8 hen, TmL.wkR, if_neg (by have := q3 rfl; omega), hn, hpp]
      rw [hw] at h
      rw [Tm.enc_8] at htl
      obtain rfl := List.append_cancel_left htl
      have := q3 rfl
      rcases Cut.app (l := Sp.numB l.len) (l' := l.enc) hc with h1 | ⟨h1, h2⟩
      · simp [Sp.rdB, cnt_cut (start := at') (most := 4096) (by omega) h1]
      · have hr := TmL.cut (xs := xs) l g _ (pn + 1) _ h bl h2
        simp [Sp.rdB, cnt_of (start := at') (q3 rfl) (by decide) h1, hr]
    · have hfr := q4 (Or.inl rfl)
      have hw : (Tm.mk 9 b i f' tx by' rf l fs c vr).wk (65 - ((g + 1 : Nat) : Int)) (pn : Int) d = fs.wk (65 - (g : Int)) ((pn + 1 : Nat) : Int) (max d (65 - ((g + 1 : Nat) : Int))) := by
        rw [Tm.wk_9 hen, TmF.wkR, if_neg (by simp [hfr]), hn, hpp]
      rw [hw] at h
      rw [Tm.enc_9] at htl
      obtain rfl := List.append_cancel_left htl
      have hnl := (TmF.nm hfr).1
      have hr : Sp.rdD xs at' (Sp.rdV xs g) (at' + 1) (pn + 1) = .bad xs.length 4 := by
        unfold Sp.rdD
        rcases Cut.app (l := Sp.numB fs.len) (l' := fs.enc) hc with h1 | ⟨h1, h2⟩
        · rw [cnt_cut (start := at') (most := 4096) (by omega) h1]
        · rw [cnt_of (start := at') (TmF.nm hfr).1 (by decide) h1]
          exact TmF.cut (xs := xs) fs at' g _ (pn + 1) _ [] (fieldsR_named hfr) h bfs h2
      simp [Sp.rdB, hr]
    · have hfr := q4 (Or.inr rfl)
      have hhd := q5 rfl
      have hv := head_ver hhd
      have hcn : Sp.isNm c = true := by
        unfold Sp.headR at hhd
        split at hhd
        · omega
        · rename_i hc; simpa using hc
      have hw : (Tm.mk 10 b i f' tx by' rf l fs c vr).wk (65 - ((g + 1 : Nat) : Int)) (pn : Int) d = fs.wk (65 - (g : Int)) ((pn + 1 : Nat) : Int) (max d (65 - ((g + 1 : Nat) : Int))) := by
        rw [Tm.wk_10 hen hhd, TmF.wkR, if_neg (by simp [hfr]), hn, hpp]
      rw [hw] at h
      rw [Tm.enc_10] at htl
      obtain rfl := List.append_cancel_left htl
      have hnl := (TmF.nm hfr).1
      rcases Cut.app hc with h1 | ⟨h1, h2⟩
      · simp [Sp.rdB, rdN_cut (start := at') hcn h1]
      · rcases Cut.app h2 with h3 | ⟨h3, h4⟩
        · simp [Sp.rdB, rdN_of (start := at') hcn h1, rn_cut0 (m := vr.toNat) (by omega) h3]
        · have hr : Sp.rdD xs at' (Sp.rdV xs g) (at' + 1 + (Sp.txtB c).length + (Sp.numB vr.toNat).length) (pn + 1) = .bad xs.length 4 := by
            unfold Sp.rdD
            rcases Cut.app (l := Sp.numB fs.len) (l' := fs.enc) h4 with h5 | ⟨h5, h6⟩
            · rw [cnt_cut (start := at') (most := 4096) (by omega) h5]
            · rw [cnt_of (start := at') (TmF.nm hfr).1 (by decide) h5]
              exact TmF.cut (xs := xs) fs at' g _ (pn + 1) _ [] (fieldsR_named hfr) h bfs h6
          have hv3 : ¬ (vr.toNat < 1 ∨ 1000 < vr.toNat) := by omega
          simp only [Sp.rdB, rdN_of (start := at') hcn h1, rn_of (m := vr.toNat) (by omega) h3, if_neg hv3, hr]
          simp
theorem TmL.cut {xs : List Int} : (l : TmL) → ∀ (f at' pn : Nat) (d : Int), (l.wk (65 - (f : Int)) (pn : Int) d).e = 0 → l.Bdd → Cut xs at' l.enc → Sp.rdL (Sp.rdV xs f) l.len at' pn = .bad xs.length 4
  | .nil, f, at', pn, d, h, hb, hx => by
    have := hx.len; simp [TmL.enc] at this; omega
  | .cons t l, f, at', pn, d, h, hb, hx => by
    rw [TmL.wk] at h
    by_cases e : (t.wk (65 - (f : Int)) (pn : Int) d).e ≠ 0
    · rw [if_pos e] at h; exact absurd h e
    · rw [if_neg e] at h
      rw [TmL.enc] at hx
      rw [TmL.len, Sp.rdL]
      rcases Cut.app hx with h1 | ⟨h1, h2⟩
      · rw [Tm.cut (xs := xs) t f at' pn d (Decidable.not_not.1 e) hb.1 h1]
      · obtain ⟨q, hq, hr⟩ := Tm.rd (xs := xs) t f at' pn d (Decidable.not_not.1 e) hb.1 h1
        rw [hq] at h
        rw [hr]
        simp only
        rw [TmL.cut (xs := xs) l f _ q _ h hb.2 h2]
theorem TmF.cut {xs : List Int} : (l : TmF) → ∀ (start f at' pn : Nat) (d : Int) (ahead : List Int), Sp.named (Sp.txt ahead) l.names = true → (l.wk (65 - (f : Int)) (pn : Int) d).e = 0 → l.Bdd → Cut xs at' l.enc → Sp.rdF xs start (Sp.rdV xs f) l.len ahead at' pn = .bad xs.length 4
  | .nil, start, f, at', pn, d, ahead, hnm, h, hb, hx => by
    have := hx.len; simp [TmF.enc] at this; omega
  | .cons n t l, start, f, at', pn, d, ahead, hnm, h, hb, hx => by
    rw [TmF.wk] at h
    by_cases e : (t.wk (65 - (f : Int)) (pn : Int) d).e ≠ 0
    · rw [if_pos e] at h; exact absurd h e
    · rw [if_neg e] at h
      rw [TmF.enc] at hx
      simp only [TmF.names, Sp.named, Bool.and_eq_true, Bool.not_eq_true'] at hnm
      obtain ⟨⟨hn1, hn2⟩, hn3⟩ := hnm
      rw [TmF.len, Sp.rdF]
      rcases Cut.app hx with h1 | ⟨h1, h2⟩
      · rw [rdN_cut (start := start) hn1 h1]
      · rw [rdN_of (start := start) hn1 h1]
        simp only
        rw [if_neg (by rw [txt_bts]; exact le_of_leS hn2)]
        rcases Cut.app h2 with h3 | ⟨h3, h4⟩
        · rw [Tm.cut (xs := xs) t f _ pn d (Decidable.not_not.1 e) hb.1 h3]
        · obtain ⟨q, hq, hr⟩ := Tm.rd (xs := xs) t f _ pn d (Decidable.not_not.1 e) hb.1 h3
          rw [hq] at h
          rw [hr]
          simp only
          rw [TmF.cut (xs := xs) l start f _ q _ (Sp.bts n) (by rw [txt_bts]; exact hn3) h hb.2 h4]
end
/-- a beginning of what was written, but not the whole -/
theorem cut_enc (t : Tm) (n : Nat) (hn : n < t.enc.length) (h : t.all.e = 0) (hb : t.Bdd) : Sp.rdV (t.enc.take n) 64 0 0 = .bad n 4 := by
  have := Tm.cut (xs := t.enc.take n) t 64 0 0 0 h hb ⟨[], t.enc.take n, t.enc.drop n, rfl, rfl, (List.take_append_drop n t.enc).symm, by
    intro e
    have := congrArg List.length e
    rw [List.length_drop] at this
    simp at this
    omega⟩
  rw [this, List.length_take, Nat.min_eq_left (by omega)]
end Go.Proofs.Ytjmhodngmfaboaa
