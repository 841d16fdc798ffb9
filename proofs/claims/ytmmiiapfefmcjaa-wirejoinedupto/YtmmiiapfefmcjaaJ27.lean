/- Plain mathematics: what was read is what is written: the bytes that were read are those of the term, which can be a value. -/
import Derived.Test.YtmmiiapfefmcjaaJ26
import Derived.Test.YtmmiiapfefmcjaaJ18
namespace Go.Proofs.Ytmmiiapfefmcjaa
open Go.RowKit

theorem Has.cons {xs : List Int} {a : Nat} {c : Int} {l : List Int} (hc : xs[a]? = some c) (h : Has xs (a + 1) l) : Has xs a (c :: l) := by
  obtain ⟨pre, rest, rfl, hp⟩ := h
  have h1 : (pre.drop a).length = 1 := by rw [List.length_drop]; omega
  obtain ⟨y, hy⟩ := List.length_eq_one_iff.1 h1
  have h2 : pre = pre.take a ++ [y] := by rw [← hy, List.take_append_drop]
  have h3 : (pre.take a).length = a := by rw [List.length_take]; omega
  refine ⟨pre.take a, rest, ?_, h3⟩
  have h4 : pre[a]? = some y := by
    rw [h2, List.getElem?_append_right (by omega), h3]; simp
  rw [List.getElem?_append_left (by omega), h4] at hc
  injection hc with hc
  subst hc
  conv => lhs; rw [h2]
  simp
theorem Has.join {xs : List Int} {a : Nat} {l m : List Int} (h : Has xs a l) (k : Has xs (a + l.length) m) : Has xs a (l ++ m) := by
  obtain ⟨pre, rest, e1, hp⟩ := h
  obtain ⟨pre2, rest2, e2, hp2⟩ := k
  have h1 : (pre ++ l) ++ rest = pre2 ++ (m ++ rest2) := by rw [← e2, e1]; simp
  obtain ⟨h2, h3⟩ := List.append_inj h1 (by simp; omega)
  exact ⟨pre, rest2, by rw [e2, ← h2]; simp, hp⟩
theorem Has.nil {xs : List Int} {a : Nat} (h : a ≤ xs.length) : Has xs a [] := ⟨xs.take a, xs.drop a, by simp, by rw [List.length_take]; omega⟩
theorem Has.part {xs : List Int} {a n : Nat} (h : a + n ≤ xs.length) : Has xs a ((xs.drop a).take n) := by
  refine ⟨xs.take a, xs.drop (a + n), ?_, by rw [List.length_take]; omega⟩
  rw [← List.drop_drop, List.take_append_drop, List.take_append_drop]

theorem rn_sound {xs : List Int} {s : Nat} (hby : By xs) : ∀ (k i n v a : Nat), i + k = 10 → Sp.rn xs s k i n = .ok v a → ∃ m, v = n + m * 128 ^ i ∧ (0 < i → 0 < m) ∧ Has xs (s + i) (Sp.numB m) ∧ a = s + i + (Sp.numB m).length
  | 0, i, n, v, a, _, h => by simp [Sp.rn] at h
  | k + 1, i, n, v, a, hk, h => by
    rw [Sp.rn] at h
    cases hx : xs[s + i]? with
    | none => rw [hx] at h; simp at h
    | some c =>
      rw [hx] at h
      simp only at h
      have hc := hby.get hx
      have hlt := (List.getElem?_eq_some_iff.1 hx).1
      split at h
      · simp at h
      · rename_i hbad
        split at h
        · rename_i h128
          injection h with e1 e2
          refine ⟨c.toNat, e1.symm, fun hi => by omega, ?_, ?_⟩
          · rw [Sp.numB_lt (by omega)]
            have : ((c.toNat : Nat) : Int) = c := by omega
            rw [this]
            exact Has.cons hx (Has.nil (by omega))
          · rw [Sp.numB_lt (by omega)]; simp; omega
        · rename_i h128
          obtain ⟨m, hv, hp, hh, ha⟩ := rn_sound hby k (i + 1) _ v a (by omega) h
          have hm := hp (by omega)
          have e1 : (m * 128 + (c.toNat - 128)) % 128 = c.toNat - 128 := by omega
          have e2 : (m * 128 + (c.toNat - 128)) / 128 = m := by omega
          have e3 := mod_split (m * 128 + (c.toNat - 128)) i
          rw [e1, e2] at e3
          have e4 : (((m * 128 + (c.toNat - 128)) % 128 + 128 : Nat) : Int) = c := by omega
          refine ⟨m * 128 + (c.toNat - 128), by omega, fun _ => by omega, ?_, ?_⟩
          · rw [Sp.numB_ge (by omega), e4, e2]
            exact Has.cons hx (by rw [Nat.add_assoc]; exact hh)
          · rw [Sp.numB_ge (by omega), e2, List.length_cons]; omega
theorem rn_snd {xs : List Int} {s v a : Nat} (hby : By xs) (h : Sp.rn xs s 10 0 0 = .ok v a) : Has xs s (Sp.numB v) ∧ a = s + (Sp.numB v).length ∧ v < 18446744073709551616 := by
  obtain ⟨m, hv, _, hh, ha⟩ := rn_sound hby 10 0 0 v a rfl h
  simp only [Nat.pow_zero, Nat.mul_one, Nat.zero_add] at hv
  subst hv
  exact ⟨hh, ha, rn_lt hby 10 0 0 v a rfl (by decide) h⟩
theorem bts_txt {l : List Int} (h : By l) : Sp.bts (Sp.txt l) = l := by
  apply List.ext_getElem
  · rw [Sp.bts_len, txt_size]
  · intro j h1 h2
    simp only [Sp.bts, List.getElem_map, List.getElem_range]
    exact byte_txt h2 h
theorem rdN_snd {xs : List Int} {s start : Nat} {l : List Int} {a2 : Nat} (hby : By xs) (h : Sp.rdN xs s start = .ok l a2) : Has xs s (Sp.txtB (Sp.txt l)) ∧ a2 = s + (Sp.txtB (Sp.txt l)).length ∧ Sp.isNm (Sp.txt l) = true := by
  obtain ⟨n, a, hn, h32, hle, rfl, rfl, hnm⟩ := rdN_ok h
  obtain ⟨h1, rfl, _⟩ := rn_snd hby hn
  have hb := hby.part (s + (Sp.numB n).length) n
  have hsz : (Sp.txt ((xs.drop (s + (Sp.numB n).length)).take n)).size = n := by rw [txt_size, part_len hle]
  refine ⟨?_, ?_, hnm⟩
  · rw [Sp.txtB, hsz, bts_txt hb]; exact h1.join (Has.part hle)
  · rw [Sp.txtB, hsz, bts_txt hb, List.length_append, part_len hle]; omega
theorem fold_unfold (n : Nat) : Sp.fold (Sp.unfold' n) = n := by
  unfold Sp.unfold' Sp.fold
  by_cases h : n % 2 = 1
  · rw [if_pos h, if_pos (by omega)]; omega
  · rw [if_neg h, if_neg (by omega)]; omega
theorem unfold_bd {n : Nat} (h : n < 18446744073709551616) : -9223372036854775808 ≤ Sp.unfold' n ∧ Sp.unfold' n ≤ 9223372036854775807 := by
  unfold Sp.unfold'
  by_cases h : n % 2 = 1
  · rw [if_pos h]; omega
  · rw [if_neg h]; omega
theorem cat_take {l : List Int} {k : Nat} {u : Int} (h : l[k]? = some u) : Sp.cat (l.take (k + 1)) = Sp.cat (l.take k) * 256 + u.toNat := by rw [take_succ_get h, cat_snoc]
theorem cat_div {l : List Int} (hb : By l) (hl : l.length = 8) : ∀ j, j ≤ 8 → Sp.cat l / 256 ^ j = Sp.cat (l.take (8 - j))
  | 0, _ => by rw [Nat.pow_zero, Nat.div_one, List.take_of_length_le (by omega)]
  | j + 1, hj => by
    rw [Nat.pow_succ, ← Nat.div_div_eq_div_mul, cat_div hb hl j (by omega)]
    have hk : 7 - j < l.length := by omega
    have hu := List.getElem?_eq_getElem hk
    have hbu := hb.get hu
    rw [show 8 - j = 7 - j + 1 by omega, cat_take hu, show 8 - (j + 1) = 7 - j by omega]
    omega
theorem bits_cat {l : List Int} (hb : By l) (hl : l.length = 8) : ∀ k, k ≤ 8 → Sp.bitsTo (Sp.cat l) k = l.take k
  | 0, _ => rfl
  | k + 1, hk => by
    have hkl : k < l.length := by omega
    have hu := List.getElem?_eq_getElem hkl
    have hbu := hb.get hu
    rw [Sp.bitsTo, bits_cat hb hl k (by omega), take_succ_get hu]
    congr 2
    have e : (2 : Nat) ^ (56 - 8 * k) = 256 ^ (7 - k) := by
      rw [show 56 - 8 * k = 8 * (7 - k) by omega, Nat.pow_mul]
    rw [e, cat_div hb hl (7 - k) (by omega), show 8 - (7 - k) = k + 1 by omega, cat_take hu]
    omega
theorem leS_of {a b : ByteArray} (h : ¬ Sp.cmpS a b ≤ 0) : Sp.leS a b = false := by
  unfold Sp.leS
  rw [less_of, same_of]
  simp only [Bool.or_eq_false_iff, decide_eq_false_iff_not]
  omega

/-- what is known of a term that was read -/
def Sd (xs : List Int) (f at' p : Nat) (t : Tm) (p2 a2 : Nat) : Prop := Has xs at' t.enc ∧ a2 = at' + t.enc.length ∧ t.Bdd ∧ t.clean = t ∧ ∀ d, (t.wk (65 - (f : Int)) (p : Int) d).e = 0 ∧ (t.wk (65 - (f : Int)) (p : Int) d).p = (p2 : Int)
def SdV (xs : List Int) (f : Nat) : Prop := ∀ at' p t p2 a2, Sp.rdV xs f at' p = .ok (t, p2) a2 → Sd xs f at' p t p2 a2
theorem rdL_snd {xs : List Int} {f : Nat} (HV : SdV xs f) : ∀ (n at' p : Nat) (l : TmL) (p2 a2 : Nat), at' ≤ xs.length → Sp.rdL (Sp.rdV xs f) n at' p = .ok (l, p2) a2 → Has xs at' l.enc ∧ a2 = at' + l.enc.length ∧ l.Bdd ∧ l.clean = l ∧ ∀ d, (l.wk (65 - (f : Int)) (p : Int) d).e = 0 ∧ (l.wk (65 - (f : Int)) (p : Int) d).p = (p2 : Int)
  | 0, at', p, l, p2, a2, hl, h => by
    rw [Sp.rdL] at h
    injection h with e1 e2; injection e1 with e3 e4; subst e3; subst e4; subst e2
    exact ⟨by rw [TmL.enc]; exact Has.nil hl, by simp [TmL.enc], trivial, rfl, fun d => by rw [TmL.wk]; exact ⟨rfl, rfl⟩⟩
  | n + 1, at', p, l, p2, a2, hl, h => by
    have hlen := rdL_len _ _ _ _ _ _ h
    cases l with
    | nil => simp [TmL.len] at hlen
    | cons t l =>
      obtain ⟨p1, a1, hs, hq⟩ := rdL_cons h
      obtain ⟨h1, rfl, h3, h4, h5⟩ := HV _ _ _ _ _ hs
      obtain ⟨k1, rfl, k3, k4, k5⟩ := rdL_snd HV n _ _ l p2 a2 h1.le hq
      refine ⟨by rw [TmL.enc]; exact h1.join k1, by rw [TmL.enc, List.length_append]; omega, ⟨h3, k3⟩, by rw [TmL.clean, h4, k4], fun d => ?_⟩
      rw [TmL.wk, if_neg (by simp [(h5 d).1]), (h5 d).2]
      exact k5 _
theorem rdF_snd {xs : List Int} {f : Nat} (hby : By xs) (HV : SdV xs f) (start : Nat) : ∀ (n : Nat) (ahead : List Int) (at' p : Nat) (l : TmF) (p2 a2 : Nat), at' ≤ xs.length → Sp.rdF xs start (Sp.rdV xs f) n ahead at' p = .ok (l, p2) a2 → Has xs at' l.enc ∧ a2 = at' + l.enc.length ∧ l.Bdd ∧ l.clean = l ∧ Sp.named (Sp.txt ahead) l.names = true ∧ ∀ d, (l.wk (65 - (f : Int)) (p : Int) d).e = 0 ∧ (l.wk (65 - (f : Int)) (p : Int) d).p = (p2 : Int)
  | 0, ahead, at', p, l, p2, a2, hl, h => by
    rw [Sp.rdF] at h
    injection h with e1 e2; injection e1 with e3 e4; subst e3; subst e4; subst e2
    exact ⟨by rw [TmF.enc]; exact Has.nil hl, by simp [TmF.enc], trivial, rfl, rfl, fun d => by rw [TmF.wk]; exact ⟨rfl, rfl⟩⟩
  | n + 1, ahead, at', p, l, p2, a2, hl, h => by
    have hlen := rdF_len _ _ _ _ _ _ _ h
    cases l with
    | nil => simp [TmF.len] at hlen
    | cons nm t l =>
      have hcmp : ∀ l0 a0, Sp.rdN xs at' start = .ok l0 a0 → ¬ Sp.cmpS (Sp.txt l0) (Sp.txt ahead) ≤ 0 := fun l0 a0 hN hc => by
        rw [Sp.rdF, hN] at h
        simp only at h
        rw [if_pos hc] at h
        simp at h
      obtain ⟨l0, a0, p1, a1, hN, rfl, hs, hq⟩ := rdF_cons h
      have hc := hcmp l0 a0 hN
      obtain ⟨g1, rfl, g3⟩ := rdN_snd hby hN
      obtain ⟨h1, rfl, h3, h4, h5⟩ := HV _ _ _ _ _ hs
      obtain ⟨k1, rfl, k3, k4, k6, k5⟩ := rdF_snd hby HV start n l0 _ _ l p2 a2 h1.le hq
      refine ⟨by rw [TmF.enc]; exact g1.join (h1.join k1), by rw [TmF.enc, List.length_append, List.length_append]; omega, ⟨h3, k3⟩, by rw [TmF.clean, h4, k4], ?_, fun d => ?_⟩
      · simp only [TmF.names, Sp.named, Bool.and_eq_true, Bool.not_eq_true']
        exact ⟨⟨g3, leS_of hc⟩, k6⟩
      · rw [TmF.wk, if_neg (by simp [(h5 d).1]), (h5 d).2]
        exact k5 _
theorem rdD_snd {xs : List Int} {f : Nat} (hby : By xs) (HV : SdV xs f) (start at' p : Nat) (l : TmF) (p2 a2 : Nat) (h : Sp.rdD xs start (Sp.rdV xs f) at' p = .ok (l, p2) a2) : Has xs at' l.encR ∧ a2 = at' + l.encR.length ∧ l.Bdd ∧ l.clean = l ∧ Sp.fieldsR l.names = 0 ∧ ∀ d, (l.wk (65 - (f : Int)) (p : Int) d).e = 0 ∧ (l.wk (65 - (f : Int)) (p : Int) d).p = (p2 : Int) := by
  unfold Sp.rdD at h
  cases hc : Sp.cnt xs at' start 4096 with
  | bad q e => rw [hc] at h; simp at h
  | ok n a1 =>
    rw [hc] at h
    simp only at h
    obtain ⟨hn, hn4⟩ := cnt_ok hc
    obtain ⟨g1, rfl, _⟩ := rn_snd hby hn
    have hlen := rdF_len _ _ _ _ _ _ _ h
    obtain ⟨k1, rfl, k3, k4, k6, k5⟩ := rdF_snd hby HV start n [] _ _ l p2 a2 g1.le h
    subst hlen
    refine ⟨g1.join k1, by rw [TmF.encR, List.length_append]; omega, k3, k4, ?_, k5⟩
    unfold Sp.fieldsR
    rw [if_neg (by rw [TmF.names_len]; omega)]
    exact if_pos k6
theorem ent_ok {k : Int} {p n : Int} (h1 : 1 ≤ k) (h2 : k ≤ 10) (h3 : p < 16384) (h4 : n ≤ 64) : Sp.ent k p n = 0 := by
  unfold Sp.ent
  rw [if_neg (by omega), if_neg (by omega), if_neg (by omega)]
theorem wk_leaf {k : Int} {b : Bool} {i : Int} {f : Nat} {tx by' : ByteArray} {rf : Int} {l : TmL} {fs : TmF} {c : ByteArray} {v : Int} {n : Int} {p : Nat} (he : Sp.ent k (p : Int) n = 0) (h5 : k ≠ 5) (h6 : k ≠ 6) (h8 : k ≠ 8) (h9 : k ≠ 9) (h10 : k ≠ 10) (d : Int) : ((Tm.mk k b i f tx by' rf l fs c v).wk n (p : Int) d).e = 0 ∧ ((Tm.mk k b i f tx by' rf l fs c v).wk n (p : Int) d).p = ((p + 1 : Nat) : Int) := by
  rw [Tm.wk_else he h5 h6 h8 h9 h10]; exact ⟨rfl, by simp⟩

theorem rdV_snd {xs : List Int} (hby : By xs) : ∀ f, SdV xs f
  | 0 => fun at' p t p2 a2 h => by
    rw [Sp.rdV] at h
    split at h <;> simp at h
  | f + 1 => fun at' p t p2 a2 hr => by
    have HV := rdV_snd hby f
    rw [Sp.rdV] at hr
    cases hx : xs[at']? with
    | none => rw [hx] at hr; simp at hr
    | some k =>
      rw [hx] at hr
      simp only at hr
      have hlt := (List.getElem?_eq_some_iff.1 hx).1
      by_cases hp : 16384 ≤ p
      · rw [if_pos hp] at hr; simp at hr
      · rw [if_neg hp] at hr
        have hen : ∀ k : Int, 1 ≤ k → k ≤ 10 → Sp.ent k (p : Int) (65 - ((f + 1 : Nat) : Int)) = 0 := fun k h1 h2 => ent_ok h1 h2 (by omega) (by omega)
        have hnn : (65 - ((f + 1 : Nat) : Int)) + 1 = 65 - (f : Int) := by omega
        have hpp : (p : Int) + 1 = ((p + 1 : Nat) : Int) := by omega
        unfold Sp.rdB at hr
        split at hr
        · rename_i hk; subst hk
          injection hr with e1 e2; injection e1 with e3 e4; subst e2; subst e3; subst e4
          refine ⟨?_, ?_, by simp [lfT, Tm.Bdd, TmL.Bdd, TmF.Bdd], by simp [lfT, Tm.clean], wk_leaf (hen 1 (by decide) (by decide)) (by decide) (by decide) (by decide) (by decide) (by decide)⟩
          · rw [lfT, Tm.enc_1]; exact Has.cons hx (Has.nil (by omega))
          · rw [lfT, Tm.enc_1]; simp
        split at hr
        · rename_i hk; subst hk
          cases hc : xs[at' + 1]? with
          | none => rw [hc] at hr; simp at hr
          | some c =>
            have hcb := hby.get hc
            have hlt2 := (List.getElem?_eq_some_iff.1 hc).1
            rw [hc] at hr
            simp only at hr
            split at hr
            · simp at hr
            · rename_i hc1
              injection hr with e1 e2; injection e1 with e3 e4; subst e2; subst e3; subst e4
              refine ⟨?_, ?_, by simp [lfT, Tm.Bdd, TmL.Bdd, TmF.Bdd], by simp [lfT, Tm.clean], wk_leaf (hen 2 (by decide) (by decide)) (by decide) (by decide) (by decide) (by decide) (by decide)⟩
              · rw [lfT, Tm.enc_2]
                have : (if (c == 1) = true then (1 : Int) else 0) = c := by
                  have : c = 0 ∨ c = 1 := by omega
                  rcases this with rfl | rfl <;> rfl
                rw [this]
                exact Has.cons hx (Has.cons hc (Has.nil (by omega)))
              · rw [lfT, Tm.enc_2]; simp
        split at hr
        · rename_i hk; subst hk
          cases hn : Sp.rn xs (at' + 1) 10 0 0 with
          | bad q e => rw [hn] at hr; simp at hr
          | ok n a' =>
            rw [hn] at hr
            obtain ⟨g1, g2, g3⟩ := rn_snd hby hn
            injection hr with e1 e2; injection e1 with e3 e4; subst e2; subst e3; subst e4
            refine ⟨?_, ?_, by simp [lfT, Tm.Bdd, TmL.Bdd, TmF.Bdd]; exact unfold_bd g3, by simp [lfT, Tm.clean], wk_leaf (hen 3 (by decide) (by decide)) (by decide) (by decide) (by decide) (by decide) (by decide)⟩
            · rw [lfT, Tm.enc_3, fold_unfold]; exact Has.cons hx g1
            · rw [lfT, Tm.enc_3, fold_unfold, g2, List.length_append]; simp; omega
        split at hr
        · rename_i hk; subst hk
          unfold Sp.tk at hr
          by_cases hl : at' + 1 + 8 ≤ xs.length
          · rw [if_pos hl] at hr
            injection hr with e1 e2; injection e1 with e3 e4; subst e2; subst e3; subst e4
            have hb8 := hby.part (at' + 1) 8
            have hl8 : ((xs.drop (at' + 1)).take 8).length = 8 := part_len hl
            have hcl := cat_lt _ hb8
            rw [hl8] at hcl
            have hbc := (bits_cat hb8 hl8 8 (Nat.le_refl _)).trans (List.take_of_length_le (Nat.le_of_eq hl8))
            refine ⟨?_, ?_, by simp [lfT, Tm.Bdd, TmL.Bdd, TmF.Bdd]; exact hcl, by simp [lfT, Tm.clean], wk_leaf (hen 4 (by decide) (by decide)) (by decide) (by decide) (by decide) (by decide) (by decide)⟩
            · rw [lfT, Tm.enc_4]
              show Has xs at' (4 :: Sp.bitsTo (Sp.cat ((xs.drop (at' + 1)).take 8)) 8)
              rw [hbc]
              exact Has.cons hx (Has.part hl)
            · rw [lfT, Tm.enc_4]; simp [Sp.bitsTo_len]
          · rw [if_neg hl] at hr; simp at hr
        split at hr
        · rename_i hk
          cases hn : Sp.cnt xs (at' + 1) at' 65536 with
          | bad q e => rw [hn] at hr; simp at hr
          | ok n a' =>
            obtain ⟨hrn, hn4⟩ := cnt_ok hn
            obtain ⟨g1, g2, g3⟩ := rn_snd hby hrn
            rw [hn] at hr
            simp only at hr
            unfold Sp.tk at hr
            by_cases hl : a' + n ≤ xs.length
            · rw [if_pos hl] at hr
              injection hr with e1 e2; injection e1 with e3 e4; subst e2; subst e3; subst e4
              have hbn := hby.part a' n
              have hln : ((xs.drop a').take n).length = n := part_len hl
              have hsz : (Sp.txt ((xs.drop a').take n)).size = n := by rw [txt_size, hln]
              have htx : Sp.txtB (Sp.txt ((xs.drop a').take n)) = Sp.numB n ++ (xs.drop a').take n := by rw [Sp.txtB, hsz, bts_txt hbn]
              have hpt : Has xs (at' + 1) (Sp.numB n ++ (xs.drop a').take n) := g1.join (by rw [← g2]; exact Has.part hl)
              rcases hk with rfl | rfl
              · refine ⟨?_, ?_, by simp [lfT, Tm.Bdd, TmL.Bdd, TmF.Bdd], by simp [lfT, Tm.clean], fun d => ?_⟩
                · rw [lfT, Tm.enc_5, if_pos rfl, htx]; exact Has.cons hx hpt
                · rw [lfT, Tm.enc_5, if_pos rfl, htx]; simp [hln]; omega
                · rw [lfT, Tm.wk_5 (hen 5 (by decide) (by decide)), if_pos rfl, hsz]
                  exact ⟨by simp [Sp.len]; omega, by simp⟩
              · refine ⟨?_, ?_, by simp [lfT, Tm.Bdd, TmL.Bdd, TmF.Bdd], by simp [lfT, Tm.clean], fun d => ?_⟩
                · rw [lfT, Tm.enc_6, if_pos rfl, htx]; exact Has.cons hx hpt
                · rw [lfT, Tm.enc_6, if_pos rfl, htx]; simp [hln]; omega
                · rw [lfT, Tm.wk_6 (hen 6 (by decide) (by decide)), if_pos rfl, hsz]
                  exact ⟨by simp [Sp.len]; omega, by simp⟩
            · rw [if_neg hl] at hr; simp at hr
        split at hr
        · rename_i hk; subst hk
          cases hn : Sp.rn xs (at' + 1) 10 0 0 with
          | bad q e => rw [hn] at hr; simp at hr
          | ok n a' =>
            rw [hn] at hr
            obtain ⟨g1, g2, g3⟩ := rn_snd hby hn
            injection hr with e1 e2; injection e1 with e3 e4; subst e2; subst e3; subst e4
            refine ⟨?_, ?_, by simp [lfT, Tm.Bdd, TmL.Bdd, TmF.Bdd]; omega, by simp [lfT, Tm.clean], wk_leaf (hen 7 (by decide) (by decide)) (by decide) (by decide) (by decide) (by decide) (by decide)⟩
            · rw [lfT, Tm.enc_7, Int.toNat_natCast]; exact Has.cons hx g1
            · rw [lfT, Tm.enc_7, Int.toNat_natCast, g2, List.length_append]; simp; omega
        split at hr
        · rename_i hk; subst hk
          cases hn : Sp.cnt xs (at' + 1) at' 4096 with
          | bad q e => rw [hn] at hr; simp at hr
          | ok n a' =>
            obtain ⟨hrn, hn4⟩ := cnt_ok hn
            obtain ⟨g1, g2, g3⟩ := rn_snd hby hrn
            rw [hn] at hr
            simp only at hr
            cases hL : Sp.rdL (Sp.rdV xs f) n a' (p + 1) with
            | bad q e => rw [hL] at hr; simp at hr
            | ok lp a3 =>
              obtain ⟨l, p3⟩ := lp
              rw [hL] at hr
              have hlen := rdL_len _ _ _ _ _ _ hL
              obtain ⟨k1, k2, k3, k4, k5⟩ := rdL_snd HV n a' (p + 1) l p3 a3 (by rw [g2]; exact g1.le) hL
              injection hr with e1 e2; injection e1 with e3 e4; subst e2; subst e3; subst e4
              refine ⟨?_, ?_, by simp [Tm.Bdd, TmF.Bdd, k3], by simp [Tm.clean, k4], fun d => ?_⟩
              · rw [Tm.enc_8, TmL.encR, hlen]; exact Has.cons hx (g1.join (by rw [← g2]; exact k1))
              · rw [Tm.enc_8, TmL.encR, hlen, k2, g2]; simp; omega
              · rw [Tm.wk_8 (hen 8 (by decide) (by decide)), TmL.wkR, if_neg (by omega), hnn, hpp]; exact k5 _
        split at hr
        · rename_i hk; subst hk
          cases hL : Sp.rdD xs at' (Sp.rdV xs f) (at' + 1) (p + 1) with
          | bad q e => rw [hL] at hr; simp at hr
          | ok lp a3 =>
            obtain ⟨l, p3⟩ := lp
            rw [hL] at hr
            obtain ⟨k1, k2, k3, k4, k6, k5⟩ := rdD_snd hby HV at' (at' + 1) (p + 1) l p3 a3 hL
            injection hr with e1 e2; injection e1 with e3 e4; subst e2; subst e3; subst e4
            refine ⟨?_, ?_, by simp [Tm.Bdd, TmL.Bdd, k3], by simp [Tm.clean, k4], fun d => ?_⟩
            · rw [Tm.enc_9]; exact Has.cons hx k1
            · rw [Tm.enc_9, k2]; simp; omega
            · rw [Tm.wk_9 (hen 9 (by decide) (by decide)), TmF.wkR, if_neg (by simp [k6]), hnn, hpp]; exact k5 _
        split at hr
        · rename_i hk; subst hk
          cases hN : Sp.rdN xs (at' + 1) at' with
          | bad q e => rw [hN] at hr; simp at hr
          | ok c a' =>
            obtain ⟨m1, m2, m3⟩ := rdN_snd hby hN
            rw [hN] at hr
            simp only at hr
            cases hv : Sp.rn xs a' 10 0 0 with
            | bad q e => rw [hv] at hr; simp at hr
            | ok v a4 =>
              obtain ⟨g1, g2, g3⟩ := rn_snd hby hv
              rw [hv] at hr
              simp only at hr
              split at hr
              · simp at hr
              · rename_i hv1
                cases hL : Sp.rdD xs at' (Sp.rdV xs f) a4 (p + 1) with
                | bad q e => rw [hL] at hr; simp at hr
                | ok lp a3 =>
                  obtain ⟨l, p3⟩ := lp
                  rw [hL] at hr
                  obtain ⟨k1, k2, k3, k4, k6, k5⟩ := rdD_snd hby HV at' a4 (p + 1) l p3 a3 hL
                  injection hr with e1 e2; injection e1 with e3 e4; subst e2; subst e3; subst e4
                  have hhd : Sp.headR (Sp.txt c) (v : Int) = 0 := by
                    unfold Sp.headR
                    rw [if_neg (by simp [m3]), if_neg (by omega)]
                  refine ⟨?_, ?_, by simp [Tm.Bdd, TmL.Bdd, k3]; omega, by simp [Tm.clean, k4], fun d => ?_⟩
                  · rw [Tm.enc_10, Int.toNat_natCast]
                    exact Has.cons hx (m1.join (by rw [← m2]; exact g1.join (by rw [← g2]; exact k1)))
                  · rw [Tm.enc_10, Int.toNat_natCast, k2, g2, m2]; simp; omega
                  · rw [Tm.wk_10 (hen 10 (by decide) (by decide)) hhd, TmF.wkR, if_neg (by simp [k6]), hnn, hpp]; exact k5 _
        · simp at hr
/-- bytes that were read as a value are its bytes -/
theorem rd_snd {xs : List Int} (hby : By xs) {t : Tm} {p2 a2 : Nat} (h : Sp.rdV xs 64 0 0 = .ok (t, p2) a2) : t.all.e = 0 ∧ t.Bdd ∧ t.clean = t ∧ a2 = t.enc.length ∧ a2 ≤ xs.length ∧ xs.take a2 = t.enc := by
  obtain ⟨h1, h2, h3, h4, h5⟩ := rdV_snd hby 64 _ _ _ _ _ h
  rw [Nat.zero_add] at h2
  subst h2
  refine ⟨(h5 0).1, h3, h4, rfl, by have := h1.le; omega, ?_⟩
  have := h1.take
  simpa using this
end Go.Proofs.Ytmmiiapfefmcjaa

