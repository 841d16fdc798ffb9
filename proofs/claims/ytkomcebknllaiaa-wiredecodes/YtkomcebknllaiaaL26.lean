/- The bytes of a term, plainly, and how many they are at most. -/
import Derived.Test.YtkomcebknllaiaaL25
import Derived.Test.YtkomcebknllaiaaL22
import Derived.Test.YtkomcebknllaiaaL3
import Derived.Test.YtkomcebknllaiaaL21
import Derived.Test.YtkomcebknllaiaaL8
namespace Go.Proofs.Ytkomcebknllaiaa
open Go.RowKit

mutual
/-- the bytes of a term that can be -/
def Tm.enc : Tm → List Int
  | .mk k b i f tx by' rf l fs c vr => k :: (if k = 2 then [if b then 1 else 0] else if k = 3 then Sp.numB (Sp.fold i) else if k = 4 then Sp.bitsTo f 8 else if k = 5 then Sp.txtB tx else if k = 6 then Sp.txtB by' else if k = 7 then Sp.numB rf.toNat else if k = 8 then Sp.numB l.len ++ l.enc else if k = 9 then Sp.numB fs.len ++ fs.enc else if k = 10 then Sp.txtB c ++ (Sp.numB vr.toNat ++ (Sp.numB fs.len ++ fs.enc)) else [])
def TmL.enc : TmL → List Int
  | .nil => []
  | .cons t l => t.enc ++ l.enc
def TmF.enc : TmF → List Int
  | .nil => []
  | .cons n t l => Sp.txtB n ++ (t.enc ++ l.enc)
end
/-- with their number ahead -/
def TmL.encR (l : TmL) : List Int := Sp.numB l.len ++ l.enc
def TmF.encR (l : TmF) : List Int := Sp.numB l.len ++ l.enc

namespace Sp
theorem numB_len : ∀ (k n : Nat), n < 128 ^ (k + 1) → (numB n).length ≤ k + 1
  | 0, n, h => by rw [numB_lt (by omega)]; simp
  | k + 1, n, h => by
    by_cases h1 : n < 128
    · rw [numB_lt h1]; simp
    · rw [numB_ge h1]
      have := numB_len k (n / 128) (by rw [Nat.pow_succ] at h; omega)
      simp; omega
theorem numB_64 {n : Nat} (h : n < 18446744073709551616) : (numB n).length ≤ 10 := numB_len 9 n (by omega)
theorem txtB_len {s : ByteArray} {m : Nat} (h : s.size ≤ m) (hm : m ≤ 65536) : (txtB s).length ≤ 10 + m := by
  rw [txtB, List.length_append, bts_len]
  have := numB_64 (n := s.size) (by omega)
  omega
theorem fold_lt {i : Int} (h0 : -9223372036854775808 ≤ i) (h1 : i ≤ 9223372036854775807) : fold i < 18446744073709551616 := by
  unfold fold; split <;> omega
end Sp

section
variable {b : Bool} {i : Int} {f : Nat} {tx : ByteArray} {by' : ByteArray} {rf : Int} {l : TmL} {fs : TmF} {c : ByteArray} {vr : Int}
theorem Tm.enc_1 : (Tm.mk 1 b i f tx by' rf l fs c vr).enc = [1] := by simp [Tm.enc]
theorem Tm.enc_2 : (Tm.mk 2 b i f tx by' rf l fs c vr).enc = [2] ++ [if b then 1 else 0] := by simp [Tm.enc]
theorem Tm.enc_3 : (Tm.mk 3 b i f tx by' rf l fs c vr).enc = [3] ++ Sp.numB (Sp.fold i) := by simp [Tm.enc]
theorem Tm.enc_4 : (Tm.mk 4 b i f tx by' rf l fs c vr).enc = [4] ++ Sp.bitsTo f 8 := by simp [Tm.enc]
theorem Tm.enc_5 : (Tm.mk 5 b i f tx by' rf l fs c vr).enc = [5] ++ Sp.txtB tx := by simp [Tm.enc]
theorem Tm.enc_6 : (Tm.mk 6 b i f tx by' rf l fs c vr).enc = [6] ++ Sp.txtB by' := by simp [Tm.enc]
theorem Tm.enc_7 : (Tm.mk 7 b i f tx by' rf l fs c vr).enc = [7] ++ Sp.numB rf.toNat := by simp [Tm.enc]
theorem Tm.enc_8 : (Tm.mk 8 b i f tx by' rf l fs c vr).enc = [8] ++ l.encR := by simp [Tm.enc, TmL.encR]
theorem Tm.enc_9 : (Tm.mk 9 b i f tx by' rf l fs c vr).enc = [9] ++ fs.encR := by simp [Tm.enc, TmF.encR]
theorem Tm.enc_10 : (Tm.mk 10 b i f tx by' rf l fs c vr).enc = [10] ++ (Sp.txtB c ++ (Sp.numB vr.toNat ++ fs.encR)) := by simp [Tm.enc, TmF.encR]
end
theorem head_ver {c : ByteArray} {v : Int} (h : Sp.headR c v = 0) : 1 ≤ v ∧ v ≤ 1000 := by
  unfold Sp.headR at h
  split at h
  · omega
  · split at h <;> omega

mutual
theorem Tm.enc_len : (t : Tm) → ∀ n p d, (t.wk n p d).e = 0 → t.Bdd → (t.enc.length : Int) + 60 ≤ 66000 * ((t.wk n p d).p - p)
  | .mk k b i f tx by' rf l fs c vr, n, p, d, h, hb => by
    have ho : Tm.Ok (.mk k b i f tx by' rf l fs c vr) := ⟨n, p, d, h⟩
    obtain ⟨p1, p2, -, -⟩ := ho.parts
    obtain ⟨q1, q2, q3, q4, q5⟩ := ho.bounds
    simp only [Tm.Bdd] at hb
    obtain ⟨bi, bf, br, bv, bl, bfs⟩ := hb
    have e : (Tm.mk k b i f tx by' rf l fs c vr).own p n = 0 := by
      by_cases e : (Tm.mk k b i f tx by' rf l fs c vr).own p n ≠ 0
      · rw [Tm.wk, if_pos e] at h; exact absurd h e
      · exact Decidable.not_not.1 e
    rw [Tm.wk, if_neg (by simp [e])] at h ⊢
    have hk : k = 1 ∨ k = 2 ∨ k = 3 ∨ k = 4 ∨ k = 5 ∨ k = 6 ∨ k = 7 ∨ k = 8 ∨ k = 9 ∨ k = 10 := by omega
    rcases hk with rfl | rfl | rfl | rfl | rfl | rfl | rfl | rfl | rfl | rfl
    · rw [Tm.enc_1]; simp; omega
    · rw [Tm.enc_2]; simp; omega
    · rw [Tm.enc_3]; have := Sp.numB_64 (Sp.fold_lt bi.1 bi.2); simp; omega
    · rw [Tm.enc_4]; simp [Sp.bitsTo_len]; omega
    · rw [Tm.enc_5]; have := Sp.txtB_len (q1 rfl) (Nat.le_refl _); simp; omega
    · rw [Tm.enc_6]; have := Sp.txtB_len (q2 rfl) (Nat.le_refl _); simp; omega
    · rw [Tm.enc_7]; have := Sp.numB_64 (n := rf.toNat) (by omega); simp; omega
    · rw [Tm.enc_8, TmL.encR]
      rw [if_pos rfl] at h ⊢
      have := TmL.enc_len l (n + 1) (p + 1) (max d n) h bl
      have := Sp.numB_64 (n := l.len) (by have := q3 rfl; omega)
      simp only [List.length_append, List.length_cons, List.length_nil]; omega
    · rw [Tm.enc_9, TmF.encR]
      rw [if_neg (by decide), if_pos (by decide)] at h ⊢
      have hq := TmF.nm (q4 (.inl rfl))
      have := TmF.enc_len fs (n + 1) (p + 1) (max d n) h bfs hq.2
      have := Sp.numB_64 (n := fs.len) (by omega)
      simp only [List.length_append, List.length_cons, List.length_nil]; omega
    · rw [Tm.enc_10, TmF.encR]
      rw [if_neg (by decide), if_pos (by decide)] at h ⊢
      have hq := TmF.nm (q4 (.inr rfl))
      have := TmF.enc_len fs (n + 1) (p + 1) (max d n) h bfs hq.2
      have := Sp.numB_64 (n := fs.len) (by omega)
      have hv := head_ver (q5 rfl)
      have := Sp.numB_64 (n := vr.toNat) (by omega)
      have := Sp.txtB_len (head_len (q5 rfl)) (by decide)
      simp only [List.length_append, List.length_cons, List.length_nil]; omega
theorem TmL.enc_len : (l : TmL) → ∀ n p d, (l.wk n p d).e = 0 → l.Bdd → (l.enc.length : Int) ≤ 66000 * ((l.wk n p d).p - p)
  | .nil, n, p, d, h, _ => by simp [TmL.enc, TmL.wk]
  | .cons t l, n, p, d, h, hb => by
    rw [TmL.wk] at h ⊢
    by_cases e : (t.wk n p d).e ≠ 0
    · rw [if_pos e] at h; exact absurd h e
    · rw [if_neg e] at h ⊢
      have h1 := Tm.enc_len t n p d (Decidable.not_not.1 e) hb.1
      have h2 := TmL.enc_len l n _ _ h hb.2
      rw [TmL.enc, List.length_append]; omega
theorem TmF.enc_len : (l : TmF) → ∀ n p d, (l.wk n p d).e = 0 → l.Bdd → l.Nm → (l.enc.length : Int) ≤ 66000 * ((l.wk n p d).p - p)
  | .nil, n, p, d, h, _, _ => by simp [TmF.enc, TmF.wk]
  | .cons m t l, n, p, d, h, hb, hm => by
    rw [TmF.wk] at h ⊢
    by_cases e : (t.wk n p d).e ≠ 0
    · rw [if_pos e] at h; exact absurd h e
    · rw [if_neg e] at h ⊢
      have h1 := Tm.enc_len t n p d (Decidable.not_not.1 e) hb.1
      have h2 := TmF.enc_len l n _ _ h hb.2 hm.head.2
      have := Sp.txtB_len hm.head.1 (by decide)
      rw [TmF.enc, List.length_append, List.length_append]; omega
end
theorem Tm.enc_le {t : Tm} (h : (t.wk 1 0 0).e = 0) (hb : t.Bdd) : t.enc.length ≤ 1081344000 := by
  have h1 := t.enc_len 1 0 0 h hb
  have h2 := (t.wk_bd 1 0 0 (by decide) (by decide)).2.2 h
  omega
end Go.Proofs.Ytkomcebknllaiaa

/- Plain mathematics: what was written is read back. -/
namespace Go.Proofs.Ytkomcebknllaiaa
open Go.RowKit

/-- l stands in xs from place a on -/
def Has (xs : List Int) (a : Nat) (l : List Int) : Prop := ∃ pre rest, xs = pre ++ (l ++ rest) ∧ pre.length = a
theorem Has.app {xs : List Int} {a : Nat} {l m : List Int} (h : Has xs a (l ++ m)) : Has xs a l ∧ Has xs (a + l.length) m := by
  obtain ⟨pre, rest, rfl, rfl⟩ := h
  exact ⟨⟨pre, m ++ rest, by simp, rfl⟩, ⟨pre ++ l, rest, by simp, by simp⟩⟩
theorem Has.get {xs : List Int} {a j : Nat} {l : List Int} {u : Int} (h : Has xs a l) (hu : l[j]? = some u) : xs[a + j]? = some u := by
  obtain ⟨pre, rest, rfl, rfl⟩ := h
  have hj := (List.getElem?_eq_some_iff.1 hu).1
  rw [List.getElem?_append_right (by omega), Nat.add_sub_cancel_left, List.getElem?_append_left hj, hu]
theorem Has.le {xs : List Int} {a : Nat} {l : List Int} (h : Has xs a l) : a + l.length ≤ xs.length := by
  obtain ⟨pre, rest, rfl, rfl⟩ := h
  simp
theorem Has.take {xs : List Int} {a : Nat} {l : List Int} (h : Has xs a l) : (xs.drop a).take l.length = l := by
  obtain ⟨pre, rest, rfl, rfl⟩ := h
  simp

theorem mod_split (m i : Nat) : (m % 128) * 128 ^ i + m / 128 * 128 ^ (i + 1) = m * 128 ^ i := by
  rw [Nat.pow_succ, Nat.mul_comm (128 ^ i) 128, ← Nat.mul_assoc, ← Nat.add_mul, Nat.mul_comm (m / 128) 128, Nat.add_comm, Nat.div_add_mod]
theorem rn_numB {xs : List Int} {s : Nat} : ∀ (k i m acc : Nat), i + k = 10 → m * 128 ^ i < 18446744073709551616 → (0 < i → 0 < m) → Has xs (s + i) (Sp.numB m) → Sp.rn xs s k i acc = .ok (acc + m * 128 ^ i) (s + i + (Sp.numB m).length)
  | 0, i, m, acc, hk, hm, hp, hx => by
    have h10 : i = 10 := by omega
    subst h10
    have := hp (by omega)
    have h2 : 1 * 128 ^ 10 ≤ m * 128 ^ 10 := Nat.mul_le_mul_right _ this
    omega
  | k + 1, i, m, acc, hk, hm, hp, hx => by
    rw [Sp.rn]
    by_cases h1 : m < 128
    · rw [Sp.numB_lt h1] at hx ⊢
      have h0 := hx.get (j := 0) (u := (m : Int)) rfl
      rw [Nat.add_zero] at h0
      rw [h0]
      simp only
      have hbad : ¬ ((i = 9 ∧ (1 : Int) < (m : Int)) ∨ (0 < i ∧ (m : Int) = 0)) := by
        rintro (⟨h9, hlt⟩ | ⟨hi, hz⟩)
        · subst h9
          have h2 : 2 * 128 ^ 9 ≤ m * 128 ^ 9 := Nat.mul_le_mul_right _ (by omega)
          omega
        · have := hp hi; omega
      rw [if_neg hbad, if_pos (by omega), Int.toNat_natCast]
      rfl
    · rw [Sp.numB_ge h1] at hx ⊢
      have h0 := hx.get (j := 0) (u := ((m % 128 + 128 : Nat) : Int)) rfl
      rw [Nat.add_zero] at h0
      rw [h0]
      simp only
      have hi9 : i < 9 := by
        have : i = 9 ∨ i < 9 := by omega
        rcases this with rfl | h
        · have h2 : 2 * 128 ^ 9 ≤ m * 128 ^ 9 := Nat.mul_le_mul_right _ (by omega)
          omega
        · exact h
      rw [if_neg (by omega), if_neg (by omega)]
      have hq : m / 128 * 128 ^ (i + 1) ≤ m * 128 ^ i := by have := mod_split m i; omega
      have ht : Has xs (s + (i + 1)) (Sp.numB (m / 128)) := (Has.app (l := [((m % 128 + 128 : Nat) : Int)]) hx).2
      rw [rn_numB k (i + 1) (m / 128) _ (by omega) (by omega) (fun _ => by omega) ht]
      have e1 : (((m % 128 + 128 : Nat) : Int)).toNat - 128 = m % 128 := by omega
      rw [e1, Nat.add_assoc acc, mod_split]
      rw [List.length_cons, show s + (i + 1) + (Sp.numB (m / 128)).length = s + i + ((Sp.numB (m / 128)).length + 1) by omega]
theorem rn_of {xs : List Int} {s m : Nat} (hm : m < 18446744073709551616) (hx : Has xs s (Sp.numB m)) : Sp.rn xs s 10 0 0 = .ok m (s + (Sp.numB m).length) := by
  have := rn_numB (xs := xs) (s := s) 10 0 m 0 rfl (by simpa using hm) (by omega) (by simpa using hx)
  simpa using this
theorem cnt_of {xs : List Int} {s m start most : Nat} (hm : m ≤ most) (hl : most < 18446744073709551616) (hx : Has xs s (Sp.numB m)) : Sp.cnt xs s start most = .ok m (s + (Sp.numB m).length) := by
  unfold Sp.cnt
  rw [rn_of (by omega) hx]
  simp only
  rw [if_neg (by omega)]
theorem tk_of {xs : List Int} {s : Nat} {l : List Int} {n : Nat} (hn : n = l.length) (hx : Has xs s l) : Sp.tk xs s n = .ok l (s + n) := by
  subst hn
  unfold Sp.tk
  rw [if_pos hx.le, hx.take]
theorem txt_bts (s : ByteArray) : Sp.txt (Sp.bts s) = s := by
  cases s with
  | mk d =>
    simp only [Sp.txt, strOfNums]
    congr 1
    apply Array.ext
    · simp [Sp.bts, ByteArray.size]
    · intro i h1 h2
      simp [Sp.bts, Sp.byte, Array.getD, h2]
theorem unfold_fold (i : Int) : Sp.unfold' (Sp.fold i) = i := by
  unfold Sp.unfold' Sp.fold
  by_cases h : i < 0
  · rw [if_pos h, if_pos (by omega)]; omega
  · rw [if_neg h, if_neg (by omega)]; omega
theorem bits_fold (f : Nat) (hf : f < 18446744073709551616) : ∀ k, k ≤ 8 → (Sp.bitsTo f k).foldl (fun n x => n * 256 + x.toNat) 0 = f / 2 ^ (64 - 8 * k)
  | 0, _ => by simp [Sp.bitsTo]; omega
  | k + 1, hk => by
    rw [Sp.bitsTo, List.foldl_append, bits_fold f hf k (by omega)]
    simp only [List.foldl_cons, List.foldl_nil, Int.toNat_natCast]
    rw [show 64 - 8 * k = (56 - 8 * k) + 8 by omega, show 64 - 8 * (k + 1) = 56 - 8 * k by omega, Nat.pow_add, ← Nat.div_div_eq_div_mul]
    have := Nat.div_add_mod (f / 2 ^ (56 - 8 * k)) 256
    omega
theorem le_of_leS {a b : ByteArray} (h : Sp.leS a b = false) : ¬ Sp.cmpS a b ≤ 0 := by
  unfold Sp.leS at h
  rw [less_of, same_of] at h
  simp only [Bool.or_eq_false_iff, decide_eq_false_iff_not] at h
  have := cmp_vals a.data.toList b.data.toList
  unfold Sp.cmpS at h ⊢
  omega
theorem nm_32 {s : ByteArray} (h : Sp.isNm s = true) : s.size ≤ 32 := by simp [Sp.isNm] at h; omega
theorem rdN_of {xs : List Int} {s start : Nat} {c : ByteArray} (hc : Sp.isNm c = true) (hx : Has xs s (Sp.txtB c)) : Sp.rdN xs s start = .ok (Sp.bts c) (s + (Sp.txtB c).length) := by
  have hl := nm_32 hc
  have h := Has.app (l := Sp.numB c.size) (m := Sp.bts c) hx
  unfold Sp.rdN
  rw [rn_of (by omega) h.1]
  simp only
  rw [if_neg (by omega), tk_of (by rw [Sp.bts_len]) h.2]
  simp only
  rw [txt_bts, if_pos hc]
  simp [Sp.txtB, Sp.bts_len, Nat.add_assoc]

theorem fieldsR_named {l : TmF} (hfr : Sp.fieldsR l.names = 0) : Sp.named (Sp.txt []) l.names = true := by
  unfold Sp.fieldsR at hfr
  split at hfr
  · omega
  · split at hfr
    · rename_i hh; exact hh
    · omega
theorem rdD_of {xs : List Int} {l L : TmF} {start at' pn q : Nat} {step : Nat → Nat → Rs (Tm × Nat)} (hfr : Sp.fieldsR l.names = 0) (hx : Has xs at' l.encR) (hr : Sp.rdF xs start step l.len [] (at' + (Sp.numB l.len).length) pn = .ok (L, q) (at' + (Sp.numB l.len).length + l.enc.length)) : Sp.rdD xs start step at' pn = .ok (L, q) (at' + l.encR.length) := by
  have h3 := Has.app (l := Sp.numB l.len) (m := l.enc) hx
  unfold Sp.rdD
  rw [cnt_of (start := start) (TmF.nm hfr).1 (by decide) h3.1]
  simp only
  rw [hr]
  simp [TmF.encR]; omega

mutual
theorem Tm.rd {xs : List Int} : (t : Tm) → ∀ (f at' pn : Nat) (d : Int), (t.wk (65 - (f : Int)) (pn : Int) d).e = 0 → t.Bdd → Has xs at' t.enc → ∃ q : Nat, (t.wk (65 - (f : Int)) (pn : Int) d).p = (q : Int) ∧ Sp.rdV xs f at' pn = .ok (t.clean, q) (at' + t.enc.length)
  | .mk k b i f' tx by' rf l fs c vr, f, at', pn, d, h, hb, hx => by
    have ho : Tm.Ok (.mk k b i f' tx by' rf l fs c vr) := ⟨_, _, _, h⟩
    obtain ⟨q1, q2, q3, q4, q5⟩ := ho.bounds
    simp only [Tm.Bdd] at hb
    obtain ⟨bi, bf, br, bv, bl, bfs⟩ := hb
    have e : (Tm.mk k b i f' tx by' rf l fs c vr).own (pn : Int) (65 - (f : Int)) = 0 := by
      by_cases e : (Tm.mk k b i f' tx by' rf l fs c vr).own (pn : Int) (65 - (f : Int)) ≠ 0
      · rw [Tm.wk, if_pos e] at h; exact absurd h e
      · exact Decidable.not_not.1 e
    have hen : Sp.ent k (pn : Int) (65 - (f : Int)) = 0 := Tm.own_ent _ _ _ e
    have he := Sp.ent_zero hen
    obtain ⟨g, rfl⟩ : ∃ g, f = g + 1 := ⟨f - 1, by omega⟩
    have hn : (65 - ((g + 1 : Nat) : Int)) + 1 = 65 - (g : Int) := by omega
    have hpp : (pn : Int) + 1 = ((pn + 1 : Nat) : Int) := by omega
    have h0 : xs[at']? = some k := by
      have := hx.get (j := 0) (u := k) (by simp [Tm.enc])
      simpa using this
    rw [Sp.rdV, h0]
    simp only
    rw [if_neg (by omega)]
    have hk : k = 1 ∨ k = 2 ∨ k = 3 ∨ k = 4 ∨ k = 5 ∨ k = 6 ∨ k = 7 ∨ k = 8 ∨ k = 9 ∨ k = 10 := by omega
    rcases hk with rfl | rfl | rfl | rfl | rfl | rfl | rfl | rfl | rfl | rfl
    · refine ⟨pn + 1, by rw [Tm.wk_else hen (by decide) (by decide) (by decide) (by decide) (by decide)]; exact hpp, ?_⟩
      rw [Tm.enc_1]; simp [Sp.rdB, Tm.clean, lfT]
    · refine ⟨pn + 1, by rw [Tm.wk_else hen (by decide) (by decide) (by decide) (by decide) (by decide)]; exact hpp, ?_⟩
      rw [Tm.enc_2] at hx
      have h1 := hx.get (j := 1) (u := if b then 1 else 0) rfl
      rw [Tm.enc_2]
      cases b <;> simp [Sp.rdB, h1, Tm.clean, lfT] at h1 ⊢ <;> simp [h1]
    · refine ⟨pn + 1, by rw [Tm.wk_else hen (by decide) (by decide) (by decide) (by decide) (by decide)]; exact hpp, ?_⟩
      rw [Tm.enc_3] at hx ⊢
      have h1 := rn_of (Sp.fold_lt bi.1 bi.2) (Has.app (l := [(3 : Int)]) hx).2
      simp only [List.length_cons, List.length_nil, Nat.zero_add] at h1
      simp [Sp.rdB, h1, Tm.clean, lfT, unfold_fold, Nat.add_assoc, Nat.add_comm 1]
    · refine ⟨pn + 1, by rw [Tm.wk_else hen (by decide) (by decide) (by decide) (by decide) (by decide)]; exact hpp, ?_⟩
      rw [Tm.enc_4] at hx ⊢
      have h1 := tk_of (n := 8) (Sp.bitsTo_len f' 8).symm (Has.app (l := [(4 : Int)]) hx).2
      simp only [List.length_cons, List.length_nil, Nat.zero_add] at h1
      have h2 := bits_fold f' bf 8 (by omega)
      simp only [Nat.reduceMul, Nat.reduceSub, Nat.pow_zero, Nat.div_one] at h2
      simp [Sp.rdB, h1, h2, Tm.clean, lfT, Sp.bitsTo_len]
    · refine ⟨pn + 1, by rw [Tm.wk_5 hen]; exact hpp, ?_⟩
      rw [Tm.enc_5] at hx ⊢
      have h3 := Has.app (l := Sp.numB tx.size) (m := Sp.bts tx) (Has.app (l := [(5 : Int)]) hx).2
      have h1 := cnt_of (start := at') (q1 rfl) (by decide) h3.1
      have h2 := tk_of (Sp.bts_len tx).symm h3.2
      simp only [List.length_cons, List.length_nil, Nat.zero_add] at h1 h2
      simp [Sp.rdB, h1, h2, Tm.clean, lfT, txt_bts, Sp.txtB, Sp.bts_len]; omega
    · refine ⟨pn + 1, by rw [Tm.wk_6 hen]; exact hpp, ?_⟩
      rw [Tm.enc_6] at hx ⊢
      have h3 := Has.app (l := Sp.numB by'.size) (m := Sp.bts by') (Has.app (l := [(6 : Int)]) hx).2
      have h1 := cnt_of (start := at') (q2 rfl) (by decide) h3.1
      have h2 := tk_of (Sp.bts_len by').symm h3.2
      simp only [List.length_cons, List.length_nil, Nat.zero_add] at h1 h2
      simp [Sp.rdB, h1, h2, Tm.clean, lfT, txt_bts, Sp.txtB, Sp.bts_len]; omega
    · refine ⟨pn + 1, by rw [Tm.wk_else hen (by decide) (by decide) (by decide) (by decide) (by decide)]; exact hpp, ?_⟩
      rw [Tm.enc_7] at hx ⊢
      have h1 := rn_of (m := rf.toNat) (by omega) (Has.app (l := [(7 : Int)]) hx).2
      simp only [List.length_cons, List.length_nil, Nat.zero_add] at h1
      have h2 : ((rf.toNat : Nat) : Int) = rf := by omega
      simp [Sp.rdB, h1, Tm.clean, lfT, Nat.add_assoc, Nat.add_comm 1]
      omega
    · have hw : (Tm.mk 8 b i f' tx by' rf l fs c vr).wk (65 - ((g + 1 : Nat) : Int)) (pn : Int) d = l.wk (65 - (g : Int)) ((pn + 1 : Nat) : Int) (max d (65 - ((g + 1 : Nat) : Int))) := by
        rw [Tm.wk_8 hen, TmL.wkR, if_neg (by have := q3 rfl; omega), hn, hpp]
      rw [hw] at h ⊢
      rw [Tm.enc_8] at hx ⊢
      have h3 := Has.app (l := Sp.numB l.len) (m := l.enc) (Has.app (l := [(8 : Int)]) hx).2
      have h1 := cnt_of (start := at') (q3 rfl) (by decide) h3.1
      obtain ⟨q, hq, hr⟩ := TmL.rd (xs := xs) l g _ (pn + 1) _ h bl h3.2
      simp only [List.length_cons, List.length_nil, Nat.zero_add] at h1 hr
      refine ⟨q, hq, ?_⟩
      simp [Sp.rdB, h1, hr, Tm.clean, TmL.encR]; omega
    · have hfr := q4 (Or.inl rfl)
      have hw : (Tm.mk 9 b i f' tx by' rf l fs c vr).wk (65 - ((g + 1 : Nat) : Int)) (pn : Int) d = fs.wk (65 - (g : Int)) ((pn + 1 : Nat) : Int) (max d (65 - ((g + 1 : Nat) : Int))) := by
        rw [Tm.wk_9 hen, TmF.wkR, if_neg (by simp [hfr]), hn, hpp]
      rw [hw] at h ⊢
      rw [Tm.enc_9] at hx ⊢
      have h3 := (Has.app (l := [(9 : Int)]) hx).2
      obtain ⟨q, hq, hr0⟩ := TmF.rd (xs := xs) fs at' g _ (pn + 1) _ [] (fieldsR_named hfr) h bfs (Has.app (l := Sp.numB fs.len) (m := fs.enc) h3).2
      have hr := rdD_of hfr h3 hr0
      simp only [List.length_cons, List.length_nil, Nat.zero_add] at hr
      refine ⟨q, hq, ?_⟩
      simp [Sp.rdB, hr, Tm.clean]; omega
    · have hfr := q4 (Or.inr rfl)
      have hhd := q5 rfl
      have hv := head_ver hhd
      have hcn : Sp.isNm c = true := by
        unfold Sp.headR at hhd
        split at hhd
        · omega
        · rename_i hc; simpa using hc
      have hw : (Tm.mk 10 b i f' tx by' rf l fs c vr).wk (65 - ((g + 1 : Nat) : Int)) (pn : Int) d = fs.wk (65 - (g : Int)) ((pn + 1 : Nat) : Int) (max d (65 - ((g + 1 : Nat) : Int))) := by
        rw [Tm.wk_10 hen hhd, TmF.wkR, if_neg (by simp [hfr]), hn, hpp]
      rw [hw] at h ⊢
      rw [Tm.enc_10] at hx ⊢
      have h3 := Has.app (Has.app (l := [(10 : Int)]) hx).2
      have h4 := Has.app h3.2
      have h1 := rdN_of (start := at') hcn h3.1
      have h2 := rn_of (m := vr.toNat) (by omega) h4.1
      obtain ⟨q, hq, hr0⟩ := TmF.rd (xs := xs) fs at' g _ (pn + 1) _ [] (fieldsR_named hfr) h bfs (Has.app (l := Sp.numB fs.len) (m := fs.enc) h4.2).2
      have hr := rdD_of hfr h4.2 hr0
      simp only [List.length_cons, List.length_nil, Nat.zero_add] at h1 h2 hr
      refine ⟨q, hq, ?_⟩
      have hv2 : ((vr.toNat : Nat) : Int) = vr := by omega
      have hv3 : ¬ (vr.toNat < 1 ∨ 1000 < vr.toNat) := by omega
      simp only [Sp.rdB, h1, h2, if_neg hv3, hr]
      simp [Tm.clean, txt_bts, hv2]; omega
theorem TmL.rd {xs : List Int} : (l : TmL) → ∀ (f at' pn : Nat) (d : Int), (l.wk (65 - (f : Int)) (pn : Int) d).e = 0 → l.Bdd → Has xs at' l.enc → ∃ q : Nat, (l.wk (65 - (f : Int)) (pn : Int) d).p = (q : Int) ∧ Sp.rdL (Sp.rdV xs f) l.len at' pn = .ok (l.clean, q) (at' + l.enc.length)
  | .nil, f, at', pn, d, h, hb, hx => ⟨pn, by rw [TmL.wk], by simp [TmL.len, Sp.rdL, TmL.clean, TmL.enc]⟩
  | .cons t l, f, at', pn, d, h, hb, hx => by
    rw [TmL.wk] at h
    by_cases e : (t.wk (65 - (f : Int)) (pn : Int) d).e ≠ 0
    · rw [if_pos e] at h; exact absurd h e
    · rw [if_neg e] at h
      rw [TmL.enc] at hx
      have hxx := Has.app hx
      obtain ⟨q, hq, hr⟩ := Tm.rd (xs := xs) t f at' pn d (Decidable.not_not.1 e) hb.1 hxx.1
      rw [hq] at h
      obtain ⟨q2, hq2, hr2⟩ := TmL.rd (xs := xs) l f _ q _ h hb.2 hxx.2
      refine ⟨q2, by rw [TmL.wk, if_neg e, hq]; exact hq2, ?_⟩
      rw [TmL.len, Sp.rdL, hr]
      simp only
      rw [hr2]
      simp [TmL.clean, TmL.enc]; omega
theorem TmF.rd {xs : List Int} : (l : TmF) → ∀ (start f at' pn : Nat) (d : Int) (ahead : List Int), Sp.named (Sp.txt ahead) l.names = true → (l.wk (65 - (f : Int)) (pn : Int) d).e = 0 → l.Bdd → Has xs at' l.enc → ∃ q : Nat, (l.wk (65 - (f : Int)) (pn : Int) d).p = (q : Int) ∧ Sp.rdF xs start (Sp.rdV xs f) l.len ahead at' pn = .ok (l.clean, q) (at' + l.enc.length)
  | .nil, start, f, at', pn, d, ahead, hnm, h, hb, hx => ⟨pn, by rw [TmF.wk], by simp [TmF.len, Sp.rdF, TmF.clean, TmF.enc]⟩
  | .cons n t l, start, f, at', pn, d, ahead, hnm, h, hb, hx => by
    rw [TmF.wk] at h
    by_cases e : (t.wk (65 - (f : Int)) (pn : Int) d).e ≠ 0
    · rw [if_pos e] at h; exact absurd h e
    · rw [if_neg e] at h
      rw [TmF.enc] at hx
      have hx1 := Has.app hx
      have hx2 := Has.app hx1.2
      simp only [TmF.names, Sp.named, Bool.and_eq_true, Bool.not_eq_true'] at hnm
      obtain ⟨⟨hn1, hn2⟩, hn3⟩ := hnm
      obtain ⟨q, hq, hr⟩ := Tm.rd (xs := xs) t f _ pn d (Decidable.not_not.1 e) hb.1 hx2.1
      rw [hq] at h
      obtain ⟨q2, hq2, hr2⟩ := TmF.rd (xs := xs) l start f _ q _ (Sp.bts n) (by rw [txt_bts]; exact hn3) h hb.2 hx2.2
      refine ⟨q2, by rw [TmF.wk, if_neg e, hq]; exact hq2, ?_⟩
      rw [TmF.len, Sp.rdF, rdN_of (start := start) hn1 hx1.1]
      simp only
      rw [if_neg (by rw [txt_bts]; exact le_of_leS hn2), hr]
      simp only
      rw [hr2]
      simp [TmF.clean, TmF.enc, txt_bts]; omega
end
/-- what was written is read back, whatever stands behind it -/
theorem rd_enc (t : Tm) (rest : List Int) (h : t.all.e = 0) (hb : t.Bdd) : ∃ q : Nat, Sp.rdV (t.enc ++ rest) 64 0 0 = .ok (t.clean, q) t.enc.length := by
  obtain ⟨q, _, hr⟩ := Tm.rd (xs := t.enc ++ rest) t 64 0 0 0 h hb ⟨[], rest, rfl, rfl⟩
  exact ⟨q, by simpa using hr⟩
end Go.Proofs.Ytkomcebknllaiaa

/- Plain mathematics: what was read is what is written: the bytes that were read are those of the term, which can be a value. -/
namespace Go.Proofs.Ytkomcebknllaiaa
open Go.RowKit

theorem Has.cons {xs : List Int} {a : Nat} {c : Int} {l : List Int} (hc : xs[a]? = some c) (h : Has xs (a + 1) l) : Has xs a (c :: l) := by
  obtain ⟨pre, rest, rfl, hp⟩ := h
  have h1 : (pre.drop a).length = 1 := by rw [List.length_drop]; omega
  obtain ⟨y, hy⟩ := List.length_eq_one_iff.1 h1
  have h2 : pre = pre.take a ++ [y] := by rw [← hy, List.take_append_drop]
  have h3 : (pre.take a).length = a := by rw [List.length_take]; omega
  refine ⟨pre.take a, rest, ?_, h3⟩
  have h4 : pre[a]? = some y := by
    rw [h2, List.getElem?_append_right (by omega), h3]; simp
  rw [List.getElem?_append_left (by omega), h4] at hc
  injection hc with hc
  subst hc
  conv => lhs; rw [h2]
  simp
theorem Has.join {xs : List Int} {a : Nat} {l m : List Int} (h : Has xs a l) (k : Has xs (a + l.length) m) : Has xs a (l ++ m) := by
  obtain ⟨pre, rest, e1, hp⟩ := h
  obtain ⟨pre2, rest2, e2, hp2⟩ := k
  have h1 : (pre ++ l) ++ rest = pre2 ++ (m ++ rest2) := by rw [← e2, e1]; simp
  obtain ⟨h2, h3⟩ := List.append_inj h1 (by simp; omega)
  exact ⟨pre, rest2, by rw [e2, ← h2]; simp, hp⟩
theorem Has.nil {xs : List Int} {a : Nat} (h : a ≤ xs.length) : Has xs a [] := ⟨xs.take a, xs.drop a, by simp, by rw [List.length_take]; omega⟩
theorem Has.part {xs : List Int} {a n : Nat} (h : a + n ≤ xs.length) : Has xs a ((xs.drop a).take n) := by
  refine ⟨xs.take a, xs.drop (a + n), ?_, by rw [List.length_take]; omega⟩
  rw [← List.drop_drop, List.take_append_drop, List.take_append_drop]

theorem rn_sound {xs : List Int} {s : Nat} (hby : By xs) : ∀ (k i n v a : Nat), i + k = 10 → Sp.rn xs s k i n = .ok v a → ∃ m, v = n + m * 128 ^ i ∧ (0 < i → 0 < m) ∧ Has xs (s + i) (Sp.numB m) ∧ a = s + i + (Sp.numB m).length
  | 0, i, n, v, a, _, h => by simp [Sp.rn] at h
  | k + 1, i, n, v, a, hk, h => by
    rw [Sp.rn] at h
    cases hx : xs[s + i]? with
    | none => rw [hx] at h; simp at h
    | some c =>
      rw [hx] at h
      simp only at h
      have hc := hby.get hx
      have hlt := (List.getElem?_eq_some_iff.1 hx).1
      split at h
      · simp at h
      · rename_i hbad
        split at h
        · rename_i h128
          injection h with e1 e2
          refine ⟨c.toNat, e1.symm, fun hi => by omega, ?_, ?_⟩
          · rw [Sp.numB_lt (by omega)]
            have : ((c.toNat : Nat) : Int) = c := by omega
            rw [this]
            exact Has.cons hx (Has.nil (by omega))
          · rw [Sp.numB_lt (by omega)]; simp; omega
        · rename_i h128
          obtain ⟨m, hv, hp, hh, ha⟩ := rn_sound hby k (i + 1) _ v a (by omega) h
          have hm := hp (by omega)
          have e1 : (m * 128 + (c.toNat - 128)) % 128 = c.toNat - 128 := by omega
          have e2 : (m * 128 + (c.toNat - 128)) / 128 = m := by omega
          have e3 := mod_split (m * 128 + (c.toNat - 128)) i
          rw [e1, e2] at e3
          have e4 : (((m * 128 + (c.toNat - 128)) % 128 + 128 : Nat) : Int) = c := by omega
          refine ⟨m * 128 + (c.toNat - 128), by omega, fun _ => by omega, ?_, ?_⟩
          · rw [Sp.numB_ge (by omega), e4, e2]
            exact Has.cons hx (by rw [Nat.add_assoc]; exact hh)
          · rw [Sp.numB_ge (by omega), e2, List.length_cons]; omega
theorem rn_snd {xs : List Int} {s v a : Nat} (hby : By xs) (h : Sp.rn xs s 10 0 0 = .ok v a) : Has xs s (Sp.numB v) ∧ a = s + (Sp.numB v).length ∧ v < 18446744073709551616 := by
  obtain ⟨m, hv, _, hh, ha⟩ := rn_sound hby 10 0 0 v a rfl h
  simp only [Nat.pow_zero, Nat.mul_one, Nat.zero_add] at hv
  subst hv
  exact ⟨hh, ha, rn_lt hby 10 0 0 v a rfl (by decide) h⟩
theorem bts_txt {l : List Int} (h : By l) : Sp.bts (Sp.txt l) = l := by
  apply List.ext_getElem
  · rw [Sp.bts_len, txt_size]
  · intro j h1 h2
    simp only [Sp.bts, List.getElem_map, List.getElem_range]
    exact byte_txt h2 h
theorem rdN_snd {xs : List Int} {s start : Nat} {l : List Int} {a2 : Nat} (hby : By xs) (h : Sp.rdN xs s start = .ok l a2) : Has xs s (Sp.txtB (Sp.txt l)) ∧ a2 = s + (Sp.txtB (Sp.txt l)).length ∧ Sp.isNm (Sp.txt l) = true := by
  obtain ⟨n, a, hn, h32, hle, rfl, rfl, hnm⟩ := rdN_ok h
  obtain ⟨h1, rfl, _⟩ := rn_snd hby hn
  have hb := hby.part (s + (Sp.numB n).length) n
  have hsz : (Sp.txt ((xs.drop (s + (Sp.numB n).length)).take n)).size = n := by rw [txt_size, part_len hle]
  refine ⟨?_, ?_, hnm⟩
  · rw [Sp.txtB, hsz, bts_txt hb]; exact h1.join (Has.part hle)
  · rw [Sp.txtB, hsz, bts_txt hb, List.length_append, part_len hle]; omega
theorem fold_unfold (n : Nat) : Sp.fold (Sp.unfold' n) = n := by
  unfold Sp.unfold' Sp.fold
  by_cases h : n % 2 = 1
  · rw [if_pos h, if_pos (by omega)]; omega
  · rw [if_neg h, if_neg (by omega)]; omega
theorem unfold_bd {n : Nat} (h : n < 18446744073709551616) : -9223372036854775808 ≤ Sp.unfold' n ∧ Sp.unfold' n ≤ 9223372036854775807 := by
  unfold Sp.unfold'
  by_cases h : n % 2 = 1
  · rw [if_pos h]; omega
  · rw [if_neg h]; omega
theorem cat_take {l : List Int} {k : Nat} {u : Int} (h : l[k]? = some u) : Sp.cat (l.take (k + 1)) = Sp.cat (l.take k) * 256 + u.toNat := by rw [take_succ_get h, cat_snoc]
theorem cat_div {l : List Int} (hb : By l) (hl : l.length = 8) : ∀ j, j ≤ 8 → Sp.cat l / 256 ^ j = Sp.cat (l.take (8 - j))
  | 0, _ => by rw [Nat.pow_zero, Nat.div_one, List.take_of_length_le (by omega)]
  | j + 1, hj => by
    rw [Nat.pow_succ, ← Nat.div_div_eq_div_mul, cat_div hb hl j (by omega)]
    have hk : 7 - j < l.length := by omega
    have hu := List.getElem?_eq_getElem hk
    have hbu := hb.get hu
    rw [show 8 - j = 7 - j + 1 by omega, cat_take hu, show 8 - (j + 1) = 7 - j by omega]
    omega
theorem bits_cat {l : List Int} (hb : By l) (hl : l.length = 8) : ∀ k, k ≤ 8 → Sp.bitsTo (Sp.cat l) k = l.take k
  | 0, _ => rfl
  | k + 1, hk => by
    have hkl : k < l.length := by omega
    have hu := List.getElem?_eq_getElem hkl
    have hbu := hb.get hu
    rw [Sp.bitsTo, bits_cat hb hl k (by omega), take_succ_get hu]
    congr 2
    have e : (2 : Nat) ^ (56 - 8 * k) = 256 ^ (7 - k) := by
      rw [show 56 - 8 * k = 8 * (7 - k) by omega, Nat.pow_mul]
    rw [e, cat_div hb hl (7 - k) (by omega), show 8 - (7 - k) = k + 1 by omega, cat_take hu]
    omega
theorem leS_of {a b : ByteArray} (h : ¬ Sp.cmpS a b ≤ 0) : Sp.leS a b = false := by
  unfold Sp.leS
  rw [less_of, same_of]
  simp only [Bool.or_eq_false_iff, decide_eq_false_iff_not]
  omega

/-- what is known of a term that was read -/
def Sd (xs : List Int) (f at' p : Nat) (t : Tm) (p2 a2 : Nat) : Prop := Has xs at' t.enc ∧ a2 = at' + t.enc.length ∧ t.Bdd ∧ t.clean = t ∧ ∀ d, (t.wk (65 - (f : Int)) (p : Int) d).e = 0 ∧ (t.wk (65 - (f : Int)) (p : Int) d).p = (p2 : Int)
def SdV (xs : List Int) (f : Nat) : Prop := ∀ at' p t p2 a2, Sp.rdV xs f at' p = .ok (t, p2) a2 → Sd xs f at' p t p2 a2
theorem rdL_snd {xs : List Int} {f : Nat} (HV : SdV xs f) : ∀ (n at' p : Nat) (l : TmL) (p2 a2 : Nat), at' ≤ xs.length → Sp.rdL (Sp.rdV xs f) n at' p = .ok (l, p2) a2 → Has xs at' l.enc ∧ a2 = at' + l.enc.length ∧ l.Bdd ∧ l.clean = l ∧ ∀ d, (l.wk (65 - (f : Int)) (p : Int) d).e = 0 ∧ (l.wk (65 - (f : Int)) (p : Int) d).p = (p2 : Int)
  | 0, at', p, l, p2, a2, hl, h => by
    rw [Sp.rdL] at h
    injection h with e1 e2; injection e1 with e3 e4; subst e3; subst e4; subst e2
    exact ⟨by rw [TmL.enc]; exact Has.nil hl, by simp [TmL.enc], trivial, rfl, fun d => by rw [TmL.wk]; exact ⟨rfl, rfl⟩⟩
  | n + 1, at', p, l, p2, a2, hl, h => by
    have hlen := rdL_len _ _ _ _ _ _ h
    cases l with
    | nil => simp [TmL.len] at hlen
    | cons t l =>
      obtain ⟨p1, a1, hs, hq⟩ := rdL_cons h
      obtain ⟨h1, rfl, h3, h4, h5⟩ := HV _ _ _ _ _ hs
      obtain ⟨k1, rfl, k3, k4, k5⟩ := rdL_snd HV n _ _ l p2 a2 h1.le hq
      refine ⟨by rw [TmL.enc]; exact h1.join k1, by rw [TmL.enc, List.length_append]; omega, ⟨h3, k3⟩, by rw [TmL.clean, h4, k4], fun d => ?_⟩
      rw [TmL.wk, if_neg (by simp [(h5 d).1]), (h5 d).2]
      exact k5 _
theorem rdF_snd {xs : List Int} {f : Nat} (hby : By xs) (HV : SdV xs f) (start : Nat) : ∀ (n : Nat) (ahead : List Int) (at' p : Nat) (l : TmF) (p2 a2 : Nat), at' ≤ xs.length → Sp.rdF xs start (Sp.rdV xs f) n ahead at' p = .ok (l, p2) a2 → Has xs at' l.enc ∧ a2 = at' + l.enc.length ∧ l.Bdd ∧ l.clean = l ∧ Sp.named (Sp.txt ahead) l.names = true ∧ ∀ d, (l.wk (65 - (f : Int)) (p : Int) d).e = 0 ∧ (l.wk (65 - (f : Int)) (p : Int) d).p = (p2 : Int)
  | 0, ahead, at', p, l, p2, a2, hl, h => by
    rw [Sp.rdF] at h
    injection h with e1 e2; injection e1 with e3 e4; subst e3; subst e4; subst e2
    exact ⟨by rw [TmF.enc]; exact Has.nil hl, by simp [TmF.enc], trivial, rfl, rfl, fun d => by rw [TmF.wk]; exact ⟨rfl, rfl⟩⟩
  | n + 1, ahead, at', p, l, p2, a2, hl, h => by
    have hlen := rdF_len _ _ _ _ _ _ _ h
    cases l with
    | nil => simp [TmF.len] at hlen
    | cons nm t l =>
      have hcmp : ∀ l0 a0, Sp.rdN xs at' start = .ok l0 a0 → ¬ Sp.cmpS (Sp.txt l0) (Sp.txt ahead) ≤ 0 := fun l0 a0 hN hc => by
        rw [Sp.rdF, hN] at h
        simp only at h
        rw [if_pos hc] at h
        simp at h
      obtain ⟨l0, a0, p1, a1, hN, rfl, hs, hq⟩ := rdF_cons h
      have hc := hcmp l0 a0 hN
      obtain ⟨g1, rfl, g3⟩ := rdN_snd hby hN
      obtain ⟨h1, rfl, h3, h4, h5⟩ := HV _ _ _ _ _ hs
      obtain ⟨k1, rfl, k3, k4, k6, k5⟩ := rdF_snd hby HV start n l0 _ _ l p2 a2 h1.le hq
      refine ⟨by rw [TmF.enc]; exact g1.join (h1.join k1), by rw [TmF.enc, List.length_append, List.length_append]; omega, ⟨h3, k3⟩, by rw [TmF.clean, h4, k4], ?_, fun d => ?_⟩
      · simp only [TmF.names, Sp.named, Bool.and_eq_true, Bool.not_eq_true']
        exact ⟨⟨g3, leS_of hc⟩, k6⟩
      · rw [TmF.wk, if_neg (by simp [(h5 d).1]), (h5 d).2]
        exact k5 _
theorem rdD_snd {xs : List Int} {f : Nat} (hby : By xs) (HV : SdV xs f) (start at' p : Nat) (l : TmF) (p2 a2 : Nat) (h : Sp.rdD xs start (Sp.rdV xs f) at' p = .ok (l, p2) a2) : Has xs at' l.encR ∧ a2 = at' + l.encR.length ∧ l.Bdd ∧ l.clean = l ∧ Sp.fieldsR l.names = 0 ∧ ∀ d, (l.wk (65 - (f : Int)) (p : Int) d).e = 0 ∧ (l.wk (65 - (f : Int)) (p : Int) d).p = (p2 : Int) := by
  unfold Sp.rdD at h
  cases hc : Sp.cnt xs at' start 4096 with
  | bad q e => rw [hc] at h; simp at h
  | ok n a1 =>
    rw [hc] at h
    simp only at h
    obtain ⟨hn, hn4⟩ := cnt_ok hc
    obtain ⟨g1, rfl, _⟩ := rn_snd hby hn
    have hlen := rdF_len _ _ _ _ _ _ _ h
    obtain ⟨k1, rfl, k3, k4, k6, k5⟩ := rdF_snd hby HV start n [] _ _ l p2 a2 g1.le h
    subst hlen
    refine ⟨g1.join k1, by rw [TmF.encR, List.length_append]; omega, k3, k4, ?_, k5⟩
    unfold Sp.fieldsR
    rw [if_neg (by rw [TmF.names_len]; omega)]
    exact if_pos k6
theorem ent_ok {k : Int} {p n : Int} (h1 : 1 ≤ k) (h2 : k ≤ 10) (h3 : p < 16384) (h4 : n ≤ 64) : Sp.ent k p n = 0 := by
  unfold Sp.ent
  rw [if_neg (by omega), if_neg (by omega), if_neg (by omega)]
theorem wk_leaf {k : Int} {b : Bool} {i : Int} {f : Nat} {tx by' : ByteArray} {rf : Int} {l : TmL} {fs : TmF} {c : ByteArray} {v : Int} {n : Int} {p : Nat} (he : Sp.ent k (p : Int) n = 0) (h5 : k ≠ 5) (h6 : k ≠ 6) (h8 : k ≠ 8) (h9 : k ≠ 9) (h10 : k ≠ 10) (d : Int) : ((Tm.mk k b i f tx by' rf l fs c v).wk n (p : Int) d).e = 0 ∧ ((Tm.mk k b i f tx by' rf l fs c v).wk n (p : Int) d).p = ((p + 1 : Nat) : Int) := by
  rw [Tm.wk_else he h5 h6 h8 h9 h10]; exact ⟨rfl, by simp⟩

theorem rdV_snd {xs : List Int} (hby : By xs) : ∀ f, SdV xs f
  | 0 => fun at' p t p2 a2 h => by
    rw [Sp.rdV] at h
    split at h <;> simp at h
  | f + 1 => fun at' p t p2 a2 hr => by
    have HV := rdV_snd hby f
    rw [Sp.rdV] at hr
    cases hx : xs[at']? with
    | none => rw [hx] at hr; simp at hr
    | some k =>
      rw [hx] at hr
      simp only at hr
      have hlt := (List.getElem?_eq_some_iff.1 hx).1
      by_cases hp : 16384 ≤ p
      · rw [if_pos hp] at hr; simp at hr
      · rw [if_neg hp] at hr
        have hen : ∀ k : Int, 1 ≤ k → k ≤ 10 → Sp.ent k (p : Int) (65 - ((f + 1 : Nat) : Int)) = 0 := fun k h1 h2 => ent_ok h1 h2 (by omega) (by omega)
        have hnn : (65 - ((f + 1 : Nat) : Int)) + 1 = 65 - (f : Int) := by omega
        have hpp : (p : Int) + 1 = ((p + 1 : Nat) : Int) := by omega
        unfold Sp.rdB at hr
        split at hr
        · rename_i hk; subst hk
          injection hr with e1 e2; injection e1 with e3 e4; subst e2; subst e3; subst e4
          refine ⟨?_, ?_, by simp [lfT, Tm.Bdd, TmL.Bdd, TmF.Bdd], by simp [lfT, Tm.clean], wk_leaf (hen 1 (by decide) (by decide)) (by decide) (by decide) (by decide) (by decide) (by decide)⟩
          · rw [lfT, Tm.enc_1]; exact Has.cons hx (Has.nil (by omega))
          · rw [lfT, Tm.enc_1]; simp
        split at hr
        · rename_i hk; subst hk
          cases hc : xs[at' + 1]? with
          | none => rw [hc] at hr; simp at hr
          | some c =>
            have hcb := hby.get hc
            have hlt2 := (List.getElem?_eq_some_iff.1 hc).1
            rw [hc] at hr
            simp only at hr
            split at hr
            · simp at hr
            · rename_i hc1
              injection hr with e1 e2; injection e1 with e3 e4; subst e2; subst e3; subst e4
              refine ⟨?_, ?_, by simp [lfT, Tm.Bdd, TmL.Bdd, TmF.Bdd], by simp [lfT, Tm.clean], wk_leaf (hen 2 (by decide) (by decide)) (by decide) (by decide) (by decide) (by decide) (by decide)⟩
              · rw [lfT, Tm.enc_2]
                have : (if (c == 1) = true then (1 : Int) else 0) = c := by
                  have : c = 0 ∨ c = 1 := by omega
                  rcases this with rfl | rfl <;> rfl
                rw [this]
                exact Has.cons hx (Has.cons hc (Has.nil (by omega)))
              · rw [lfT, Tm.enc_2]; simp
        split at hr
        · rename_i hk; subst hk
          cases hn : Sp.rn xs (at' + 1) 10 0 0 with
          | bad q e => rw [hn] at hr; simp at hr
          | ok n a' =>
            rw [hn] at hr
            obtain ⟨g1, g2, g3⟩ := rn_snd hby hn
            injection hr with e1 e2; injection e1 with e3 e4; subst e2; subst e3; subst e4
            refine ⟨?_, ?_, by simp [lfT, Tm.Bdd, TmL.Bdd, TmF.Bdd]; exact unfold_bd g3, by simp [lfT, Tm.clean], wk_leaf (hen 3 (by decide) (by decide)) (by decide) (by decide) (by decide) (by decide) (by decide)⟩
            · rw [lfT, Tm.enc_3, fold_unfold]; exact Has.cons hx g1
            · rw [lfT, Tm.enc_3, fold_unfold, g2, List.length_append]; simp; omega
        split at hr
        · rename_i hk; subst hk
          unfold Sp.tk at hr
          by_cases hl : at' + 1 + 8 ≤ xs.length
          · rw [if_pos hl] at hr
            injection hr with e1 e2; injection e1 with e3 e4; subst e2; subst e3; subst e4
            have hb8 := hby.part (at' + 1) 8
            have hl8 : ((xs.drop (at' + 1)).take 8).length = 8 := part_len hl
            have hcl := cat_lt _ hb8
            rw [hl8] at hcl
            have hbc := (bits_cat hb8 hl8 8 (Nat.le_refl _)).trans (List.take_of_length_le (Nat.le_of_eq hl8))
            refine ⟨?_, ?_, by simp [lfT, Tm.Bdd, TmL.Bdd, TmF.Bdd]; exact hcl, by simp [lfT, Tm.clean], wk_leaf (hen 4 (by decide) (by decide)) (by decide) (by decide) (by decide) (by decide) (by decide)⟩
            · rw [lfT, Tm.enc_4]
              show Has xs at' (4 :: Sp.bitsTo (Sp.cat ((xs.drop (at' + 1)).take 8)) 8)
              rw [hbc]
              exact Has.cons hx (Has.part hl)
            · rw [lfT, Tm.enc_4]; simp [Sp.bitsTo_len]
          · rw [if_neg hl] at hr; simp at hr
        split at hr
        · rename_i hk
          cases hn : Sp.cnt xs (at' + 1) at' 65536 with
          | bad q e => rw [hn] at hr; simp at hr
          | ok n a' =>
            obtain ⟨hrn, hn4⟩ := cnt_ok hn
            obtain ⟨g1, g2, g3⟩ := rn_snd hby hrn
            rw [hn] at hr
            simp only at hr
            unfold Sp.tk at hr
            by_cases hl : a' + n ≤ xs.length
            · rw [if_pos hl] at hr
              injection hr with e1 e2; injection e1 with e3 e4; subst e2; subst e3; subst e4
              have hbn := hby.part a' n
              have hln : ((xs.drop a').take n).length = n := part_len hl
              have hsz : (Sp.txt ((xs.drop a').take n)).size = n := by rw [txt_size, hln]
              have htx : Sp.txtB (Sp.txt ((xs.drop a').take n)) = Sp.numB n ++ (xs.drop a').take n := by rw [Sp.txtB, hsz, bts_txt hbn]
              have hpt : Has xs (at' + 1) (Sp.numB n ++ (xs.drop a').take n) := g1.join (by rw [← g2]; exact Has.part hl)
              rcases hk with rfl | rfl
              · refine ⟨?_, ?_, by simp [lfT, Tm.Bdd, TmL.Bdd, TmF.Bdd], by simp [lfT, Tm.clean], fun d => ?_⟩
                · rw [lfT, Tm.enc_5, if_pos rfl, htx]; exact Has.cons hx hpt
                · rw [lfT, Tm.enc_5, if_pos rfl, htx]; simp [hln]; omega
                · rw [lfT, Tm.wk_5 (hen 5 (by decide) (by decide)), if_pos rfl, hsz]
                  exact ⟨by simp [Sp.len]; omega, by simp⟩
              · refine ⟨?_, ?_, by simp [lfT, Tm.Bdd, TmL.Bdd, TmF.Bdd], by simp [lfT, Tm.clean], fun d => ?_⟩
                · rw [lfT, Tm.enc_6, if_pos rfl, htx]; exact Has.cons hx hpt
                · rw [lfT, Tm.enc_6, if_pos rfl, htx]; simp [hln]; omega
                · rw [lfT, Tm.wk_6 (hen 6 (by decide) (by decide)), if_pos rfl, hsz]
                  exact ⟨by simp [Sp.len]; omega, by simp⟩
            · rw [if_neg hl] at hr; simp at hr
        split at hr
        · rename_i hk; subst hk
          cases hn : Sp.rn xs (at' + 1) 10 0 0 with
          | bad q e => rw [hn] at hr; simp at hr
          | ok n a' =>
            rw [hn] at hr
            obtain ⟨g1, g2, g3⟩ := rn_snd hby hn
            injection hr with e1 e2; injection e1 with e3 e4; subst e2; subst e3; subst e4
            refine ⟨?_, ?_, by simp [lfT, Tm.Bdd, TmL.Bdd, TmF.Bdd]; omega, by simp [lfT, Tm.clean], wk_leaf (hen 7 (by decide) (by decide)) (by decide) (by decide) (by decide) (by decide) (by decide)⟩
            · rw [lfT, Tm.enc_7, Int.toNat_natCast]; exact Has.cons hx g1
            · rw [lfT, Tm.enc_7, Int.toNat_natCast, g2, List.length_append]; simp; omega
        split at hr
        · rename_i hk; subst hk
          cases hn : Sp.cnt xs (at' + 1) at' 4096 with
          | bad q e => rw [hn] at hr; simp at hr
          | ok n a' =>
            obtain ⟨hrn, hn4⟩ := cnt_ok hn
            obtain ⟨g1, g2, g3⟩ := rn_snd hby hrn
            rw [hn] at hr
            simp only at hr
            cases hL : Sp.rdL (Sp.rdV xs f) n a' (p + 1) with
            | bad q e => rw [hL] at hr; simp at hr
            | ok lp a3 =>
              obtain ⟨l, p3⟩ := lp
              rw [hL] at hr
              have hlen := rdL_len _ _ _ _ _ _ hL
              obtain ⟨k1, k2, k3, k4, k5⟩ := rdL_snd HV n a' (p + 1) l p3 a3 (by rw [g2]; exact g1.le) hL
              injection hr with e1 e2; injection e1 with e3 e4; subst e2; subst e3; subst e4
              refine ⟨?_, ?_, by simp [Tm.Bdd, TmF.Bdd, k3], by simp [Tm.clean, k4], fun d => ?_⟩
              · rw [Tm.enc_8, TmL.encR, hlen]; exact Has.cons hx (g1.join (by rw [← g2]; exact k1))
              · rw [Tm.enc_8, TmL.encR, hlen, k2, g2]; simp; omega
              · rw [Tm.wk_8 (hen 8 (by decide) (by decide)), TmL.wkR, if_neg (by omega), hnn, hpp]; exact k5 _
        split at hr
        · rename_i hk; subst hk
          cases hL : Sp.rdD xs at' (Sp.rdV xs f) (at' + 1) (p + 1) with
          | bad q e => rw [hL] at hr; simp at hr
          | ok lp a3 =>
            obtain ⟨l, p3⟩ := lp
            rw [hL] at hr
            obtain ⟨k1, k2, k3, k4, k6, k5⟩ := rdD_snd hby HV at' (at' + 1) (p + 1) l p3 a3 hL
            injection hr with e1 e2; injection e1 with e3 e4; subst e2; subst e3; subst e4
            refine ⟨?_, ?_, by simp [Tm.Bdd, TmL.Bdd, k3], by simp [Tm.clean, k4], fun d => ?_⟩
            · rw [Tm.enc_9]; exact Has.cons hx k1
            · rw [Tm.enc_9, k2]; simp; omega
            · rw [Tm.wk_9 (hen 9 (by decide) (by decide)), TmF.wkR, if_neg (by simp [k6]), hnn, hpp]; exact k5 _
        split at hr
        · rename_i hk; subst hk
          cases hN : Sp.rdN xs (at' + 1) at' with
          | bad q e => rw [hN] at hr; simp at hr
          | ok c a' =>
            obtain ⟨m1, m2, m3⟩ := rdN_snd hby hN
            rw [hN] at hr
            simp only at hr
            cases hv : Sp.rn xs a' 10 0 0 with
            | bad q e => rw [hv] at hr; simp at hr
            | ok v a4 =>
              obtain ⟨g1, g2, g3⟩ := rn_snd hby hv
              rw [hv] at hr
              simp only at hr
              split at hr
              · simp at hr
              · rename_i hv1
                cases hL : Sp.rdD xs at' (Sp.rdV xs f) a4 (p + 1) with
                | bad q e => rw [hL] at hr; simp at hr
                | ok lp a3 =>
                  obtain ⟨l, p3⟩ := lp
                  rw [hL] at hr
                  obtain ⟨k1, k2, k3, k4, k6, k5⟩ := rdD_snd hby HV at' a4 (p + 1) l p3 a3 hL
                  injection hr with e1 e2; injection e1 with e3 e4; subst e2; subst e3; subst e4
                  have hhd : Sp.headR (Sp.txt c) (v : Int) = 0 := by
                    unfold Sp.headR
                    rw [if_neg (by simp [m3]), if_neg (by omega)]
                  refine ⟨?_, ?_, by simp [Tm.Bdd, TmL.Bdd, k3]; omega, by simp [Tm.clean, k4], fun d => ?_⟩
                  · rw [Tm.enc_10, Int.toNat_natCast]
                    exact Has.cons hx (m1.join (by rw [← m2]; exact g1.join (by rw [← g2]; exact k1)))
                  · rw [Tm.enc_10, Int.toNat_natCast, k2, g2, m2]; simp; omega
                  · rw [Tm.wk_10 (hen 10 (by decide) (by decide)) hhd, TmF.wkR, if_neg (by simp [k6]), hnn, hpp]; exact k5 _
        · simp at hr
/-- bytes that were read as a value are its bytes -/
theorem rd_snd {xs : List Int} (hby : By xs) {t : Tm} {p2 a2 : Nat} (h : Sp.rdV xs 64 0 0 = .ok (t, p2) a2) : t.all.e = 0 ∧ t.Bdd ∧ t.clean = t ∧ a2 = t.enc.length ∧ a2 ≤ xs.length ∧ xs.take a2 = t.enc := by
  obtain ⟨h1, h2, h3, h4, h5⟩ := rdV_snd hby 64 _ _ _ _ _ h
  rw [Nat.zero_add] at h2
  subst h2
  refine ⟨(h5 0).1, h3, h4, rfl, by have := h1.le; omega, ?_⟩
  have := h1.take
  simpa using this
end Go.Proofs.Ytkomcebknllaiaa
