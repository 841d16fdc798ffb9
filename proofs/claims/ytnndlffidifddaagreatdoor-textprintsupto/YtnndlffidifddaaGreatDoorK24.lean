/- The text of a term, plainly, on one line or on many, and how long it is at most. -/
import Derived.Test.YtnndlffidifddaaGreatDoorK15
import Derived.Test.YtnndlffidifddaaGreatDoorK10
import Derived.Test.YtnndlffidifddaaGreatDoorK23
import Derived.Lib.ItoaLen
namespace Go.Proofs.YtnndlffidifddaaGreatDoor
open Go.RowKit

def Sp.comma (ln : Bool) : List UInt8 := if ln then [44] else [44, 32]
/-- the text of a term that has no terms in it -/
def Sp.leaf (k : Int) (b : Bool) (i : Int) (f : Nat) (tx by' : ByteArray) (rf : Int) : List UInt8 :=
  if k = 2 then (if b then [116, 114, 117, 101] else [102, 97, 108, 115, 101]) else if k = 3 then Lib.itoa i else if k = 4 then Sp.floatT f else if k = 5 then Sp.quote tx else if k = 6 then Sp.hexs by' by'.size else if k = 7 then 64 :: Lib.decDigits rf.toNat else [110, 105, 108]
/-- what stands ahead of the closing bracket -/
def Sp.tail (ln : Bool) (n d : Nat) : List UInt8 := if n = 0 then [] else Sp.brk ln d
mutual
/-- the text of a term, so many brackets being open -/
def Tm.txt (ln : Bool) : Tm → Nat → List UInt8
  | .mk k b i f tx by' rf l fs c vr, d =>
    if k = 8 then 91 :: (l.txt ln (d + 1) true ++ (Sp.tail ln l.len d ++ [93]))
    else if k = 9 then 123 :: (fs.txt ln (d + 1) true ++ (Sp.tail ln fs.len d ++ [125]))
    else if k = 10 then c.data.toList ++ (47 :: Lib.decDigits vr.toNat) ++ (123 :: (fs.txt ln (d + 1) true ++ (Sp.tail ln fs.len d ++ [125])))
    else Sp.leaf k b i f tx by' rf
def TmL.txt (ln : Bool) : TmL → Nat → Bool → List UInt8
  | .nil, _, _ => []
  | .cons t l, d, fst => (if fst then [] else Sp.comma ln) ++ (Sp.brk ln d ++ (t.txt ln d ++ l.txt ln d false))
def TmF.txt (ln : Bool) : TmF → Nat → Bool → List UInt8
  | .nil, _, _ => []
  | .cons n t l, d, fst => (if fst then [] else Sp.comma ln) ++ (Sp.brk ln d ++ ((n.data.toList ++ [58, 32]) ++ (t.txt ln d ++ l.txt ln d false)))
end
/-- a list and its brackets -/
def TmL.txtB (l : TmL) (ln : Bool) (d : Nat) : List UInt8 := 91 :: (l.txt ln (d + 1) true ++ (Sp.tail ln l.len d ++ [93]))
def TmF.txtB (l : TmF) (ln : Bool) (d : Nat) : List UInt8 := 123 :: (l.txt ln (d + 1) true ++ (Sp.tail ln l.len d ++ [125]))

section
variable {ln : Bool} {d : Nat} {b : Bool} {i : Int} {f : Nat} {tx : ByteArray} {by' : ByteArray} {rf : Int} {l : TmL} {fs : TmF} {c : ByteArray} {vr : Int}
theorem Tm.txt_1 : (Tm.mk 1 b i f tx by' rf l fs c vr).txt ln d = [110, 105, 108] := by rw [Tm.txt, if_neg (by decide), if_neg (by decide), if_neg (by decide)]; rfl
theorem Tm.txt_2 : (Tm.mk 2 b i f tx by' rf l fs c vr).txt ln d = if b then [116, 114, 117, 101] else [102, 97, 108, 115, 101] := by rw [Tm.txt, if_neg (by decide), if_neg (by decide), if_neg (by decide)]; rfl
theorem Tm.txt_3 : (Tm.mk 3 b i f tx by' rf l fs c vr).txt ln d = Lib.itoa i := by rw [Tm.txt, if_neg (by decide), if_neg (by decide), if_neg (by decide)]; rfl
theorem Tm.txt_4 : (Tm.mk 4 b i f tx by' rf l fs c vr).txt ln d = Sp.floatT f := by rw [Tm.txt, if_neg (by decide), if_neg (by decide), if_neg (by decide)]; rfl
theorem Tm.txt_5 : (Tm.mk 5 b i f tx by' rf l fs c vr).txt ln d = Sp.quote tx := by rw [Tm.txt, if_neg (by decide), if_neg (by decide), if_neg (by decide)]; rfl
theorem Tm.txt_6 : (Tm.mk 6 b i f tx by' rf l fs c vr).txt ln d = Sp.hexs by' by'.size := by rw [Tm.txt, if_neg (by decide), if_neg (by decide), if_neg (by decide)]; rfl
theorem Tm.txt_7 : (Tm.mk 7 b i f tx by' rf l fs c vr).txt ln d = 64 :: Lib.decDigits rf.toNat := by rw [Tm.txt, if_neg (by decide), if_neg (by decide), if_neg (by decide)]; rfl
theorem Tm.txt_8 : (Tm.mk 8 b i f tx by' rf l fs c vr).txt ln d = l.txtB ln d := by rw [Tm.txt, if_pos rfl]; rfl
theorem Tm.txt_9 : (Tm.mk 9 b i f tx by' rf l fs c vr).txt ln d = fs.txtB ln d := by rw [Tm.txt, if_neg (by decide), if_pos rfl]; rfl
theorem Tm.txt_10 : (Tm.mk 10 b i f tx by' rf l fs c vr).txt ln d = c.data.toList ++ (47 :: Lib.decDigits vr.toNat) ++ fs.txtB ln d := by rw [Tm.txt, if_neg (by decide), if_neg (by decide), if_pos rfl]; rfl
end

theorem Sp.dec_len {n : Nat} (h : n < 18446744073709551616) : (Lib.decDigits n).length ≤ 20 := by rw [Lib.decDigits_length]; exact Lib.nDigits_le20 _ h
theorem Sp.trim_len (l : List UInt8) : (Sp.trim l).length ≤ l.length := by
  unfold Sp.trim
  rw [List.length_reverse]
  exact Nat.le_trans (List.Sublist.length_le (List.dropWhile_sublist _)) (by simp)
theorem Sp.fracT_len (m : Nat) : (Sp.fracT m).length ≤ 14 := by
  unfold Sp.fracT
  split
  · simp
  · have := Sp.trim_len (Sp.hexN m 13)
    rw [Sp.hexN_len] at this
    simp; omega
theorem Sp.expT_len (e : Int) (h : e.natAbs < 18446744073709551616) : (Sp.expT e).length ≤ 22 := by
  unfold Sp.expT
  have := Sp.dec_len h
  simp only [List.length_cons, List.length_append]
  split <;> simp <;> omega
theorem Sp.signT_len (b : Nat) : (Sp.signT b).length ≤ 1 := by unfold Sp.signT; split <;> simp
theorem Sp.floatT_len (b : Nat) : (Sp.floatT b).length ≤ 100 := by
  unfold Sp.floatT
  have h1 := Sp.signT_len b
  have h2 := Sp.fexp_lt b
  split
  · split
    · split <;> simp
    · simp [Sp.hexN_len]
  · split
    · split
      · simp; omega
      · have h3 := Sp.fracT_len (Sp.fman b * 2 ^ Sp.up (Sp.fman b) - 2 ^ 52)
        have h4 := Sp.expT_len (-1022 - (Sp.up (Sp.fman b) : Int)) (by have : Sp.up (Sp.fman b) ≤ 52 := by unfold Sp.up; omega
                                                                       omega)
        simp only [List.length_append, List.length_cons, List.length_nil]; omega
    · have h3 := Sp.fracT_len (Sp.fman b)
      have h4 := Sp.expT_len ((Sp.fexp b : Int) - 1023) (by omega)
      simp only [List.length_append, List.length_cons, List.length_nil]; omega
theorem Sp.quote_len (s : ByteArray) : (Sp.quote s).length ≤ 4 * s.size + 2 := by
  have := Sp.escs_len s s.size (Nat.le_refl _)
  simp [Sp.quote]; omega
theorem Sp.hexs_len (s : ByteArray) : ∀ k, k ≤ s.size → (Sp.hexs s k).length = 2 * k + 1
  | 0, _ => by simp [Sp.hexs]
  | k + 1, h => by rw [Sp.hexs_succ s k (by omega), List.length_append, Sp.hexs_len s k (by omega)]; simp [Sp.hex2]; omega
theorem Sp.brk_len (ln : Bool) (d : Nat) : (Sp.brk ln d).length ≤ 1 + 2 * d := by unfold Sp.brk; split <;> simp; omega
theorem Sp.comma_len (ln : Bool) : (Sp.comma ln).length ≤ 2 := by unfold Sp.comma; split <;> simp
theorem Sp.tail_len (ln : Bool) (n d : Nat) : (Sp.tail ln n d).length ≤ 1 + 2 * d := by unfold Sp.tail; split; · simp
                                                                                        · exact Sp.brk_len _ _

/-- what can be lies at most 64 deep -/
theorem Tm.Ok.deep {t : Tm} {n p d : Int} (h : (t.wk n p d).e = 0) : n ≤ 64 := by
  cases t with
  | mk k b i f tx by' rf l fs c vr =>
    have e : (Tm.mk k b i f tx by' rf l fs c vr).own p n = 0 := by
      by_cases e : (Tm.mk k b i f tx by' rf l fs c vr).own p n ≠ 0
      · rw [Tm.wk, if_pos e] at h; exact absurd h e
      · exact Decidable.not_not.1 e
    exact (Sp.ent_zero (Tm.own_ent _ _ _ e)).2.2.2

theorem ver_head {c : ByteArray} {v : Int} (h : Sp.headR c v = 0) : 1 ≤ v ∧ v ≤ 1000 := by
  unfold Sp.headR at h
  split at h
  · omega
  · split at h <;> omega
mutual
theorem Tm.txt_len (ln : Bool) : (t : Tm) → ∀ (n : Int) p d (q : Nat), (t.wk n p d).e = 0 → t.Bdd → (q : Int) ≤ n → ((t.txt ln q).length : Int) + 400 ≤ 300000 * ((t.wk n p d).p - p)
  | .mk k b i f tx by' rf l fs c vr, n, p, d, q, h, hb, hq0 => by
    have ho : Tm.Ok (.mk k b i f tx by' rf l fs c vr) := ⟨n, p, d, h⟩
    obtain ⟨p1, p2, -, -⟩ := ho.parts
    obtain ⟨q1, q2, q3, q4, q5⟩ := ho.bounds
    simp only [Tm.Bdd] at hb
    obtain ⟨bi, bf, br, bv, bl, bfs⟩ := hb
    have e : (Tm.mk k b i f tx by' rf l fs c vr).own p n = 0 := by
      by_cases e : (Tm.mk k b i f tx by' rf l fs c vr).own p n ≠ 0
      · rw [Tm.wk, if_pos e] at h; exact absurd h e
      · exact Decidable.not_not.1 e
    have hn := Sp.ent_zero (Tm.own_ent _ _ _ e)
    rw [Tm.wk, if_neg (by simp [e])] at h ⊢
    have hk : k = 1 ∨ k = 2 ∨ k = 3 ∨ k = 4 ∨ k = 5 ∨ k = 6 ∨ k = 7 ∨ k = 8 ∨ k = 9 ∨ k = 10 := by omega
    rcases hk with rfl | rfl | rfl | rfl | rfl | rfl | rfl | rfl | rfl | rfl
    · rw [Tm.txt_1]; simp; omega
    · rw [Tm.txt_2]; cases b <;> simp <;> omega
    · rw [Tm.txt_3]; have := Lib.itoa_length_le i bi.1 bi.2; simp; omega
    · rw [Tm.txt_4]; have := Sp.floatT_len f; simp; omega
    · rw [Tm.txt_5]; have := Sp.quote_len tx; have := q1 rfl; simp; omega
    · rw [Tm.txt_6]; have := Sp.hexs_len by' by'.size (Nat.le_refl _); have := q2 rfl; simp; omega
    · rw [Tm.txt_7]; have := Sp.dec_len (n := rf.toNat) (by omega); simp; omega
    · rw [Tm.txt_8, TmL.txtB]
      rw [if_pos rfl] at h ⊢
      have := TmL.txt_len ln l (n + 1) (p + 1) (max d n) (q + 1) true h bl (by omega)
      have := Sp.tail_len ln l.len q
      simp only [List.length_append, List.length_cons, List.length_nil]; omega
    · rw [Tm.txt_9, TmF.txtB]
      rw [if_neg (by decide), if_pos (by decide)] at h ⊢
      have hq := TmF.nm (q4 (.inl rfl))
      have := TmF.txt_len ln fs (n + 1) (p + 1) (max d n) (q + 1) true h bfs hq.2 (by omega)
      have := Sp.tail_len ln fs.len q
      simp only [List.length_append, List.length_cons, List.length_nil]; omega
    · rw [Tm.txt_10, TmF.txtB]
      rw [if_neg (by decide), if_pos (by decide)] at h ⊢
      have hq := TmF.nm (q4 (.inr rfl))
      have := TmF.txt_len ln fs (n + 1) (p + 1) (max d n) (q + 1) true h bfs hq.2 (by omega)
      have := Sp.tail_len ln fs.len q
      have hv := ver_head (q5 rfl)
      have := Sp.dec_len (n := vr.toNat) (by omega)
      have hc := head_len (q5 rfl)
      have hc2 : c.data.toList.length = c.size := by rw [Array.length_toList]; rfl
      simp only [List.length_append, List.length_cons, List.length_nil, hc2]; omega
theorem TmL.txt_len (ln : Bool) : (l : TmL) → ∀ (n : Int) p d (q : Nat) fst, (l.wk n p d).e = 0 → l.Bdd → (q : Int) ≤ n → ((l.txt ln q fst).length : Int) ≤ 300000 * ((l.wk n p d).p - p)
  | .nil, n, p, d, q, fst, h, _, _ => by simp [TmL.txt, TmL.wk]
  | .cons t l, n, p, d, q, fst, h, hb, hq => by
    rw [TmL.wk] at h ⊢
    by_cases e : (t.wk n p d).e ≠ 0
    · rw [if_pos e] at h; exact absurd h e
    · rw [if_neg e] at h ⊢
      have h0 := Tm.Ok.deep (Decidable.not_not.1 e)
      have h1 := Tm.txt_len ln t n p d q (Decidable.not_not.1 e) hb.1 hq
      have h2 := TmL.txt_len ln l n _ _ q false h hb.2 hq
      have h3 := Sp.brk_len ln q
      have h4 : (if fst then ([] : List UInt8) else Sp.comma ln).length ≤ 2 := by split; · simp
                                                                                  · exact Sp.comma_len _
      rw [TmL.txt]
      simp only [List.length_append]; omega
theorem TmF.txt_len (ln : Bool) : (l : TmF) → ∀ (n : Int) p d (q : Nat) fst, (l.wk n p d).e = 0 → l.Bdd → l.Nm → (q : Int) ≤ n → ((l.txt ln q fst).length : Int) ≤ 300000 * ((l.wk n p d).p - p)
  | .nil, n, p, d, q, fst, h, _, _, _ => by simp [TmF.txt, TmF.wk]
  | .cons m t l, n, p, d, q, fst, h, hb, hm, hq => by
    rw [TmF.wk] at h ⊢
    by_cases e : (t.wk n p d).e ≠ 0
    · rw [if_pos e] at h; exact absurd h e
    · rw [if_neg e] at h ⊢
      have h0 := Tm.Ok.deep (Decidable.not_not.1 e)
      have h1 := Tm.txt_len ln t n p d q (Decidable.not_not.1 e) hb.1 hq
      have h2 := TmF.txt_len ln l n _ _ q false h hb.2 hm.head.2 hq
      have h3 := Sp.brk_len ln q
      have h4 : (if fst then ([] : List UInt8) else Sp.comma ln).length ≤ 2 := by split; · simp
                                                                                  · exact Sp.comma_len _
      have h5 := hm.head.1
      have h6 : m.data.toList.length = m.size := by rw [Array.length_toList]; rfl
      rw [TmF.txt]
      simp only [List.length_append, List.length_cons, List.length_nil, h6]; omega
end
theorem Tm.txt_le {t : Tm} (h : (t.wk 1 0 0).e = 0) (hb : t.Bdd) (ln : Bool) : (t.txt ln 0).length ≤ 4915200000 := by
  have h1 := t.txt_len ln 1 0 0 0 h hb (by decide)
  have h2 := (t.wk_bd 1 0 0 (by decide) (by decide)).2.2 h
  omega
end Go.Proofs.YtnndlffidifddaaGreatDoor

