/- The bytes of a term, plainly, and how many they are at most. -/
import Derived.Test.YtadcbhdhgobknaaL25
import Derived.Test.YtadcbhdhgobknaaL14
namespace Go.Proofs.Ytadcbhdhgobknaa
open Go.RowKit

mutual
/-- the bytes of a term that can be -/
def Tm.enc : Tm → List Int
  | .mk k b i f tx by' rf l fs c vr => k :: (if k = 2 then [if b then 1 else 0] else if k = 3 then Sp.numB (Sp.fold i) else if k = 4 then Sp.bitsTo f 8 else if k = 5 then Sp.txtB tx else if k = 6 then Sp.txtB by' else if k = 7 then Sp.numB rf.toNat else if k = 8 then Sp.numB l.len ++ l.enc else if k = 9 then Sp.numB fs.len ++ fs.enc else if k = 10 then Sp.txtB c ++ (Sp.numB vr.toNat ++ (Sp.numB fs.len ++ fs.enc)) else [])
def TmL.enc : TmL → List Int
  | .nil => []
  | .cons t l => t.enc ++ l.enc
def TmF.enc : TmF → List Int
  | .nil => []
  | .cons n t l => Sp.txtB n ++ (t.enc ++ l.enc)
end
/-- with their number ahead -/
def TmL.encR (l : TmL) : List Int := Sp.numB l.len ++ l.enc
def TmF.encR (l : TmF) : List Int := Sp.numB l.len ++ l.enc

namespace Sp
theorem numB_len : ∀ (k n : Nat), n < 128 ^ (k + 1) → (numB n).length ≤ k + 1
  | 0, n, h => by rw [numB_lt (by omega)]; simp
  | k + 1, n, h => by
    by_cases h1 : n < 128
    · rw [numB_lt h1]; simp
    · rw [numB_ge h1]
      have := numB_len k (n / 128) (by rw [Nat.pow_succ] at h; omega)
      simp; omega
theorem numB_64 {n : Nat} (h : n < 18446744073709551616) : (numB n).length ≤ 10 := numB_len 9 n (by omega)
theorem txtB_len {s : ByteArray} {m : Nat} (h : s.size ≤ m) (hm : m ≤ 65536) : (txtB s).length ≤ 10 + m := by
  rw [txtB, List.length_append, bts_len]
  have := numB_64 (n := s.size) (by omega)
  omega
theorem fold_lt {i : Int} (h0 : -9223372036854775808 ≤ i) (h1 : i ≤ 9223372036854775807) : fold i < 18446744073709551616 := by
  unfold fold; split <;> omega
end Sp

section
variable {b : Bool} {i : Int} {f : Nat} {tx : ByteArray} {by' : ByteArray} {rf : Int} {l : TmL} {fs : TmF} {c : ByteArray} {vr : Int}
theorem Tm.enc_1 : (Tm.mk 1 b i f tx by' rf l fs c vr).enc = [1] := by simp [Tm.enc]
theorem Tm.enc_2 : (Tm.mk 2 b i f tx by' rf l fs c vr).enc = [2] ++ [if b then 1 else 0] := by simp [Tm.enc]
theorem Tm.enc_3 : (Tm.mk 3 b i f tx by' rf l fs c vr).enc = [3] ++ Sp.numB (Sp.fold i) := by simp [Tm.enc]
theorem Tm.enc_4 : (Tm.mk 4 b i f tx by' rf l fs c vr).enc = [4] ++ Sp.bitsTo f 8 := by simp [Tm.enc]
theorem Tm.enc_5 : (Tm.mk 5 b i f tx by' rf l fs c vr).enc = [5] ++ Sp.txtB tx := by simp [Tm.enc]
theorem Tm.enc_6 : (Tm.mk 6 b i f tx by' rf l fs c vr).enc = [6] ++ Sp.txtB by' := by simp [Tm.enc]
theorem Tm.enc_7 : (Tm.mk 7 b i f tx by' rf l fs c vr).enc = [7] ++ Sp.numB rf.toNat := by simp [Tm.enc]
theorem Tm.enc_8 : (Tm.mk 8 b i f tx by' rf l fs c vr).enc = [8] ++ l.encR := by simp [Tm.enc, TmL.encR]
theorem Tm.enc_9 : (Tm.mk 9 b i f tx by' rf l fs c vr).enc = [9] ++ fs.encR := by simp [Tm.enc, TmF.encR]
theorem Tm.enc_10 : (Tm.mk 10 b i f tx by' rf l fs c vr).enc = [10] ++ (Sp.txtB c ++ (Sp.numB vr.toNat ++ fs.encR)) := by simp [Tm.enc, TmF.encR]
end
theorem head_ver {c : ByteArray} {v : Int} (h : Sp.headR c v = 0) : 1 ≤ v ∧ v ≤ 1000 := by
  unfold Sp.headR at h
  split at h
  · omega
  · split at h <;> omega

mutual
theorem Tm.enc_len : (t : Tm) → ∀ n p d, (t.wk n p d).e = 0 → t.Bdd → (t.enc.length : Int) + 60 ≤ 66000 * ((t.wk n p d).p - p)
  | .mk k b i f tx by' rf l fs c vr, n, p, d, h, hb => by
    have ho : Tm.Ok (.mk k b i f tx by' rf l fs c vr) := ⟨n, p, d, h⟩
    obtain ⟨p1, p2, -, -⟩ := ho.parts
    obtain ⟨q1, q2, q3, q4, q5⟩ := ho.bounds
    simp only [Tm.Bdd] at hb
    obtain ⟨bi, bf, br, bv, bl, bfs⟩ := hb
    have e : (Tm.mk k b i f tx by' rf l fs c vr).own p n = 0 := by
      by_cases e : (Tm.mk k b i f tx by' rf l fs c vr).own p n ≠ 0
      · rw [Tm.wk, if_pos e] at h; exact absurd h e
      · exact Decidable.not_not.1 e
    rw [Tm.wk, if_neg (by simp [e])] at h ⊢
    have hk : k = 1 ∨ k = 2 ∨ k = 3 ∨ k = 4 ∨ k = 5 ∨ k = 6 ∨ k = 7 ∨ k = 8 ∨ k = 9 ∨ k = 10 := by omega
    rcases hk with rfl | rfl | rfl | rfl | rfl | rfl | rfl | rfl | rfl | rfl
    · rw [Tm.enc_1]; simp; omega
    · rw [Tm.enc_2]; simp; omega
    · rw [Tm.enc_3]; have := Sp.numB_64 (Sp.fold_lt bi.1 bi.2); simp; omega
    · rw [Tm.enc_4]; simp [Sp.bitsTo_len]; omega
    · rw [Tm.enc_5]; have := Sp.txtB_len (q1 rfl) (Nat.le_refl _); simp; omega
    · rw [Tm.enc_6]; have := Sp.txtB_len (q2 rfl) (Nat.le_refl _); simp; omega
    · rw [Tm.enc_7]; have := Sp.numB_64 (n := rf.toNat) (by omega); simp; omega
    · rw [Tm.enc_8, TmL.encR]
      rw [if_pos rfl] at h ⊢
      have := TmL.enc_len l (n + 1) (p + 1) (max d n) h bl
      have := Sp.numB_64 (n := l.len) (by have := q3 rfl; omega)
      simp only [List.length_append, List.length_cons, List.length_nil]; omega
    · rw [Tm.enc_9, TmF.encR]
      rw [if_neg (by decide), if_pos (by decide)] at h ⊢
      have hq := TmF.nm (q4 (.inl rfl))
      have := TmF.enc_len fs (n + 1) (p + 1) (max d n) h bfs hq.2
      have := Sp.numB_64 (n := fs.len) (by omega)
      simp only [List.length_append, List.length_cons, List.length_nil]; omega
    · rw [Tm.enc_10, TmF.encR]
      rw [if_neg (by decide), if_pos (by decide)] at h ⊢
      have hq := TmF.nm (q4 (.inr rfl))
      have := TmF.enc_len fs (n + 1) (p + 1) (max d n) h bfs hq.2
      have := Sp.numB_64 (n := fs.len) (by omega)
      have hv := head_ver (q5 rfl)
      have := Sp.numB_64 (n := vr.toNat) (by omega)
      have := Sp.txtB_len (head_len (q5 rfl)) (by decide)
      simp only [List.length_append, List.length_cons, List.length_nil]; omega
theorem TmL.enc_len : (l : TmL) → ∀ n p d, (l.wk n p d).e = 0 → l.Bdd → (l.enc.length : Int) ≤ 66000 * ((l.wk n p d).p - p)
  | .nil, n, p, d, h, _ => by simp [TmL.enc, TmL.wk]
  | .cons t l, n, p, d, h, hb => by
    rw [TmL.wk] at h ⊢
    by_cases e : (t.wk n p d).e ≠ 0
    · rw [if_pos e] at h; exact absurd h e
    · rw [if_neg e] at h ⊢
      have h1 := Tm.enc_len t n p d (Decidable.not_not.1 e) hb.1
      have h2 := TmL.enc_len l n _ _ h hb.2
      rw [TmL.enc, List.length_append]; omega
theorem TmF.enc_len : (l : TmF) → ∀ n p d, (l.wk n p d).e = 0 → l.Bdd → l.Nm → (l.enc.length : Int) ≤ 66000 * ((l.wk n p d).p - p)
  | .nil, n, p, d, h, _, _ => by simp [TmF.enc, TmF.wk]
  | .cons m t l, n, p, d, h, hb, hm => by
    rw [TmF.wk] at h ⊢
    by_cases e : (t.wk n p d).e ≠ 0
    · rw [if_pos e] at h; exact absurd h e
    · rw [if_neg e] at h ⊢
      have h1 := Tm.enc_len t n p d (Decidable.not_not.1 e) hb.1
      have h2 := TmF.enc_len l n _ _ h hb.2 hm.head.2
      have := Sp.txtB_len hm.head.1 (by decide)
      rw [TmF.enc, List.length_append, List.length_append]; omega
end
theorem Tm.enc_le {t : Tm} (h : (t.wk 1 0 0).e = 0) (hb : t.Bdd) : t.enc.length ≤ 1081344000 := by
  have h1 := t.enc_len 1 0 0 h hb
  have h2 := (t.wk_bd 1 0 0 (by decide) (by decide)).2.2 h
  omega
end Go.Proofs.Ytadcbhdhgobknaa

