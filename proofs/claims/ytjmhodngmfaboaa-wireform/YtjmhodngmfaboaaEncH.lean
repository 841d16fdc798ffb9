/- The bytes of a term, plainly, and how many they are at most. -/
import Derived.Test.YtjmhodngmfaboaaEncG
import Derived.Test.YtjmhodngmfaboaaTOfG
namespace Go.Proofs.Ytjmhodngmfaboaa
open Go.RowKit

mutual
/-- the bytes of a term that can be -/
def Tm.enc : Tm → List Int
  | .mk k b i f tx by' rf l fs c vr => k :: (if k = 2 then [if b then 1 else 0] else if k = 3 then Sp.numB (Sp.fold i) else if k = 4 then Sp.bitsTo f 8 else if k = 5 then Sp.txtB tx else if k = 6 then Sp.txtB by' else if k = 7 then Sp.numB rf.toNat else if k = 8 then Sp.numB l.len ++ l.enc else if k = 9 then Sp.numB fs.len ++ fs.enc else if k = 10 then Sp.txtB c ++ (Sp.numB vr.toNat ++ (Sp.numB fs.len ++ fs.enc)) else [])
def TmL.enc : TmL → List Int
  | .nil => []
  | .cons t l => t.enc ++ l.enc
def TmF.enc : TmF → List Int
  | .nil => []
  | .cons n t l => Sp.txtB n ++ (t.enc ++ l.enc)
end
/-- with their number ahead -/
def TmL.encR (l : TmL) : List Int := Sp.numB l.len ++ l.enc
def TmF.encR (l : TmF) : List Int := Sp.numB l.len ++ l.enc

namespace Sp
theorem numB_len : ∀ (k n : Nat), n < 128 ^ (k + 1) → (numB n).length ≤ k + 1
  | 0, n, h => by rw [numB_lt (by omega)]; simp
  | k + 1, n, h => by
    by_cases h1 : n < 128
    · rw [numB_lt h1]; simp
    · rw [numB_ge h1]
      have := numB_len k (n / 128) (by rw [Nat.pow_succ] at h; omega)
      simp; omega
theorem numB_64 {n : Nat} (h : n < 18446744073709551616) : (numB n).length ≤ 10 := numB_len 9 n (by omega)
theorem txtB_len {s : ByteArray} {m : Nat} (h : s.size ≤ m) (hm : m ≤ 65536) : (txtB s).length ≤ 10 + m := by
  rw [txtB, List.length_append, bts_len]
  have := numB_64 (n := s.size) (by omega)
  omega
theorem fold_lt {i : Int} (h0 : -9223372036854775808 ≤ i) (h1 : i ≤ 9223372036854775807) : fold i < 18446744073709551616 := by
  unfold fold; split <;> omega
end Sp

section
variable {b : Bool} {i : Int} {f : Nat} {tx : ByteArray} {by' : ByteArray} {rf : Int} {l : TmL} {fs : TmF} {c : ByteArray} {vr : Int}
theorem Tm.enc_1 : (Tm.mk 1 b i f tx by' rf l fs c vr).enc = [1] := by simp [Tm.enc]
theorem Tm.enc_2 : (Tm.mk 2 b i f tx by' rf l fs c vr).enc = [2] ++ [if b then 1 else 0] := by simp [Tm.enc]
theorem Tm.enc_3 : (Tm.mk 3 b i f tx by' rf l fs c vr).enc = [3] ++ Sp.numB (Sp.fold i) := by simp [Tm.enc]
theorem Tm.enc_4 : (Tm.mk 4 b i f tx by' rf l fs c vr).enc = [4] ++ Sp.bitsTo f 8 := by simp [Tm.enc]
theorem Tm.enc_5 : (Tm.mk 5 b i f tx by' rf l fs c vr).enc = [5] ++ Sp.txtB tx := by simp [Tm.enc]
theorem Tm.enc_6 : (Tm.mk 6 b i f tx by' rf l fs c vr).enc = [6] ++ Sp.txtB by' := by simp [Tm.enc]
theorem Tm.enc_7 : (Tm.mk 7 b i f tx by' rf l fs c vr).enc = [7] ++ Sp.numB rf.toNat := by simp [Tm.enc]
theorem Tm.enc_8 : (Tm.mk 8 b i f tx by' rf l fs c vr).enc = [8] ++ l.encR := by simp [Tm.enc, TmL.encR]
theorem Tm.enc_9 : (Tm.mk 9 b i f tx by' rf l fs c vr).enc = [9] ++ fs.encR := by simp [Tm.enc, TmF.encR]
theorem Tm.enc_10 : (Tm.mk 10 b i f tx by' rf l fs c vr).enc = [10] ++ (Sp.txtB c ++ (Sp.numB vr.toNat ++ fs.encR)) := by simp [Tm.enc, TmF.encR]
end
theorem head_ver {c : ByteArray} {v : Int} (h : Sp.headR c v = 0) : 1 ≤ v ∧ v ≤ 1000 := by
  unfold Sp.headR at h
  split at h
  · omega
  · split at h <;> omega

mutual
theorem Tm.enc_len : (t : Tm) → ∀ n p d, (t.wk n p d).e = 0 → t.Bdd → (t.enc.length : Int) + 60 ≤ 66000 * ((t.wk n p d).p - p)
  | .mk k b i f tx by' rf l fs c vr, n, p, d, h, hb => by
    have ho : Tm.Ok (.mk k b i f tx by' rf l fs c vr) := ⟨n, p, d, h⟩
    obtain ⟨p1, p2, -, -⟩ := ho.parts
    obtain ⟨q1, q2, q3, q4, q5⟩ := ho.bounds
    simp only [Tm.Bdd] at hb
    obtain ⟨bi, bf, br, bv, bl, bfs⟩ := hb
    have e : (Tm.mk k b i f tx by' rf l fs c vr).own p n = 0 := by
      by_cases e : (Tm.mk k b i f tx by' rf l fs c vr).own p n ≠ 0
      · rw [Tm.wk, if_pos e] at h; exact absurd h e
      · exact Decidable.not_not.1 e
    rw [Tm.wk, if_neg (by simp [e])] at h ⊢
    have hk : k = 1 ∨ k = 2 ∨ k = 3 ∨ k = 4 ∨ k = 5 ∨ k = 6 ∨ k = 7 ∨ k = 8 ∨ k = 9 ∨ k = 10 := by omega
    rcases hk with rfl | rfl | rfl | rfl | rfl | rfl | rfl | rfl | rfl | rfl
    · rw [Tm.enc_1]; simp; omega
    · rw [Tm.enc_2]; simp; omega
    · rw [Tm.enc_3]; have := Sp.numB_64 (Sp.fold_lt bi.1 bi.2); simp; omega
    · rw [Tm.enc_4]; simp [Sp.bitsTo_len]; omega
    · rw [Tm.enc_5]; have := Sp.txtB_len (q1 rfl) (Nat.le_refl _); simp; omega
    · rw [Tm.enc_6]; have := Sp.txtB_len (q2 rfl) (Nat.le_refl _); simp; omega
    · rw [Tm.enc_7]; have := Sp.numB_64 (n := rf.toNat) (by omega); simp; omega
    · rw [Tm.enc_8, TmL.encR]
      rw [if_pos rfl] at h ⊢
      have := TmL.enc_len l (n + 1) (p + 1) (max d n) h bl
      have := Sp.numB_64 (n := l.len) (by have := q3 rfl; omega)
      simp only [List.length_append, List.length_cons, List.length_nil]; omega
    · rw [Tm.enc_9, TmF.encR]
      rw [if_neg (by decide), if_pos (by decide)] at h ⊢
      have hq := TmF.nm (q4 (.inl rfl))
      have := TmF.enc_len fs (n + 1) (p + 1) (max d n) h bfs hq.2
      have := Sp.numB_64 (n := fs.len) (by omega)
      simp only [List.length_append, List.length_cons, List.length_nil]; omega
    · rw [Tm.enc_10, TmF.encR]
      rw [if_neg (by decide), if_pos (by decide)] at h ⊢
      have hq := TmF.nm (q4 (.inr rfl))
      have := TmF.enc_len fs (n + 1) (p + 1) (max d n) h bfs hq.2
      have := Sp.numB_64 (n := fs.len) (by omega)
      have hv := head_ver (q5 rfl)
      have := Sp.numB_64 (n := vr.toNat) (by omega)
      have := Sp.txtB_len (head_len (q5 rfl)) (by decide)
      simp only [List.length_append, List.length_cons, List.length_nil]; omega
theorem TmL.enc_len : (l : TmL) → ∀ n p d, (l.wk n p d).e = 0 → l.Bdd → (l.enc.length : Int) ≤ 66000 * ((l.wk n p d).p - p)
  | .nil, n, p, d, h, _ => by simp [TmL.enc, TmL.wk]
  | .cons t l, n, p, d, h, hb => by
    rw [TmL.wk] at h ⊢
    by_cases e : (t.wk n p d).e ≠ 0
    · rw [if_pos e] at h; exact absurd h e
    · rw [if_neg e] at h ⊢
      have h1 := Tm.enc_len t n p d (Decidable.not_not.1 e) hb.1
      have h2 := TmL.enc_len l n _ _ h hb.2
      rw [TmL.enc, List.length_append]; omega
theorem TmF.enc_len : (l : TmF) → ∀ n p d, (l.wk n p d).e = 0 → l.Bdd → l.Nm → (l.enc.length : Int) ≤ 66000 * ((l.wk n p d).p - p)
  | .nil, n, p, d, h, _, _ => by simp [TmF.enc, TmF.wk]
  | .cons m t l, n, p, d, h, hb, hm => by
    rw [TmF.wk] at h ⊢
    by_cases e : (t.wk n p d).e ≠ 0
    · rw [if_pos e] at h; exact absurd h e
    · rw [if_neg e] at h ⊢
      have h1 := Tm.enc_len t n p d (Decidable.not_not.1 e) hb.1
      have h2 := TmF.enc_len l n _ _ h hb.2 hm.head.2
      have := Sp.txtB_len hm.head.1 (by decide)
      rw [TmF.enc, List.length_append, List.length_append]; omega
end
theorem Tm.enc_le {t : Tm} (h : (t.wk 1 0 0).e = 0) (hb : t.Bdd) : t.enc.length ≤ 1081344000 := by
  have h1 := t.enc_len 1 0 0 h hb
  have h2 := (t.wk_bd 1 0 0 (by decide) (by decide)).2.2 h
  omega
end Go.Proofs.Ytjmhodngmfaboaa

/- wire.appendValue at a value that has no parts. -/
namespace Go.Proofs.Ytjmhodngmfaboaa
open Go.RowKit

/-- what a function that appends answers: bytes ys behind xs -/
def Apd (base : Nat) (a : Option Addr) (w : World) (xs ys : List Int) (e : Ending) (w' : World) : Prop := ∃ a' cap', e = .returned (.slice a' (xs.length + ys.length) cap') ∧ Outs w' base a' cap' (xs ++ ys) ∧ Gr base a a' w w'
theorem appNum_at (n : Nat) (base : Nat) (a : Option Addr) (cap : Nat) (xs : List Int) (w : World) (m : Nat) (hm : m = xs.length) (hn : n < 18446744073709551616) (h : Outs w base a cap xs) (hlen : xs.length + (Sp.numB n).length ≤ 140737488355328) :
    Calls Try.prog 78 #[.slice a m cap, .int .u64 n] w (Apd base a w xs (Sp.numB n)) := by subst hm; exact appNum_any n base a cap xs w hn h hlen
theorem appBits_at (f : Nat) (base : Nat) (a : Option Addr) (cap : Nat) (xs : List Int) (w : World) (m : Nat) (hm : m = xs.length) (h : Outs w base a cap xs) (hlen : xs.length + 8 ≤ 140737488355328) :
    Calls Try.prog 80 #[.slice a m cap, .int .u64 f] w (Apd base a w xs (Sp.bitsTo f 8)) := by
  subst hm
  refine (appBits_any f base a cap xs w h hlen).mono ?_
  rintro e w' ⟨a', cap', rfl, h1, h2⟩
  exact ⟨a', cap', by rw [Sp.bitsTo_len], h1, h2⟩
theorem appText_at (s : ByteArray) (base : Nat) (a : Option Addr) (cap : Nat) (xs : List Int) (w : World) (m : Nat) (hm : m = xs.length) (h : Outs w base a cap xs) (hlen : xs.length + (Sp.txtB s).length ≤ 140737488355328) :
    Calls Try.prog 81 #[.slice a m cap, .string s] w (Apd base a w xs (Sp.txtB s)) := by subst hm; exact appText_any s base a cap xs w h hlen
theorem appBytes_at (s : ByteArray) (ab : Option Addr) (cb : Nat) (base : Nat) (a : Option Addr) (cap : Nat) (xs : List Int) (w : World) (m : Nat) (hm : m = xs.length) (hb : BytesAt w (Lo base) ab s) (h : Outs w base a cap xs) (hlen : xs.length + (Sp.txtB s).length ≤ 140737488355328) :
    Calls Try.prog 82 #[.slice a m cap, .slice ab s.size cb] w (Apd base a w xs (Sp.txtB s)) := by subst hm; exact appBytes_any s ab cb base a cap xs w hb h hlen
theorem Apd.cons {base : Nat} {a a1 : Option Addr} {w w1 w2 : World} {xs ys : List Int} {k : Int} {a' : Option Addr} {cap' : Nat} (hb : Gr base a a1 w w1) (h1 : Outs w2 base a' cap' (xs ++ [k] ++ ys)) (h2 : Gr base a1 a' w1 w2) : Apd base a w xs (k :: ys) (.returned (.slice a' (xs.length + 1 + ys.length) cap')) w2 :=
  ⟨a', cap', by rw [List.length_cons, Nat.add_right_comm, Nat.add_assoc], by rw [List.append_assoc] at h1; exact h1, hb.trans h2⟩
theorem Apd.behind {base : Nat} {a a1 : Option Addr} {w w1 w2 : World} {xs ks ys : List Int} {e : Ending} (hb : Gr base a a1 w w1) (h : Apd base a1 w1 (xs ++ ks) ys e w2) : Apd base a w xs (ks ++ ys) e w2 := by
  obtain ⟨a', cap', rfl, h1, h2⟩ := h
  exact ⟨a', cap', by rw [List.length_append, List.length_append, Nat.add_assoc], by rw [← List.append_assoc]; exact h1, hb.trans h2⟩

set_option maxRecDepth 100000 in
set_option maxHeartbeats 1000000 in
theorem aval_1 (base : Nat) (a : Option Addr) (cap : Nat) (xs : List Int) (w : World) (h : Outs w base a cap xs) (hlen : xs.length + ([1]).length ≤ 140737488355328) :
    Calls Try.prog 43 #[.slice a xs.length cap, .nilIface] w (Apd base a w xs ([1])) := by
  obtain ⟨i0, hi, hz0, hz1, hz2⟩ := info_parts Try.infoB
  have hl : xs.length + 1 ≤ 140737488355328 := by simp at hlen; omega
  have HO : Hid (Outs w base a cap xs) := h
  have HOW : Hid (w.ownsRow base 5 1 (.slice a xs.length cap) xs.length (u8s xs)) := h.1
  clear h
  go_enter Try.func43, Try.ntmps43
  go_wp2_with (at_builtin; refine wpList_app _ rfl _ _ 23 rfl base 5 i0 (.int .u8 0) 1 1 Try.undB hi hz0 hz1 hz2 rfl (by decide) _ _ _ rfl (HOW.out.alloc _) ⟨w.heap.size, 0, none⟩ 1 1 [.int .u8 1] rfl rfl (cell_one_new _ _ _) (fun u hu => by simp at hu; subst hu; rfl) (by decide) (by unfold maxLen; omega) (by omega) (by have := HO.out.2; simp; omega) ?_; intro g' cap2 w3 hown' hgrow hor')
  obtain ⟨h1, h2⟩ := HO.out.step (ys := [1]) hown' rfl (by simp) hgrow hor'
  have HE : Hid (Outs w3 base (some ⟨g', 0, none⟩) cap2 (xs ++ [1]) ∧ Gr base a (some ⟨g', 0, none⟩) w w3) := ⟨h1, h2⟩
  clear h1 h2 hown' hgrow hor'
  go_wp2_with fail
  go_ret
  exact ⟨_, cap2, rfl, HE.out.1, HE.out.2⟩

set_option maxRecDepth 100000 in
set_option maxHeartbeats 1000000 in
theorem aval_2f (base : Nat) (a : Option Addr) (cap : Nat) (xs : List Int) (w : World) (h : Outs w base a cap xs) (hlen : xs.length + ([2] ++ [0]).length ≤ 140737488355328) :
    Calls Try.prog 43 #[.slice a xs.length cap, .iface 4 (.bool false)] w (Apd base a w xs ([2] ++ [0])) := by
  obtain ⟨i0, hi, hz0, hz1, hz2⟩ := info_parts Try.infoB
  have hl : xs.length + 1 ≤ 140737488355328 := by simp at hlen; omega
  have hl2 : xs.length + 2 ≤ 140737488355328 := by simp at hlen; omega
  have HO : Hid (Outs w base a cap xs) := h
  have HOW : Hid (w.ownsRow base 5 1 (.slice a xs.length cap) xs.length (u8s xs)) := h.1
  clear h
  go_enter Try.func43, Try.ntmps43
  go_wp2_with (first | (go_at_call 77; refine (bit_any _ _).mono ?_; rintro e w' ⟨rfl, rfl⟩) | (at_builtin; refine wpList_app _ rfl _ _ 23 rfl base 5 i0 (.int .u8 0) 1 1 Try.undB hi hz0 hz1 hz2 rfl (by decide) _ _ _ rfl (HOW.out.alloc _) ⟨w.heap.size, 0, none⟩ 2 2 [.int .u8 2, .int .u8 0] rfl rfl (cell_two_new _ _ _ _) (fun u hu => by simp at hu; rcases hu with rfl | rfl <;> rfl) (by decide) (by unfold maxLen; omega) (by omega) (by have := HO.out.2; simp; omega) ?_; intro g' cap2 w3 hown' hgrow hor'))
  obtain ⟨h1, h2⟩ := HO.out.step (ys := [2, 0]) hown' rfl (by simp) hgrow hor'
  have HE : Hid (Outs w3 base (some ⟨g', 0, none⟩) cap2 (xs ++ [2, 0]) ∧ Gr base a (some ⟨g', 0, none⟩) w w3) := ⟨h1, h2⟩
  clear h1 h2 hown' hgrow hor'
  go_wp2_with fail
  go_ret
  exact ⟨_, cap2, rfl, HE.out.1, HE.out.2⟩

set_option maxRecDepth 100000 in
set_option maxHeartbeats 1000000 in
theorem aval_2t (base : Nat) (a : Option Addr) (cap : Nat) (xs : List Int) (w : World) (h : Outs w base a cap xs) (hlen : xs.length + ([2] ++ [1]).length ≤ 140737488355328) :
    Calls Try.prog 43 #[.slice a xs.length cap, .iface 4 (.bool true)] w (Apd base a w xs ([2] ++ [1])) := by
  obtain ⟨i0, hi, hz0, hz1, hz2⟩ := info_parts Try.infoB
  have hl : xs.length + 1 ≤ 140737488355328 := by simp at hlen; omega
  have hl2 : xs.length + 2 ≤ 140737488355328 := by simp at hlen; omega
  have HO : Hid (Outs w base a cap xs) := h
  have HOW : Hid (w.ownsRow base 5 1 (.slice a xs.length cap) xs.length (u8s xs)) := h.1
  clear h
  go_enter Try.func43, Try.ntmps43
  go_wp2_with (first | (go_at_call 77; refine (bit_any _ _).mono ?_; rintro e w' ⟨rfl, rfl⟩) | (at_builtin; refine wpList_app _ rfl _ _ 23 rfl base 5 i0 (.int .u8 0) 1 1 Try.undB hi hz0 hz1 hz2 rfl (by decide) _ _ _ rfl (HOW.out.alloc _) ⟨w.heap.size, 0, none⟩ 2 2 [.int .u8 2, .int .u8 1] rfl rfl (cell_two_new _ _ _ _) (fun u hu => by simp at hu; rcases hu with rfl | rfl <;> rfl) (by decide) (by unfold maxLen; omega) (by omega) (by have := HO.out.2; simp; omega) ?_; intro g' cap2 w3 hown' hgrow hor'))
  obtain ⟨h1, h2⟩ := HO.out.step (ys := [2, 1]) hown' rfl (by simp) hgrow hor'
  have HE : Hid (Outs w3 base (some ⟨g', 0, none⟩) cap2 (xs ++ [2, 1]) ∧ Gr base a (some ⟨g', 0, none⟩) w w3) := ⟨h1, h2⟩
  clear h1 h2 hown' hgrow hor'
  go_wp2_with fail
  go_ret
  exact ⟨_, cap2, rfl, HE.out.1, HE.out.2⟩

set_option maxRecDepth 100000 in
set_option maxHeartbeats 1000000 in
theorem aval_3 (i : Int) (base : Nat) (a : Option Addr) (cap : Nat) (xs : List Int) (w : World) (h0 : -9223372036854775808 ≤ i) (h1 : i ≤ 9223372036854775807) (h : Outs w base a cap xs) (hlen : xs.length + (3 :: Sp.numB (Sp.fold i)).length ≤ 140737488355328) :
    Calls Try.prog 43 #[.slice a xs.length cap, .iface 2 (.int .i64 i)] w (Apd base a w xs (3 :: Sp.numB (Sp.fold i))) := by
  obtain ⟨i0, hi, hz0, hz1, hz2⟩ := info_parts Try.infoB
  have hl : xs.length + 1 ≤ 140737488355328 := by simp at hlen; omega
  have hl2 : xs.length + 1 + (Sp.numB (Sp.fold i)).length ≤ 140737488355328 := by simp at hlen; omega
  have HF : Hid (Sp.fold i < 18446744073709551616) := Sp.fold_lt h0 h1
  have HO : Hid (Outs w base a cap xs) := h
  have HOW : Hid (w.ownsRow base 5 1 (.slice a xs.length cap) xs.length (u8s xs)) := h.1
  clear h
  go_enter Try.func43, Try.ntmps43
  go_wp2_with (at_builtin; refine wpList_app _ rfl _ _ 23 rfl base 5 i0 (.int .u8 0) 1 1 Try.undB hi hz0 hz1 hz2 rfl (by decide) _ _ _ rfl (HOW.out.alloc _) ⟨w.heap.size, 0, none⟩ 1 1 [.int .u8 3] rfl rfl (cell_one_new _ _ _) (fun u hu => by simp at hu; subst hu; rfl) (by decide) (by unfold maxLen; omega) (by omega) (by have := HO.out.2; simp; omega) ?_; intro g' cap2 w3 hown' hgrow hor')
  obtain ⟨h1, h2⟩ := HO.out.step (ys := [3]) hown' rfl (by simp) hgrow hor'
  have HE : Hid (Outs w3 base (some ⟨g', 0, none⟩) cap2 (xs ++ [3])) := h1
  have HB : Hid (Gr base a (some ⟨g', 0, none⟩) w w3) := h2
  clear h1 h2 hown' hgrow hor'
  go_wp2_with (first | (go_at_call 79; refine (folded_any _ _ h0 h1).mono ?_; rintro e w' ⟨rfl, rfl⟩) | (go_at_call 78; refine (appNum_at (Sp.fold i) base _ _ (xs ++ [3]) _ _ (by simp) HF.out HE.out (by simp; omega)).mono ?_; rintro e w2 ⟨a2, cap3, rfl, ho2, hb2⟩))
  go_ret
  exact Apd.cons HB.out ho2 hb2

set_option maxRecDepth 100000 in
set_option maxHeartbeats 1000000 in
theorem aval_4 (f : Nat) (base : Nat) (a : Option Addr) (cap : Nat) (xs : List Int) (w : World) (h : Outs w base a cap xs) (hlen : xs.length + (4 :: Sp.bitsTo f 8).length ≤ 140737488355328) :
    Calls Try.prog 43 #[.slice a xs.length cap, .iface 22 (.float .f64 f)] w (Apd base a w xs (4 :: Sp.bitsTo f 8)) := by
  obtain ⟨i0, hi, hz0, hz1, hz2⟩ := info_parts Try.infoB
  have hl : xs.length + 1 ≤ 140737488355328 := by simp at hlen; omega
  have hl2 : xs.length + 1 + 8 ≤ 140737488355328 := by simp [Sp.bitsTo_len] at hlen; omega
  have hbr := bits_run f
  have HO : Hid (Outs w base a cap xs) := h
  have HOW : Hid (w.ownsRow base 5 1 (.slice a xs.length cap) xs.length (u8s xs)) := h.1
  clear h
  go_enter Try.func43, Try.ntmps43
  go_wp2_with (at_builtin; refine wpList_app _ rfl _ _ 23 rfl base 5 i0 (.int .u8 0) 1 1 Try.undB hi hz0 hz1 hz2 rfl (by decide) _ _ _ rfl (HOW.out.alloc _) ⟨w.heap.size, 0, none⟩ 1 1 [.int .u8 4] rfl rfl (cell_one_new _ _ _) (fun u hu => by simp at hu; subst hu; rfl) (by decide) (by unfold maxLen; omega) (by omega) (by have := HO.out.2; simp; omega) ?_; intro g' cap2 w3 hown' hgrow hor')
  obtain ⟨h1, h2⟩ := HO.out.step (ys := [4]) hown' rfl (by simp) hgrow hor'
  have HE : Hid (Outs w3 base (some ⟨g', 0, none⟩) cap2 (xs ++ [4])) := h1
  have HB : Hid (Gr base a (some ⟨g', 0, none⟩) w w3) := h2
  clear h1 h2 hown' hgrow hor'
  go_wp2_with ((go_at_call 80; refine (appBits_at f base _ _ (xs ++ [4]) _ _ (by simp) HE.out (by simp; omega)).mono ?_; rintro e w2 ⟨a2, cap3, rfl, ho2, hb2⟩))
  go_ret
  exact Apd.cons HB.out ho2 hb2

set_option maxRecDepth 100000 in
set_option maxHeartbeats 1000000 in
theorem aval_5 (s : ByteArray) (base : Nat) (a : Option Addr) (cap : Nat) (xs : List Int) (w : World) (h : Outs w base a cap xs) (hlen : xs.length + (5 :: Sp.txtB s).length ≤ 140737488355328) :
    Calls Try.prog 43 #[.slice a xs.length cap, .iface 9 (.string s)] w (Apd base a w xs (5 :: Sp.txtB s)) := by
  obtain ⟨i0, hi, hz0, hz1, hz2⟩ := info_parts Try.infoB
  have hl : xs.length + 1 ≤ 140737488355328 := by simp at hlen; omega
  have hl2 : xs.length + 1 + (Sp.txtB s).length ≤ 140737488355328 := by simp at hlen; omega
  have HO : Hid (Outs w base a cap xs) := h
  have HOW : Hid (w.ownsRow base 5 1 (.slice a xs.length cap) xs.length (u8s xs)) := h.1
  clear h
  go_enter Try.func43, Try.ntmps43
  go_wp2_with (at_builtin; refine wpList_app _ rfl _ _ 23 rfl base 5 i0 (.int .u8 0) 1 1 Try.undB hi hz0 hz1 hz2 rfl (by decide) _ _ _ rfl (HOW.out.alloc _) ⟨w.heap.size, 0, none⟩ 1 1 [.int .u8 5] rfl rfl (cell_one_new _ _ _) (fun u hu => by simp at hu; subst hu; rfl) (by decide) (by unfold maxLen; omega) (by omega) (by have := HO.out.2; simp; omega) ?_; intro g' cap2 w3 hown' hgrow hor')
  obtain ⟨h1, h2⟩ := HO.out.step (ys := [5]) hown' rfl (by simp) hgrow hor'
  have HE : Hid (Outs w3 base (some ⟨g', 0, none⟩) cap2 (xs ++ [5])) := h1
  have HB : Hid (Gr base a (some ⟨g', 0, none⟩) w w3) := h2
  clear h1 h2 hown' hgrow hor'
  go_wp2_with ((go_at_call 81; refine (appText_at s base _ _ (xs ++ [5]) _ _ (by simp) HE.out (by simp; omega)).mono ?_; rintro e w2 ⟨a2, cap3, rfl, ho2, hb2⟩))
  go_ret
  exact Apd.cons HB.out ho2 hb2

set_option maxRecDepth 100000 in
set_option maxHeartbeats 1000000 in
theorem aval_6 (s : ByteArray) (ab : Option Addr) (cb : Nat) (base : Nat) (a : Option Addr) (cap : Nat) (xs : List Int) (w : World) (hs : BytesAt w (Lo base) ab s) (h : Outs w base a cap xs) (hlen : xs.length + (6 :: Sp.txtB s).length ≤ 140737488355328) :
    Calls Try.prog 43 #[.slice a xs.length cap, .iface 23 (.slice ab s.size cb)] w (Apd base a w xs (6 :: Sp.txtB s)) := by
  obtain ⟨i0, hi, hz0, hz1, hz2⟩ := info_parts Try.infoB
  have hl : xs.length + 1 ≤ 140737488355328 := by simp at hlen; omega
  have hl2 : xs.length + 1 + (Sp.txtB s).length ≤ 140737488355328 := by simp at hlen; omega
  have HS : Hid (∀ W, Below base w W → BytesAt W (Lo base) ab s) := fun W hW => hs.same (Same.of_below hW (Nat.le_refl _)) (fun _ h => h)
  clear hs
  have HO : Hid (Outs w base a cap xs) := h
  have HOW : Hid (w.ownsRow base 5 1 (.slice a xs.length cap) xs.length (u8s xs)) := h.1
  clear h
  go_enter Try.func43, Try.ntmps43
  go_wp2_with (at_builtin; refine wpList_app _ rfl _ _ 23 rfl base 5 i0 (.int .u8 0) 1 1 Try.undB hi hz0 hz1 hz2 rfl (by decide) _ _ _ rfl (HOW.out.alloc _) ⟨w.heap.size, 0, none⟩ 1 1 [.int .u8 6] rfl rfl (cell_one_new _ _ _) (fun u hu => by simp at hu; subst hu; rfl) (by decide) (by unfold maxLen; omega) (by omega) (by have := HO.out.2; simp; omega) ?_; intro g' cap2 w3 hown' hgrow hor')
  obtain ⟨h1, h2⟩ := HO.out.step (ys := [6]) hown' rfl (by simp) hgrow hor'
  have HE : Hid (Outs w3 base (some ⟨g', 0, none⟩) cap2 (xs ++ [6])) := h1
  have HB : Hid (Gr base a (some ⟨g', 0, none⟩) w w3) := h2
  clear h1 h2 hown' hgrow hor'
  go_wp2_with ((go_at_call 82; refine (appBytes_at s ab cb base _ _ (xs ++ [6]) _ _ (by simp) (HS.out _ HB.out.1) HE.out (by simp; omega)).mono ?_; rintro e w2 ⟨a2, cap3, rfl, ho2, hb2⟩))
  go_ret
  exact Apd.cons HB.out ho2 hb2

set_option maxRecDepth 100000 in
set_option maxHeartbeats 1000000 in
theorem aval_7 (n : Nat) (base : Nat) (a : Option Addr) (cap : Nat) (xs : List Int) (w : World) (hn : n < 18446744073709551616) (h : Outs w base a cap xs) (hlen : xs.length + (7 :: Sp.numB n).length ≤ 140737488355328) :
    Calls Try.prog 43 #[.slice a xs.length cap, .iface 25 (.int .u64 (n : Int))] w (Apd base a w xs (7 :: Sp.numB n)) := by
  obtain ⟨i0, hi, hz0, hz1, hz2⟩ := info_parts Try.infoB
  have hl : xs.length + 1 ≤ 140737488355328 := by simp at hlen; omega
  have hl2 : xs.length + 1 + (Sp.numB n).length ≤ 140737488355328 := by simp at hlen; omega
  have HO : Hid (Outs w base a cap xs) := h
  have HOW : Hid (w.ownsRow base 5 1 (.slice a xs.length cap) xs.length (u8s xs)) := h.1
  clear h
  go_enter Try.func43, Try.ntmps43
  go_wp2_with (at_builtin; refine wpList_app _ rfl _ _ 23 rfl base 5 i0 (.int .u8 0) 1 1 Try.undB hi hz0 hz1 hz2 rfl (by decide) _ _ _ rfl (HOW.out.alloc _) ⟨w.heap.size, 0, none⟩ 1 1 [.int .u8 7] rfl rfl (cell_one_new _ _ _) (fun u hu => by simp at hu; subst hu; rfl) (by decide) (by unfold maxLen; omega) (by omega) (by have := HO.out.2; simp; omega) ?_; intro g' cap2 w3 hown' hgrow hor')
  obtain ⟨h1, h2⟩ := HO.out.step (ys := [7]) hown' rfl (by simp) hgrow hor'
  have HE : Hid (Outs w3 base (some ⟨g', 0, none⟩) cap2 (xs ++ [7])) := h1
  have HB : Hid (Gr base a (some ⟨g', 0, none⟩) w w3) := h2
  clear h1 h2 hown' hgrow hor'
  go_wp2_with ((go_at_call 78; refine (appNum_at (n) base _ _ (xs ++ [7]) _ _ (by simp) hn HE.out (by simp; omega)).mono ?_; rintro e w2 ⟨a2, cap3, rfl, ho2, hb2⟩))
  go_ret
  exact Apd.cons HB.out ho2 hb2
end Go.Proofs.Ytjmhodngmfaboaa

/- wire.appendFields and wire.appendValue at a list, a dict, a record: by what is proved of smaller values. -/
namespace Go.Proofs.Ytjmhodngmfaboaa
open Go.RowKit

/-- the contract of appendValue at terms of at most N parts -/
def EncC (N : Nat) : Prop := ∀ (t : Tm), t.sz ≤ N → ∀ (v : Value) (base : Nat) (a : Option Addr) (cap : Nat) (xs : List Int) (w : World), t.V w (Lo base) v → t.Ok → t.Bdd → Outs w base a cap xs → xs.length + t.enc.length ≤ 140737488355328 →
  Calls Try.prog 43 #[.slice a xs.length cap, v] w (Apd base a w xs t.enc)
/-- what Apd says, its numbers hidden -/
def ApdH (base : Nat) (a : Option Addr) (w : World) (xs ys : List Int) (e : Ending) (w' : World) : Prop := ∃ m a' cap', e = .returned (.slice a' m cap') ∧ Hid (m = (xs ++ ys).length ∧ Outs w' base a' cap' (xs ++ ys) ∧ Gr base a a' w w')
theorem Apd.hid {base : Nat} {a : Option Addr} {w : World} {xs ys : List Int} {e : Ending} {w' : World} (h : Apd base a w xs ys e w') : ApdH base a w xs ys e w' := by
  obtain ⟨a', cap', rfl, h1, h2⟩ := h
  exact ⟨_, a', cap', rfl, List.length_append.symm, h1, h2⟩
theorem Apd.of {base : Nat} {a : Option Addr} {w : World} {xs ys : List Int} {m : Nat} {a' : Option Addr} {cap' : Nat} {w' : World} (hm : m = (xs ++ ys).length) (h1 : Outs w' base a' cap' (xs ++ ys)) (h2 : Gr base a a' w w') : Apd base a w xs ys (.returned (.slice a' m cap')) w' :=
  ⟨a', cap', by rw [hm, List.length_append], h1, h2⟩
theorem EncC.at {N : Nat} (HC : EncC N) {t : Tm} (hN : t.sz ≤ N) {v : Value} {base : Nat} {a : Option Addr} {cap : Nat} {xs : List Int} {w : World} {m : Nat} (hm : m = xs.length) (h : t.V w (Lo base) v) (ho : t.Ok) (hb : t.Bdd) (hx : Outs w base a cap xs) (hl : xs.length + t.enc.length ≤ 140737488355328) :
    Calls Try.prog 43 #[.slice a m cap, v] w (ApdH base a w xs t.enc) := by subst hm; exact (HC t hN v base a cap xs w h ho hb hx hl).mono fun _ _ => Apd.hid
theorem outs_lt {w : World} {base : Nat} {a : Option Addr} {cap : Nat} {xs : List Int} (h : Outs w base a cap xs) (k : Nat) (e : a.map Addr.block = some k) : base ≤ k ∧ k < w.heap.size := h.1.lt k (by rw [own_map]; exact e)
theorem outs_alloc {w : World} {base : Nat} {a : Option Addr} {cap : Nat} {xs : List Int} (h : Outs w base a cap xs) (o : Obj) : Outs (w.alloc o) base a cap xs := ⟨h.1.alloc o, by have := h.2; simp; omega⟩
theorem Gr.alloc {base : Nat} {a a' : Option Addr} {w w' : World} (h : Gr base a a' w w') (hb : base ≤ w'.heap.size) (o : Obj) : Gr base a a' w (w'.alloc o) :=
  ⟨h.1.alloc hb o, fun k hk hn => by rw [Below.heap_alloc _ _ _ (Nat.lt_of_lt_of_le hk h.1.size)]; exact h.2.1 k hk hn, h.2.2⟩

set_option maxRecDepth 100000 in
set_option maxHeartbeats 1000000 in
theorem appFields_any (N : Nat) (HC : EncC N) (L : TmF) (hN : L.sz ≤ N) (al : Option Addr) (cl : Nat) (base : Nat) (a : Option Addr) (cap : Nat) (xs : List Int) (w : World) (m : Nat) (hm : m = xs.length) (hv : L.V w (Lo base) al 0) (hll : L.len ≤ 4096) (hok : L.Ok) (hbd : L.Bdd) (h : Outs w base a cap xs) (hlen : xs.length + L.encR.length ≤ 140737488355328) :
    Calls Try.prog 83 #[.slice a m cap, .slice al L.len cl] w (Apd base a w xs L.encR) := by
  have HCH : Hid (EncC N) := HC
  have HL : Hid (xs.length + (Sp.numB L.len).length + L.enc.length ≤ 140737488355328) := by show _ ≤ _; simp [TmF.encR] at hlen; omega
  have HN : Hid (Calls Try.prog 78 #[.slice a m cap, .int .u64 (L.len : Int)] w (ApdH base a w xs (Sp.numB L.len))) := (appNum_at L.len base a cap xs w m hm (by omega) h (by have := HL.out; omega)).mono fun _ _ => Apd.hid
  have HV0 : Hid (L.V w (Lo base) al 0 ∧ L.Ok ∧ L.Bdd) := ⟨hv, hok, hbd⟩
  clear h HC hm hlen hv hok hbd
  go_enter Try.func83, Try.ntmps83
  go_wp2_with fail
  refine HN.out.mono ?_
  rintro e w1 ⟨m1, a1, cap1, rfl, H1⟩
  clear HN
  go_wp2_with fail
  go_loopw [0, 14] (fun u i wr => ∃ (m k : Nat) (a' : Option Addr) (cap' : Nat) (done : List Int) (l : TmF), u = .slice a' m cap' ∧ i = .int .i64 k ∧ l.len + k = L.len ∧ l.sz ≤ N ∧ Hid (m = (xs ++ Sp.numB L.len ++ done).length ∧ L.enc = done ++ l.enc) ∧ Hid (Outs wr base a' cap' (xs ++ Sp.numB L.len ++ done) ∧ Gr base a a' w wr ∧ l.V w (Lo base) al k ∧ l.Ok ∧ l.Bdd)) (fun _ i _ => L.len - (intOf i).toNat)
  case atStart => exact ⟨m1, 0, a1, cap1, [], L, rfl, rfl, rfl, hN, ⟨by rw [List.append_nil]; exact H1.out.1, rfl⟩, ⟨by rw [List.append_nil]; exact H1.out.2.1, H1.out.2.2, HV0.out⟩⟩
  case round =>
    obtain ⟨m, k, a', cap', done, l, rfl, rfl, hk, hlN, HM, HO⟩ := hrel
    clear H1 HV0
    cases l with
    | nil =>
      have h1 : L.len ≤ k := by simp [TmF.len] at hk; omega
      clear hk
      go_wp2_with fail
      go_ret
      have he := HM.out.2
      rw [TmF.enc, List.append_nil] at he
      refine Apd.of ?_ ?_ HO.out.2.1
      · rw [HM.out.1, TmF.encR, he, List.append_assoc]
      · rw [TmF.encR, he, ← List.append_assoc]; exact HO.out.1
    | cons nm t l =>
      obtain ⟨hout, hgr, hv, hok, hbd⟩ := HO.out
      simp only [TmF.V] at hv
      obtain ⟨g, o, v, rfl, hg, c0, c1, hnl, ht, hv'⟩ := hv
      have hg : g < base := hg
      have hlt : k < L.len := by simp [TmF.len] at hk; omega
      have HK : Hid (l.len + (k + 1) = L.len) := by show _ = _; simp [TmF.len] at hk; omega
      have htN : t.sz ≤ N ∧ l.sz ≤ N := by simp [TmF.sz] at hlN; omega
      have d0 : wr.cell? ⟨g, o + k * 2, none⟩ = some (.string nm) := by rw [hgr.1.cell (p := ⟨g, o + k * 2, none⟩) hg]; exact c0
      have d1 : wr.cell? ⟨g, o + k * 2 + 1, none⟩ = some v := by rw [hgr.1.cell (p := ⟨g, o + k * 2 + 1, none⟩) hg]; exact c1
      have HLN : Hid (((xs ++ Sp.numB L.len ++ done) ++ Sp.txtB nm).length + t.enc.length ≤ 140737488355328) := by
        show _ ≤ _
        have h1 := HL.out
        have h2 := HM.out.2
        rw [h2, TmF.enc] at h1
        simp only [List.length_append] at h1 ⊢
        omega
      have HT : Hid (∀ o, Calls Try.prog 81 #[.slice a' m cap', .string nm] (wr.alloc o) (ApdH base a' (wr.alloc o) (xs ++ Sp.numB L.len ++ done) (Sp.txtB nm))) := fun o =>
        (appText_at nm base a' cap' (xs ++ Sp.numB L.len ++ done) (wr.alloc o) m HM.out.1 (outs_alloc hout o) (by have := HLN.out; rw [List.length_append] at this; omega)).mono fun _ _ => Apd.hid
      have HNV : Hid (l.V w (Lo base) (some ⟨g, o, none⟩) (k + 1) ∧ l.Ok ∧ l.Bdd) := ⟨hv', hok.head.2, hbd.2⟩
      have HTV : Hid ((∀ W, Below base w W → t.V W (Lo base) v) ∧ t.Ok ∧ t.Bdd) := ⟨fun W hW => t.V_same (Same.of_below hW (Nat.le_refl _)) (fun _ h => h) v ht, hok.head.1, hbd.1⟩
      have HBX : Hid (∀ W, Gr base a' none (wr.alloc (.cells #[.string nm, v] 99)) W → W.cell? ⟨wr.heap.size, 0, none⟩ = some (.string nm) ∧ W.cell? ⟨wr.heap.size, 1, none⟩ = some v) := fun W hW => by
        have hblk := hW.2.1 wr.heap.size (by simp) (fun e => by have := (outs_lt hout _ e).2; omega)
        constructor
        · rw [World.cell?_of_block (w := wr.alloc (.cells #[.string nm, v] 99)) (a := ⟨wr.heap.size, 0, none⟩) hblk]; simp
        · rw [World.cell?_of_block (w := wr.alloc (.cells #[.string nm, v] 99)) (a := ⟨wr.heap.size, 1, none⟩) hblk]; simp
      have hsh := t.V_shape v ht
      have HGR : Hid (Gr base a a' w wr ∧ base ≤ wr.heap.size) := ⟨hgr, hout.2⟩
      clear hk hv' ht c0 c1 hlN hout hgr hok hbd
      rcases hsh with rfl | ⟨T, x, rfl⟩
      all_goals
        go_wp2_with fail
        refine (HT.out _).mono ?_
        rintro e w2 ⟨m2, a2, cap2, rfl, H2⟩
        obtain ⟨e0, e1⟩ := HBX.out w2 ⟨H2.out.2.2.1, H2.out.2.2.2.1, fun _ h => by simp at h⟩
        have HG2 : Hid (Gr base a a2 w w2) := (HGR.out.1.alloc HGR.out.2 _).trans H2.out.2.2
        clear HT
        go_wp2_with fail
        refine (HCH.out.at htN.1 H2.out.1 (HTV.out.1 _ HG2.out.1) HTV.out.2.1 HTV.out.2.2 H2.out.2.1 HLN.out).mono ?_
        rintro e w3 ⟨m3, a3, cap3, rfl, H3⟩
        go_wp2_with fail
        go_roundw
        case rel =>
          refine ⟨m3, k + 1, a3, cap3, done ++ (Sp.txtB nm ++ t.enc), l, rfl, by go_num, HK.out, htN.2, ⟨?_, ?_⟩, ⟨?_, HG2.out.trans H3.out.2.2, HNV.out⟩⟩
          · rw [H3.out.1]; simp only [List.append_assoc]
          · rw [HM.out.2, TmF.enc]; simp only [List.append_assoc]
          · have := H3.out.2.1; simp only [List.append_assoc] at this ⊢; exact this
        case measure => simp [intOf]; omega
end Go.Proofs.Ytjmhodngmfaboaa
