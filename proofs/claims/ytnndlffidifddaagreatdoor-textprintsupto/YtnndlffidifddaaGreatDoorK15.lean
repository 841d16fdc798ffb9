/- The text of a term, plainly, on one line or on many, and how long it is at most. -/
import Derived.Test.YtnndlffidifddaaGreatDoorK11
import Derived.Test.YtnndlffidifddaaGreatDoorK12
import Derived.Test.YtnndlffidifddaaGreatDoorK14
import Derived.Lib.ItoaLen
import Derived.Test.YtnndlffidifddaaGreatDoorK10
import Derived.Lib.Builder
namespace Go.Proofs.YtnndlffidifddaaGreatDoor
open Go.RowKit

def Sp.comma (ln : Bool) : List UInt8 := if ln then [44] else [44, 32]
/-- the text of a term that has no terms in it -/
def Sp.leaf (k : Int) (b : Bool) (i : Int) (f : Nat) (tx by' : ByteArray) (rf : Int) : List UInt8 :=
  if k = 2 then (if b then [116, 114, 117, 101] else [102, 97, 108, 115, 101]) else if k = 3 then Lib.itoa i else if k = 4 then Sp.floatT f else if k = 5 then Sp.quote tx else if k = 6 then Sp.hexs by' by'.size else if k = 7 then 64 :: Lib.decDigits rf.toNat else [110, 105, 108]
/-- what stands ahead of the closing bracket -/
def Sp.tail (ln : Bool) (n d : Nat) : List UInt8 := if n = 0 then [] else Sp.brk ln d
mutual
/-- the text of a term, so many brackets being open -/
def Tm.txt (ln : Bool) : Tm → Nat → List UInt8
  | .mk k b i f tx by' rf l fs c vr, d =>
    if k = 8 then 91 :: (l.txt ln (d + 1) true ++ (Sp.tail ln l.len d ++ [93]))
    else if k = 9 then 123 :: (fs.txt ln (d + 1) true ++ (Sp.tail ln fs.len d ++ [125]))
    else if k = 10 then c.data.toList ++ (47 :: Lib.decDigits vr.toNat) ++ (123 :: (fs.txt ln (d + 1) true ++ (Sp.tail ln fs.len d ++ [125])))
    else Sp.leaf k b i f tx by' rf
def TmL.txt (ln : Bool) : TmL → Nat → Bool → List UInt8
  | .nil, _, _ => []
  | .cons t l, d, fst => (if fst then [] else Sp.comma ln) ++ (Sp.brk ln d ++ (t.txt ln d ++ l.txt ln d false))
def TmF.txt (ln : Bool) : TmF → Nat → Bool → List UInt8
  | .nil, _, _ => []
  | .cons n t l, d, fst => (if fst then [] else Sp.comma ln) ++ (Sp.brk ln d ++ ((n.data.toList ++ [58, 32]) ++ (t.txt ln d ++ l.txt ln d false)))
end
/-- a list and its brackets -/
def TmL.txtB (l : TmL) (ln : Bool) (d : Nat) : List UInt8 := 91 :: (l.txt ln (d + 1) true ++ (Sp.tail ln l.len d ++ [93]))
def TmF.txtB (l : TmF) (ln : Bool) (d : Nat) : List UInt8 := 123 :: (l.txt ln (d + 1) true ++ (Sp.tail ln l.len d ++ [125]))

section
variable {ln : Bool} {d : Nat} {b : Bool} {i : Int} {f : Nat} {tx : ByteArray} {by' : ByteArray} {rf : Int} {l : TmL} {fs : TmF} {c : ByteArray} {vr : Int}
theorem Tm.txt_1 : (Tm.mk 1 b i f tx by' rf l fs c vr).txt ln d = [110, 105, 108] := by rw [Tm.txt, if_neg (by decide), if_neg (by decide), if_neg (by decide)]; rfl
theorem Tm.txt_2 : (Tm.mk 2 b i f tx by' rf l fs c vr).txt ln d = if b then [116, 114, 117, 101] else [102, 97, 108, 115, 101] := by rw [Tm.txt, if_neg (by decide), if_neg (by decide), if_neg (by decide)]; rfl
theorem Tm.txt_3 : (Tm.mk 3 b i f tx by' rf l fs c vr).txt ln d = Lib.itoa i := by rw [Tm.txt, if_neg (by decide), if_neg (by decide), if_neg (by decide)]; rfl
theorem Tm.txt_4 : (Tm.mk 4 b i f tx by' rf l fs c vr).txt ln d = Sp.floatT f := by rw [Tm.txt, if_neg (by decide), if_neg (by decide), if_neg (by decide)]; rfl
theorem Tm.txt_5 : (Tm.mk 5 b i f tx by' rf l fs c vr).txt ln d = Sp.quote tx := by rw [Tm.txt, if_neg (by decide), if_neg (by decide), if_neg (by decide)]; rfl
theorem Tm.txt_6 : (Tm.mk 6 b i f tx by' rf l fs c vr).txt ln d = Sp.hexs by' by'.size := by rw [Tm.txt, if_neg (by decide), if_neg (by decide), if_neg (by decide)]; rfl
theorem Tm.txt_7 : (Tm.mk 7 b i f tx by' rf l fs c vr).txt ln d = 64 :: Lib.decDigits rf.toNat := by rw [Tm.txt, if_neg (by decide), if_neg (by decide), if_neg (by decide)]; rfl
theorem Tm.txt_8 : (Tm.mk 8 b i f tx by' rf l fs c vr).txt ln d = l.txtB ln d := by rw [Tm.txt, if_pos rfl]; rfl
theorem Tm.txt_9 : (Tm.mk 9 b i f tx by' rf l fs c vr).txt ln d = fs.txtB ln d := by rw [Tm.txt, if_neg (by decide), if_pos rfl]; rfl
theorem Tm.txt_10 : (Tm.mk 10 b i f tx by' rf l fs c vr).txt ln d = c.data.toList ++ (47 :: Lib.decDigits vr.toNat) ++ fs.txtB ln d := by rw [Tm.txt, if_neg (by decide), if_neg (by decide), if_pos rfl]; rfl
end

theorem Sp.dec_len {n : Nat} (h : n < 18446744073709551616) : (Lib.decDigits n).length ≤ 20 := by rw [Lib.decDigits_length]; exact Lib.nDigits_le20 _ h
theorem Sp.trim_len (l : List UInt8) : (Sp.trim l).length ≤ l.length := by
  unfold Sp.trim
  rw [List.length_reverse]
  exact Nat.le_trans (List.Sublist.length_le (List.dropWhile_sublist _)) (by simp)
theorem Sp.fracT_len (m : Nat) : (Sp.fracT m).length ≤ 14 := by
  unfold Sp.fracT
  split
  · simp
  · have := Sp.trim_len (Sp.hexN m 13)
    rw [Sp.hexN_len] at this
    simp; omega
theorem Sp.expT_len (e : Int) (h : e.natAbs < 18446744073709551616) : (Sp.expT e).length ≤ 22 := by
  unfold Sp.expT
  have := Sp.dec_len h
  simp only [List.length_cons, List.length_append]
  split <;> simp <;> omega
theorem Sp.signT_len (b : Nat) : (Sp.signT b).length ≤ 1 := by unfold Sp.signT; split <;> simp
theorem Sp.floatT_len (b : Nat) : (Sp.floatT b).length ≤ 100 := by
  unfold Sp.floatT
  have h1 := Sp.signT_len b
  have h2 := Sp.fexp_lt b
  split
  · split
    · split <;> simp
    · simp [Sp.hexN_len]
  · split
    · split
      · simp; omega
      · have h3 := Sp.fracT_len (Sp.fman b * 2 ^ Sp.up (Sp.fman b) - 2 ^ 52)
        have h4 := Sp.expT_len (-1022 - (Sp.up (Sp.fman b) : Int)) (by have : Sp.up (Sp.fman b) ≤ 52 := by unfold Sp.up; omega
                                                                       omega)
        simp only [List.length_append, List.length_cons, List.length_nil]; omega
    · have h3 := Sp.fracT_len (Sp.fman b)
      have h4 := Sp.expT_len ((Sp.fexp b : Int) - 1023) (by omega)
      simp only [List.length_append, List.length_cons, List.length_nil]; omega
theorem Sp.quote_len (s : ByteArray) : (Sp.quote s).length ≤ 4 * s.size + 2 := by
  have := Sp.escs_len s s.size (Nat.le_refl _)
  simp [Sp.quote]; omega
theorem Sp.hexs_len (s : ByteArray) : ∀ k, k ≤ s.size → (Sp.hexs s k).length = 2 * k + 1
  | 0, _ => by simp [Sp.hexs]
  | k + 1, h => by rw [Sp.hexs_succ s k (by omega), List.length_append, Sp.hexs_len s k (by omega)]; simp [Sp.hex2]; omega
theorem Sp.brk_len (ln : Bool) (d : Nat) : (Sp.brk ln d).length ≤ 1 + 2 * d := by unfold Sp.brk; split <;> simp; omega
theorem Sp.comma_len (ln : Bool) : (Sp.comma ln).length ≤ 2 := by unfold Sp.comma; split <;> simp
theorem Sp.tail_len (ln : Bool) (n d : Nat) : (Sp.tail ln n d).length ≤ 1 + 2 * d := by unfold Sp.tail; split; · simp
                                                                                        · exact Sp.brk_len _ _

/-- what can be lies at most 64 deep -/
theorem Tm.Ok.deep {t : Tm} {n p d : Int} (h : (t.wk n p d).e = 0) : n ≤ 64 := by
  cases t with
  | mk k b i f tx by' rf l fs c vr =>
    have e : (Tm.mk k b i f tx by' rf l fs c vr).own p n = 0 := by
      by_cases e : (Tm.mk k b i f tx by' rf l fs c vr).own p n ≠ 0
      · rw [Tm.wk, if_pos e] at h; exact absurd h e
      · exact Decidable.not_not.1 e
    exact (Sp.ent_zero (Tm.own_ent _ _ _ e)).2.2.2

theorem ver_head {c : ByteArray} {v : Int} (h : Sp.headR c v = 0) : 1 ≤ v ∧ v ≤ 1000 := by
  unfold Sp.headR at h
  split at h
  · omega
  · split at h <;> omega
mutual
theorem Tm.txt_len (ln : Bool) : (t : Tm) → ∀ (n : Int) p d (q : Nat), (t.wk n p d).e = 0 → t.Bdd → (q : Int) ≤ n → ((t.txt ln q).length : Int) + 400 ≤ 300000 * ((t.wk n p d).p - p)
  | .mk k b i f tx by' rf l fs c vr, n, p, d, q, h, hb, hq0 => by
    have ho : Tm.Ok (.mk k b i f tx by' rf l fs c vr) := ⟨n, p, d, h⟩
    obtain ⟨p1, p2, -, -⟩ := ho.parts
    obtain ⟨q1, q2, q3, q4, q5⟩ := ho.bounds
    simp only [Tm.Bdd] at hb
    obtain ⟨bi, bf, br, bv, bl, bfs⟩ := hb
    have e : (Tm.mk k b i f tx by' rf l fs c vr).own p n = 0 := by
      by_cases e : (Tm.mk k b i f tx by' rf l fs c vr).own p n ≠ 0
      · rw [Tm.wk, if_pos e] at h; exact absurd h e
      · exact Decidable.not_not.1 e
    have hn := Sp.ent_zero (Tm.own_ent _ _ _ e)
    rw [Tm.wk, if_neg (by simp [e])] at h ⊢
    have hk : k = 1 ∨ k = 2 ∨ k = 3 ∨ k = 4 ∨ k = 5 ∨ k = 6 ∨ k = 7 ∨ k = 8 ∨ k = 9 ∨ k = 10 := by omega
    rcases hk with rfl | rfl | rfl | rfl | rfl | rfl | rfl | rfl | rfl | rfl
    · rw [Tm.txt_1]; simp; omega
    · rw [Tm.txt_2]; cases b <;> simp <;> omega
    · rw [Tm.txt_3]; have := Lib.itoa_length_le i bi.1 bi.2; simp; omega
    · rw [Tm.txt_4]; have := Sp.floatT_len f; simp; omega
    · rw [Tm.txt_5]; have := Sp.quote_len tx; have := q1 rfl; simp; omega
    · rw [Tm.txt_6]; have := Sp.hexs_len by' by'.size (Nat.le_refl _); have := q2 rfl; simp; omega
    · rw [Tm.txt_7]; have := Sp.dec_len (n := rf.toNat) (by omega); simp; omega
    · rw [Tm.txt_8, TmL.txtB]
      rw [if_pos rfl] at h ⊢
      have := TmL.txt_len ln l (n + 1) (p + 1) (max d n) (q + 1) true h bl (by omega)
      have := Sp.tail_len ln l.len q
      simp only [List.length_append, List.length_cons, List.length_nil]; omega
    · rw [Tm.txt_9, TmF.txtB]
      rw [if_neg (by decide), if_pos (by decide)] at h ⊢
      have hq := TmF.nm (q4 (.inl rfl))
      have := TmF.txt_len ln fs (n + 1) (p + 1) (max d n) (q + 1) true h bfs hq.2 (by omega)
      have := Sp.tail_len ln fs.len q
      simp only [List.length_append, List.length_cons, List.length_nil]; omega
    · rw [Tm.txt_10, TmF.txtB]
      rw [if_neg (by decide), if_pos (by decide)] at h ⊢
      have hq := TmF.nm (q4 (.inr rfl))
      have := TmF.txt_len ln fs (n + 1) (p + 1) (max d n) (q + 1) true h bfs hq.2 (by omega)
      have := Sp.tail_len ln fs.len q
      have hv := ver_head (q5 rfl)
      have := Sp.dec_len (n := vr.toNat) (by omega)
      have hc := head_len (q5 rfl)
      have hc2 : c.data.toList.length = c.size := by rw [Array.length_toList]; rfl
      simp only [List.length_append, List.length_cons, List.length_nil, hc2]; omega
theorem TmL.txt_len (ln : Bool) : (l : TmL) → ∀ (n : Int) p d (q : Nat) fst, (l.wk n p d).e = 0 → l.Bdd → (q : Int) ≤ n → ((l.txt ln q fst).length : Int) ≤ 300000 * ((l.wk n p d).p - p)
  | .nil, n, p, d, q, fst, h, _, _ => by simp [TmL.txt, TmL.wk]
  | .cons t l, n, p, d, q, fst, h, hb, hq => by
    rw [TmL.wk] at h ⊢
    by_cases e : (t.wk n p d).e ≠ 0
    · rw [if_pos e] at h; exact absurd h e
    · rw [if_neg e] at h ⊢
      have h0 := Tm.Ok.deep (Decidable.not_not.1 e)
      have h1 := Tm.txt_len ln t n p d q (Decidable.not_not.1 e) hb.1 hq
      have h2 := TmL.txt_len ln l n _ _ q false h hb.2 hq
      have h3 := Sp.brk_len ln q
      have h4 : (if fst then ([] : List UInt8) else Sp.comma ln).length ≤ 2 := by split; · simp
                                                                                  · exact Sp.comma_len _
      rw [TmL.txt]
      simp only [List.length_append]; omega
theorem TmF.txt_len (ln : Bool) : (l : TmF) → ∀ (n : Int) p d (q : Nat) fst, (l.wk n p d).e = 0 → l.Bdd → l.Nm → (q : Int) ≤ n → ((l.txt ln q fst).length : Int) ≤ 300000 * ((l.wk n p d).p - p)
  | .nil, n, p, d, q, fst, h, _, _, _ => by simp [TmF.txt, TmF.wk]
  | .cons m t l, n, p, d, q, fst, h, hb, hm, hq => by
    rw [TmF.wk] at h ⊢
    by_cases e : (t.wk n p d).e ≠ 0
    · rw [if_pos e] at h; exact absurd h e
    · rw [if_neg e] at h ⊢
      have h0 := Tm.Ok.deep (Decidable.not_not.1 e)
      have h1 := Tm.txt_len ln t n p d q (Decidable.not_not.1 e) hb.1 hq
      have h2 := TmF.txt_len ln l n _ _ q false h hb.2 hm.head.2 hq
      have h3 := Sp.brk_len ln q
      have h4 : (if fst then ([] : List UInt8) else Sp.comma ln).length ≤ 2 := by split; · simp
                                                                                  · exact Sp.comma_len _
      have h5 := hm.head.1
      have h6 : m.data.toList.length = m.size := by rw [Array.length_toList]; rfl
      rw [TmF.txt]
      simp only [List.length_append, List.length_cons, List.length_nil, h6]; omega
end
theorem Tm.txt_le {t : Tm} (h : (t.wk 1 0 0).e = 0) (hb : t.Bdd) (ln : Bool) : (t.txt ln 0).length ≤ 4915200000 := by
  have h1 := t.txt_len ln 1 0 0 0 h hb (by decide)
  have h2 := (t.wk_bd 1 0 0 (by decide) (by decide)).2.2 h
  omega
end Go.Proofs.YtnndlffidifddaaGreatDoor

/- text.writer: what it holds, and its add and newLine. -/
namespace Go.Proofs.YtnndlffidifddaaGreatDoor
open Go.RowKit

/-- a writer of one's own, and what it has gathered -/
def Wt (w : World) (wb : Nat) (ln : Bool) (d : Nat) (xs : List UInt8) : Prop := ∃ a m cap, w.heap[wb]? = some (.cells #[.slice a m cap, .bool ln, .int .i64 (d : Int)] 79 (0, 0)) ∧ Byts w wb a m cap xs
/-- what lies below the writer stays, and all that is no row of bytes and not the writer -/
structure Kw (wb : Nat) (w w' : World) : Prop where
  below : Below wb w w'
  kept : Lib.OthersKept 5 (some wb) w w'
theorem Kw.refl (wb : Nat) (w : World) : Kw wb w w := ⟨Below.refl _ _, Lib.OthersKept.refl _ _ _⟩
theorem Kw.size {wb : Nat} {w w' : World} (h : Kw wb w w') : w.heap.size ≤ w'.heap.size := h.below.size
theorem Kw.alloc {wb : Nat} {w w' : World} (h : Kw wb w w') (hb : wb ≤ w'.heap.size) (o : Obj) : Kw wb w (w'.alloc o) := ⟨h.below.alloc hb o, h.kept.alloc o⟩
theorem Kw.drew {wb : Nat} {w w' : World} (h : Kw wb w w') : Kw wb w w'.drew := ⟨h.below.drew, h.kept.drew⟩
theorem Kw.trans {wb : Nat} {a b c : World} (h : Kw wb a b) (k : Kw wb b c) : Kw wb a c := ⟨h.below.trans k.below, h.kept.trans k.kept⟩
theorem Kw.setCell {wb : Nat} {w w' : World} (h : Kw wb w w') (j : Nat) (v : Value) : Kw wb w (w'.setCell ⟨wb, j, none⟩ v) := ⟨h.below.setCell (p := ⟨wb, j, none⟩) (Nat.le_refl _) v, h.kept.setCell ⟨wb, j, none⟩ rfl v⟩
theorem Kp.kw {wb : Nat} {w w' : World} (h : Kp wb w w') : Kw wb w w' := ⟨h.below, fun k o hk _ ho => h.kept k o hk (by simp) ho⟩
/-- a box that is no row of bytes stays -/
theorem Kw.box {wb : Nat} {w w' : World} (h : Kw wb w w') {k : Nat} {c : Array Value} {T : TypeId} {fz : Nat × Nat} (hk : w.heap[k]? = some (.cells c T fz)) (hn : k ≠ wb) (hT : T ≠ 5) : w'.heap[k]? = some (.cells c T fz) :=
  h.kept k _ hk (by simpa using hn) (fun c' fz' e => by injection e with _ e2; exact hT e2)
def WtE (wb : Nat) (ln : Bool) (d : Nat) (xs : List UInt8) (w : World) (e : Ending) (w' : World) : Prop := e = .returned (.tuple #[]) ∧ Wt w' wb ln d xs ∧ Kw wb w w'
theorem Wt.lt {w : World} {wb : Nat} {ln : Bool} {d : Nat} {xs : List UInt8} (h : Wt w wb ln d xs) : wb < w.heap.size := by
  obtain ⟨a, m, cap, hb, _⟩ := h
  exact (Array.getElem?_eq_some_iff.1 hb).1
theorem Wt.on {w w' : World} {wb : Nat} {ln : Bool} {d : Nat} {xs : List UInt8} (h : Wt w wb ln d xs) (hw : Below w.heap.size w w') : Wt w' wb ln d xs := by
  have hlt := h.lt
  obtain ⟨a, m, cap, hb, hn⟩ := h
  exact ⟨a, m, cap, (hw.block wb hlt).trans hb, hn.1, own_on hn.2 hw⟩
theorem Wt.put {w : World} {wb : Nat} {ln : Bool} {d : Nat} {ys : List UInt8} {v : Value} {a' : Option Addr} {m' cap' : Nat} (hb : w.heap[wb]? = some (.cells #[v, .bool ln, .int .i64 (d : Int)] 79 (0, 0))) (hn : Byts w wb a' m' cap' ys) : Wt (w.setCell ⟨wb, 0, none⟩ (.slice a' m' cap')) wb ln d ys := by
  have hne := Lib.ownBlock_ne hn.2 hb (by decide)
  refine ⟨a', m', cap', ?_, hn.1, ?_⟩
  · simp [World.setCell, Array.getElem?_modify, hb]
  · exact hn.2.kept (row := some wb) ⟨rfl, rfl, rfl, by simp [World.setCell], fun k _ hk => Below.heap_setCell _ _ _ _ (fun e => hk (by simp [e]))⟩ (Or.inr hne)
/-- the depth is written -/
theorem Wt.deep {w : World} {wb : Nat} {ln : Bool} {d : Nat} {xs : List UInt8} (h : Wt w wb ln d xs) (q : Nat) : Wt (w.setCell ⟨wb, 2, none⟩ (.int .i64 (q : Int))) wb ln q xs := by
  obtain ⟨a, m, cap, hb, hn⟩ := h
  have hne := Lib.ownBlock_ne hn.2 hb (by decide)
  refine ⟨a, m, cap, ?_, hn.1, ?_⟩
  · simp [World.setCell, Array.getElem?_modify, hb]
  · exact hn.2.kept (row := some wb) ⟨rfl, rfl, rfl, by simp [World.setCell], fun k _ hk => Below.heap_setCell _ _ _ _ (fun e => hk (by simp [e]))⟩ (Or.inr hne)
theorem Wt.cells {w : World} {wb : Nat} {ln : Bool} {d : Nat} {xs : List UInt8} (h : Wt w wb ln d xs) : w.cell? ⟨wb, 1, none⟩ = some (.bool ln) ∧ w.cell? ⟨wb, 2, none⟩ = some (.int .i64 (d : Int)) ∧ w.frozen? ⟨wb, 2, none⟩ = false := by
  obtain ⟨a, m, cap, hb, hn⟩ := h
  exact ⟨by rw [Lib.cell_of_heap hb]; rfl, by rw [Lib.cell_of_heap hb]; rfl, Lib.frozen_of_heap hb 2⟩

set_option maxRecDepth 100000 in
set_option maxHeartbeats 1000000 in
theorem add_any (s : ByteArray) (w : World) (wb : Nat) (ln : Bool) (d : Nat) (xs : List UInt8) (h : Wt w wb ln d xs) (hl : xs.length + s.size ≤ 70368744177664) :
    Calls Tryz.prog 44 #[.pointer (some ⟨wb, 0, none⟩), .string s] w (WtE wb ln d (xs ++ s.data.toList) w) := by
  obtain ⟨i0, hi, hz0, hz1, hz2⟩ := info_parts Tryz.infoB
  have hlt := h.lt
  obtain ⟨a, m, cap, hbk, hn⟩ := h
  have c0 : w.cell? ⟨wb, 0, none⟩ = some (.slice a m cap) := by rw [Lib.cell_of_heap hbk]; rfl
  have f0 : w.frozen? ⟨wb, 0, none⟩ = false := Lib.frozen_of_heap hbk 0
  have hm : m + s.size ≤ 70368744177664 := by rw [hn.1]; exact hl
  have HK : Hid (w.heap[wb]? = some (.cells #[.slice a m cap, .bool ln, .int .i64 (d : Int)] 79 (0, 0)) ∧ Byts w wb a m cap xs ∧ (Value.slice a m cap).ownBlock ≠ some wb) := ⟨hbk, hn, Lib.ownBlock_ne hn.2 hbk (by decide)⟩
  clear hbk hn
  go_enter Tryz.func44, Tryz.ntmps44
  go_wp2_with (at_builtin; refine Lib.wpList_append_own_string _ rfl _ _ 23 9 rfl wb 5 i0 Tryz.undB Tryz.undSd hi hz0 hz1 hz2 (.slice a m cap) m (Sp.u8c xs) rfl HK.out.2.1.2 s rfl (by unfold maxLen; omega) (by omega) (by omega) ?_; intro v2 w2 hown hgrow hor; obtain ⟨a2, p2, rfl⟩ := own_slice_n hown; have hb2 : w2.heap[wb]? = some (.cells #[.slice a m cap, .bool ln, .int .i64 (d : Int)] 79 (0, 0)) := (hgrow.block wb hlt (fun e => HK.out.2.2 e.symm)).trans HK.out.1; have d0 : w2.cell? ⟨wb, 0, none⟩ = some (.slice a m cap) := (by rw [Lib.cell_of_heap hb2]; rfl); have e0 := Lib.frozen_of_heap hb2 0; have HK2 : Hid (Wt (w2.setCell ⟨wb, 0, none⟩ (.slice a2 (m + s.size) p2)) wb ln d (xs ++ s.data.toList)) := Wt.put hb2 (HK.out.2.1.str hown); have HB2 : Hid (Kw wb w w2) := ((Kp.refl wb w).grown hgrow (by omega) HK.out.2.1.2).kw; clear hb2 hown hgrow hor)
  go_end0
  exact ⟨rfl, HK2.out, HB2.out.setCell 0 _⟩

theorem Sp.brk_rep (d : Nat) : Sp.brk true d = 10 :: List.replicate (2 * d) 32 := by unfold Sp.brk; rw [if_pos rfl]

set_option maxRecDepth 100000 in
set_option maxHeartbeats 1000000 in
theorem newLine_any (w : World) (wb : Nat) (ln : Bool) (d : Nat) (xs : List UInt8) (h : Wt w wb ln d xs) (hl : xs.length + (Sp.brk ln d).length ≤ 70368744177664) :
    Calls Tryz.prog 75 #[.pointer (some ⟨wb, 0, none⟩)] w (WtE wb ln d (xs ++ Sp.brk ln d) w) := by
  obtain ⟨c1, c2, -⟩ := h.cells
  have HW : Hid (Wt w wb ln d xs) := h
  clear h
  cases ln with
  | false =>
    go_enter Tryz.func75, Tryz.ntmps75
    go_wp2_with fail
    go_end0
    exact ⟨rfl, by simpa [Sp.brk] using HW.out, Kw.refl _ _⟩
  | true =>
    rw [Sp.brk_rep] at hl ⊢
    have HL : Hid (xs.length + 1 + 2 * d ≤ 70368744177664) := by simp at hl; show _ ≤ _; omega
    have HA : Hid (Calls Tryz.prog 44 #[.pointer (some ⟨wb, 0, none⟩), .string ⟨#[10]⟩] w (WtE wb true d (xs ++ [10]) w)) := add_any ⟨#[10]⟩ w wb true d xs HW.out (by have := HL.out; show _ + 1 ≤ _; omega)
    clear hl
    go_enter Tryz.func75, Tryz.ntmps75
    go_wp2_with fail
    refine HA.out.mono ?_
    rintro e w1 ⟨rfl, hw1, hk1⟩
    have HW1 : Hid (Wt w1 wb true d (xs ++ [10]) ∧ Kw wb w w1) := ⟨hw1, hk1⟩
    obtain ⟨d1, d2, -⟩ := hw1.cells
    clear hw1 hk1 c1 c2 HW HA
    have hd := HL.out
    go_wp2_with fail
    go_loopw [13] (fun i wr => ∃ k : Nat, k ≤ d ∧ i = .int .i64 (k : Int) ∧ Hid (Wt wr wb true d (xs ++ (10 :: List.replicate (2 * k) 32)) ∧ Kw wb w wr)) (fun i _ => d - (intOf i).toNat)
    case atStart => exact ⟨0, by omega, rfl, by simpa using HW1⟩
    case round =>
      obtain ⟨k, hk, rfl, HK⟩ := hrel
      by_cases hlt : k < d
      · have HA : Hid (Calls Tryz.prog 44 #[.pointer (some ⟨wb, 0, none⟩), .string ⟨#[32, 32]⟩] wr (WtE wb true d (xs ++ (10 :: List.replicate (2 * (k + 1)) 32)) wr)) := by
          have := add_any ⟨#[32, 32]⟩ wr wb true d _ HK.out.1 (by have := HL.out; simp; show _ + 2 ≤ _; omega)
          rw [Sp.rep2]
          show Calls _ _ _ _ _
          simpa using this
        go_wp2_with fail
        refine HA.out.mono ?_
        rintro e w2 ⟨rfl, hw2, hk2⟩
        have HK2 : Hid (Wt w2 wb true d (xs ++ (10 :: List.replicate (2 * (k + 1)) 32)) ∧ Kw wb w w2) := ⟨hw2, HK.out.2.trans hk2⟩
        clear hw2 hk2
        go_wp2_with fail
        go_roundw
        case rel => exact ⟨k + 1, by omega, by go_num, HK2⟩
        case measure => simp [intOf]; omega
      · obtain rfl : k = d := by omega
        go_wp2_with fail
        go_end0
        exact ⟨rfl, HK.out.1, HK.out.2⟩
end Go.Proofs.YtnndlffidifddaaGreatDoor

