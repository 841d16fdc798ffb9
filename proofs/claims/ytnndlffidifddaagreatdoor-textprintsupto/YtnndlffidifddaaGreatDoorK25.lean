/- text.writer: what it holds, and its add and newLine. -/
import Derived.Test.YtnndlffidifddaaGreatDoorK24
import Derived.Test.YtnndlffidifddaaGreatDoorK10
import Derived.Lib.Builder
namespace Go.Proofs.YtnndlffidifddaaGreatDoor
open Go.RowKit

/-- a writer of one's own, and what it has gathered -/
def Wt (w : World) (wb : Nat) (ln : Bool) (d : Nat) (xs : List UInt8) : Prop := ∃ a m cap, w.heap[wb]? = some (.cells #[.slice a m cap, .bool ln, .int .i64 (d : Int)] 79 (0, 0)) ∧ Byts w wb a m cap xs
/-- what lies below the writer stays, and all that is no row of bytes and not the writer -/
structure Kw (wb : Nat) (w w' : World) : Prop where
  below : Below wb w w'
  kept : Lib.OthersKept 5 (some wb) w w'
theorem Kw.refl (wb : Nat) (w : World) : Kw wb w w := ⟨Below.refl _ _, Lib.OthersKept.refl _ _ _⟩
theorem Kw.size {wb : Nat} {w w' : World} (h : Kw wb w w') : w.heap.size ≤ w'.heap.size := h.below.size
theorem Kw.alloc {wb : Nat} {w w' : World} (h : Kw wb w w') (hb : wb ≤ w'.heap.size) (o : Obj) : Kw wb w (w'.alloc o) := ⟨h.below.alloc hb o, h.kept.alloc o⟩
theorem Kw.drew {wb : Nat} {w w' : World} (h : Kw wb w w') : Kw wb w w'.drew := ⟨h.below.drew, h.kept.drew⟩
theorem Kw.trans {wb : Nat} {a b c : World} (h : Kw wb a b) (k : Kw wb b c) : Kw wb a c := ⟨h.below.trans k.below, h.kept.trans k.kept⟩
theorem Kw.setCell {wb : Nat} {w w' : World} (h : Kw wb w w') (j : Nat) (v : Value) : Kw wb w (w'.setCell ⟨wb, j, none⟩ v) := ⟨h.below.setCell (p := ⟨wb, j, none⟩) (Nat.le_refl _) v, h.kept.setCell ⟨wb, j, none⟩ rfl v⟩
theorem Kp.kw {wb : Nat} {w w' : World} (h : Kp wb w w') : Kw wb w w' := ⟨h.below, fun k o hk _ ho => h.kept k o hk (by simp) ho⟩
/-- a box that is no row of bytes stays -/
theorem Kw.box {wb : Nat} {w w' : World} (h : Kw wb w w') {k : Nat} {c : Array Value} {T : TypeId} {fz : Nat × Nat} (hk : w.heap[k]? = some (.cells c T fz)) (hn : k ≠ wb) (hT : T ≠ 5) : w'.heap[k]? = some (.cells c T fz) :=
  h.kept k _ hk (by simpa using hn) (fun c' fz' e => by injection e with _ e2; exact hT e2)
def WtE (wb : Nat) (ln : Bool) (d : Nat) (xs : List UInt8) (w : World) (e : Ending) (w' : World) : Prop := e = .returned (.tuple #[]) ∧ Wt w' wb ln d xs ∧ Kw wb w w'
theorem Wt.lt {w : World} {wb : Nat} {ln : Bool} {d : Nat} {xs : List UInt8} (h : Wt w wb ln d xs) : wb < w.heap.size := by
  obtain ⟨a, m, cap, hb, _⟩ := h
  exact (Array.getElem?_eq_some_iff.1 hb).1
theorem Wt.on {w w' : World} {wb : Nat} {ln : Bool} {d : Nat} {xs : List UInt8} (h : Wt w wb ln d xs) (hw : Below w.heap.size w w') : Wt w' wb ln d xs := by
  have hlt := h.lt
  obtain ⟨a, m, cap, hb, hn⟩ := h
  exact ⟨a, m, cap, (hw.block wb hlt).trans hb, hn.1, own_on hn.2 hw⟩
theorem Wt.put {w : World} {wb : Nat} {ln : Bool} {d : Nat} {ys : List UInt8} {v : Value} {a' : Option Addr} {m' cap' : Nat} (hb : w.heap[wb]? = some (.cells #[v, .bool ln, .int .i64 (d : Int)] 79 (0, 0))) (hn : Byts w wb a' m' cap' ys) : Wt (w.setCell ⟨wb, 0, none⟩ (.slice a' m' cap')) wb ln d ys := by
  have hne := Lib.ownBlock_ne hn.2 hb (by decide)
  refine ⟨a', m', cap', ?_, hn.1, ?_⟩
  · simp [World.setCell, Array.getElem?_modify, hb]
  · exact hn.2.kept (row := some wb) ⟨rfl, rfl, rfl, by simp [World.setCell], fun k _ hk => Below.heap_setCell _ _ _ _ (fun e => hk (by simp [e]))⟩ (Or.inr hne)
/-- the depth is written -/
theorem Wt.deep {w : World} {wb : Nat} {ln : Bool} {d : Nat} {xs : List UInt8} (h : Wt w wb ln d xs) (q : Nat) : Wt (w.setCell ⟨wb, 2, none⟩ (.int .i64 (q : Int))) wb ln q xs := by
  obtain ⟨a, m, cap, hb, hn⟩ := h
  have hne := Lib.ownBlock_ne hn.2 hb (by decide)
  refine ⟨a, m, cap, ?_, hn.1, ?_⟩
  · simp [World.setCell, Array.getElem?_modify, hb]
  · exact hn.2.kept (row := some wb) ⟨rfl, rfl, rfl, by simp [World.setCell], fun k _ hk => Below.heap_setCell _ _ _ _ (fun e => hk (by simp [e]))⟩ (Or.inr hne)
theorem Wt.cells {w : World} {wb : Nat} {ln : Bool} {d : Nat} {xs : List UInt8} (h : Wt w wb ln d xs) : w.cell? ⟨wb, 1, none⟩ = some (.bool ln) ∧ w.cell? ⟨wb, 2, none⟩ = some (.int .i64 (d : Int)) ∧ w.frozen? ⟨wb, 2, none⟩ = false := by
  obtain ⟨a, m, cap, hb, hn⟩ := h
  exact ⟨by rw [Lib.cell_of_heap hb]; rfl, by rw [Lib.cell_of_heap hb]; rfl, Lib.frozen_of_heap hb 2⟩

set_option maxRecDepth 100000 in
set_option maxHeartbeats 1000000 in
theorem add_any (s : ByteArray) (w : World) (wb : Nat) (ln : Bool) (d : Nat) (xs : List UInt8) (h : Wt w wb ln d xs) (hl : xs.length + s.size ≤ 70368744177664) :
    Calls Tryz.prog 44 #[.pointer (some ⟨wb, 0, none⟩), .string s] w (WtE wb ln d (xs ++ s.data.toList) w) := by
  obtain ⟨i0, hi, hz0, hz1, hz2⟩ := info_parts Tryz.infoB
  have hlt := h.lt
  obtain ⟨a, m, cap, hbk, hn⟩ := h
  have c0 : w.cell? ⟨wb, 0, none⟩ = some (.slice a m cap) := by rw [Lib.cell_of_heap hbk]; rfl
  have f0 : w.frozen? ⟨wb, 0, none⟩ = false := Lib.frozen_of_heap hbk 0
  have hm : m + s.size ≤ 70368744177664 := by rw [hn.1]; exact hl
  have HK : Hid (w.heap[wb]? = some (.cells #[.slice a m cap, .bool ln, .int .i64 (d : Int)] 79 (0, 0)) ∧ Byts w wb a m cap xs ∧ (Value.slice a m cap).ownBlock ≠ some wb) := ⟨hbk, hn, Lib.ownBlock_ne hn.2 hbk (by decide)⟩
  clear hbk hn
  go_enter Tryz.func44, Tryz.ntmps44
  go_wp2_with (at_builtin; refine Lib.wpList_append_own_string _ rfl _ _ 23 9 rfl wb 5 i0 Tryz.undB Tryz.undSd hi hz0 hz1 hz2 (.slice a m cap) m (Sp.u8c xs) rfl HK.out.2.1.2 s rfl (by unfold maxLen; omega) (by omega) (by omega) ?_; intro v2 w2 hown hgrow hor; obtain ⟨a2, p2, rfl⟩ := own_slice_n hown; have hb2 : w2.heap[wb]? = some (.cells #[.slice a m cap, .bool ln, .int .i64 (d : Int)] 79 (0, 0)) := (hgrow.block wb hlt (fun e => HK.out.2.2 e.symm)).trans HK.out.1; have d0 : w2.cell? ⟨wb, 0, none⟩ = some (.slice a m cap) := (by rw [Lib.cell_of_heap hb2]; rfl); have e0 := Lib.frozen_of_heap hb2 0; have HK2 : Hid (Wt (w2.setCell ⟨wb, 0, none⟩ (.slice a2 (m + s.size) p2)) wb ln d (xs ++ s.data.toList)) := Wt.put hb2 (HK.out.2.1.str hown); have HB2 : Hid (Kw wb w w2) := ((Kp.refl wb w).grown hgrow (by omega) HK.out.2.1.2).kw; clear hb2 hown hgrow hor)
  go_end0
  exact ⟨rfl, HK2.out, HB2.out.setCell 0 _⟩

theorem Sp.brk_rep (d : Nat) : Sp.brk true d = 10 :: List.replicate (2 * d) 32 := by unfold Sp.brk; rw [if_pos rfl]

set_option maxRecDepth 100000 in
set_option maxHeartbeats 1000000 in
theorem newLine_any (w : World) (wb : Nat) (ln : Bool) (d : Nat) (xs : List UInt8) (h : Wt w wb ln d xs) (hl : xs.length + (Sp.brk ln d).length ≤ 70368744177664) :
    Calls Tryz.prog 75 #[.pointer (some ⟨wb, 0, none⟩)] w (WtE wb ln d (xs ++ Sp.brk ln d) w) := by
  obtain ⟨c1, c2, -⟩ := h.cells
  have HW : Hid (Wt w wb ln d xs) := h
  clear h
  cases ln with
  | false =>
    go_enter Tryz.func75, Tryz.ntmps75
    go_wp2_with fail
    go_end0
    exact ⟨rfl, by simpa [Sp.brk] using HW.out, Kw.refl _ _⟩
  | true =>
    rw [Sp.brk_rep] at hl ⊢
    have HL : Hid (xs.length + 1 + 2 * d ≤ 70368744177664) := by simp at hl; show _ ≤ _; omega
    have HA : Hid (Calls Tryz.prog 44 #[.pointer (some ⟨wb, 0, none⟩), .string ⟨#[10]⟩] w (WtE wb true d (xs ++ [10]) w)) := add_any ⟨#[10]⟩ w wb true d xs HW.out (by have := HL.out; show _ + 1 ≤ _; omega)
    clear hl
    go_enter Tryz.func75, Tryz.ntmps75
    go_wp2_with fail
    refine HA.out.mono ?_
    rintro e w1 ⟨rfl, hw1, hk1⟩
    have HW1 : Hid (Wt w1 wb true d (xs ++ [10]) ∧ Kw wb w w1) := ⟨hw1, hk1⟩
    obtain ⟨d1, d2, -⟩ := hw1.cells
    clear hw1 hk1 c1 c2 HW HA
    have hd := HL.out
    go_wp2_with fail
    go_loopw [13] (fun i wr => ∃ k : Nat, k ≤ d ∧ i = .int .i64 (k : Int) ∧ Hid (Wt wr wb true d (xs ++ (10 :: List.replicate (2 * k) 32)) ∧ Kw wb w wr)) (fun i _ => d - (intOf i).toNat)
    case atStart => exact ⟨0, by omega, rfl, by simpa using HW1⟩
    case round =>
      obtain ⟨k, hk, rfl, HK⟩ := hrel
      by_cases hlt : k < d
      · have HA : Hid (Calls Tryz.prog 44 #[.pointer (some ⟨wb, 0, none⟩), .string ⟨#[32, 32]⟩] wr (WtE wb true d (xs ++ (10 :: List.replicate (2 * (k + 1)) 32)) wr)) := by
          have := add_any ⟨#[32, 32]⟩ wr wb true d _ HK.out.1 (by have := HL.out; simp; show _ + 2 ≤ _; omega)
          rw [Sp.rep2]
          show Calls _ _ _ _ _
          simpa using this
        go_wp2_with fail
        refine HA.out.mono ?_
        rintro e w2 ⟨rfl, hw2, hk2⟩
        have HK2 : Hid (Wt w2 wb true d (xs ++ (10 :: List.replicate (2 * (k + 1)) 32)) ∧ Kw wb w w2) := ⟨hw2, HK.out.2.trans hk2⟩
        clear hw2 hk2
        go_wp2_with fail
        go_roundw
        case rel => exact ⟨k + 1, by omega, by go_num, HK2⟩
        case measure => simp [intOf]; omega
      · obtain rfl : k = d := by omega
        go_wp2_with fail
        go_end0
        exact ⟨rfl, HK.out.1, HK.out.2⟩
end Go.Proofs.YtnndlffidifddaaGreatDoor

/- text.writer: bytes; items in a row, plainly. -/
namespace Go.Proofs.YtnndlffidifddaaGreatDoor
open Go.RowKit

set_option maxRecDepth 100000 in
set_option maxHeartbeats 2000000 in
theorem wbytes_any (s : ByteArray) (ab : Option Addr) (cb : Nat) (B : Nat → Prop) (w : World) (wb : Nat) (ln : Bool) (d : Nat) (xs : List UInt8) (h : Wt w wb ln d xs) (hB : ∀ k, B k → k < wb) (hx : BytesAt w B ab s) (hl : xs.length + (2 * s.size + 1) ≤ 70368744177664) :
    Calls Tryz.prog 47 #[.pointer (some ⟨wb, 0, none⟩), .slice ab s.size cb] w (WtE wb ln d (xs ++ Sp.hexs s s.size) w) := by
  have HXB : Hid (BytesAt w B ab s ∧ ∀ k, B k → k < wb) := ⟨hx, hB⟩
  have HA : Hid (Calls Tryz.prog 44 #[.pointer (some ⟨wb, 0, none⟩), .string ⟨#[35]⟩] w (WtE wb ln d (xs ++ [35]) w)) := add_any ⟨#[35]⟩ w wb ln d xs h (by show _ + 1 ≤ _; omega)
  clear hx hB h
  go_enter Tryz.func47, Tryz.ntmps47
  go_wp2_with fail
  refine HA.out.mono ?_
  rintro e w1 ⟨rfl, hw1, hk1⟩
  have HW1 : Hid (Wt w1 wb ln d (xs ++ [35]) ∧ Kw wb w w1) := ⟨hw1, hk1⟩
  clear hw1 hk1 HA
  go_wp2_with fail
  go_loopw [10] (fun i wr => ∃ k : Nat, k ≤ s.size ∧ i = .int .i64 (k : Int) ∧ Hid (Wt wr wb ln d (xs ++ Sp.hexs s k) ∧ Kw wb w wr)) (fun i _ => s.size - (intOf i).toNat)
  case atStart => exact ⟨0, by omega, rfl, by simpa [Sp.hexs] using HW1⟩
  case round =>
    obtain ⟨k, hk, rfl, HK⟩ := hrel
    by_cases hlt : k < s.size
    · obtain ⟨g, o, rfl, hgB, hcl⟩ := HXB.out.1 k hlt
      have hby : wr.cell? ⟨g, o + k, none⟩ = some (.int .u8 (s[k].toNat : Int)) := by
        obtain ⟨g2, o2, e2, _, hc2⟩ := (HXB.out.1.same (B' := B) (fun q hq => HK.out.2.below.block q (HXB.out.2 q hq)) (fun _ h => h)) k hlt
        injection e2 with e2
        injection e2 with e3 e4
        subst e3 e4
        rw [byte_at]; exact hc2
      clear hcl hgB
      have hlen : (xs ++ Sp.hexs s k).length = xs.length + (2 * k + 1) := by rw [List.length_append, Sp.hexs_len s k hk]
      have HX : Hid (Sp.hexs s (k + 1) = Sp.hexs s k ++ [Sp.hexd (s[k].toNat / 16), Sp.hexd (s[k].toNat % 16)]) := Sp.hexs_succ s k hlt
      obtain ⟨hwr, hkr⟩ := HK.out
      have hz := hwr.lt
      obtain ⟨a, m, cap, hbk, hn⟩ := hwr
      have c0 : wr.cell? ⟨wb, 0, none⟩ = some (.slice a m cap) := by rw [Lib.cell_of_heap hbk]; rfl
      have HC : Hid (Calls Tryz.prog 58 #[.slice a m cap, .int .u8 (s[k].toNat : Int)] wr (AppK wb (xs ++ Sp.hexs s k) [Sp.hexd (s[k].toNat / 16), Sp.hexd (s[k].toNat % 16)] wr)) := by
        have := appendByte_any s[k].toNat s[k].toNat_lt (xs ++ Sp.hexs s k) a cap wb wr (by rw [← hn.1]; exact hn) (by omega) (by omega)
        rw [← hn.1] at this
        exact this
      have HBK : Hid (wr.heap[wb]? = some (.cells #[.slice a m cap, .bool ln, .int .i64 (d : Int)] 79 (0, 0)) ∧ Kw wb w wr) := ⟨hbk, hkr⟩
      clear hbk hn hkr HK hlen
      go_wp2_with fail
      refine HC.out.mono ?_
      rintro e w2 ⟨a2, p2, rfl, hn2, hk2⟩
      have hb2 : w2.heap[wb]? = some (.cells #[.slice a m cap, .bool ln, .int .i64 (d : Int)] 79 (0, 0)) := hk2.kept wb _ HBK.out.1 (by simp) (fun c' fz' e => by injection e with _ e2; exact absurd e2 (by decide))
      have d0 : w2.cell? ⟨wb, 0, none⟩ = some (.slice a m cap) := by rw [Lib.cell_of_heap hb2]; rfl
      have e0 := Lib.frozen_of_heap hb2 0
      generalize (xs ++ Sp.hexs s k).length + [Sp.hexd (s[k].toNat / 16), Sp.hexd (s[k].toNat % 16)].length = q at hn2 ⊢
      have HK2 : Hid (Wt (w2.setCell ⟨wb, 0, none⟩ (.slice a2 q p2)) wb ln d (xs ++ Sp.hexs s (k + 1)) ∧ Kw wb w (w2.setCell ⟨wb, 0, none⟩ (.slice a2 q p2))) := by
        refine ⟨?_, (HBK.out.2.trans hk2.kw).setCell 0 _⟩
        rw [HX.out, ← List.append_assoc]
        exact Wt.put hb2 hn2
      clear hb2 hn2 hk2 HC
      go_wp2_with fail
      go_roundw
      case rel => exact ⟨k + 1, by omega, by go_num, HK2⟩
      case measure => simp [intOf]; omega
    · obtain rfl : k = s.size := by omega
      go_wp2_with fail
      go_end0
      exact ⟨rfl, HK.out.1, HK.out.2⟩

/-- so many items of a row, commas and line feeds between them -/
def Sp.seqTo (ln : Bool) (d : Nat) (its : List (List UInt8)) : Nat → List UInt8
  | 0 => []
  | k + 1 => Sp.seqTo ln d its k ++ ((if k = 0 then [] else Sp.comma ln) ++ (Sp.brk ln d ++ its.getD k []))
theorem Sp.seqTo_step (ln : Bool) (d : Nat) (its : List (List UInt8)) (k : Nat) : (Sp.seqTo ln d its k).length ≤ (Sp.seqTo ln d its (k + 1)).length := by rw [Sp.seqTo, List.length_append]; omega
theorem Sp.seqTo_le (ln : Bool) (d : Nat) (its : List (List UInt8)) (k : Nat) : ∀ j, (Sp.seqTo ln d its k).length ≤ (Sp.seqTo ln d its (k + j)).length
  | 0 => Nat.le_refl _
  | j + 1 => Nat.le_trans (Sp.seqTo_le ln d its k j) (Sp.seqTo_step ln d its (k + j))
theorem Sp.seqTo_mono (ln : Bool) (d : Nat) (its : List (List UInt8)) {k n : Nat} (h : k ≤ n) : (Sp.seqTo ln d its k).length ≤ (Sp.seqTo ln d its n).length := by
  obtain ⟨j, rfl⟩ := Nat.le.dest h
  exact Sp.seqTo_le ln d its k j
def Sp.brkd (op sh : ByteArray) (ln : Bool) (d : Nat) (its : List (List UInt8)) : List UInt8 := op.data.toList ++ (Sp.seqTo ln (d + 1) its its.length ++ (Sp.tail ln its.length d ++ sh.data.toList))
/-- the texts of a list's terms, of fields -/
def TmL.texts (ln : Bool) (d : Nat) : TmL → List (List UInt8)
  | .nil => []
  | .cons t l => t.txt ln d :: l.texts ln d
def TmF.texts (ln : Bool) (d : Nat) : TmF → List (List UInt8)
  | .nil => []
  | .cons n t l => ((n.data.toList ++ [58, 32]) ++ t.txt ln d) :: l.texts ln d
theorem TmL.texts_len (ln : Bool) (d : Nat) : (l : TmL) → (l.texts ln d).length = l.len
  | .nil => rfl
  | .cons t l => by simp [TmL.texts, TmL.len, TmL.texts_len ln d l]
theorem TmF.texts_len (ln : Bool) (d : Nat) : (l : TmF) → (l.texts ln d).length = l.len
  | .nil => rfl
  | .cons n t l => by simp [TmF.texts, TmF.len, TmF.texts_len ln d l]
theorem Sp.getD_mid (pre : List (List UInt8)) (x : List UInt8) (post : List (List UInt8)) : (pre ++ x :: post).getD pre.length [] = x := by simp [List.getD]
theorem TmL.seq (ln : Bool) (d : Nat) : (l : TmL) → ∀ pre : List (List UInt8), Sp.seqTo ln d (pre ++ l.texts ln d) (pre.length + l.len) = Sp.seqTo ln d (pre ++ l.texts ln d) pre.length ++ l.txt ln d (decide (pre.length = 0))
  | .nil, pre => by simp [TmL.txt, TmL.len]
  | .cons t l, pre => by
    have h := TmL.seq ln d l (pre ++ [t.txt ln d])
    rw [TmL.texts, TmL.len, TmL.txt]
    simp only [List.append_assoc, List.singleton_append, List.length_append, List.length_cons, List.length_nil, Nat.zero_add] at h
    rw [show pre.length + (l.len + 1) = pre.length + 1 + l.len by omega, h, Sp.seqTo, Sp.getD_mid]
    by_cases h0 : pre.length = 0 <;> simp [h0]
theorem TmF.seq (ln : Bool) (d : Nat) : (l : TmF) → ∀ pre : List (List UInt8), Sp.seqTo ln d (pre ++ l.texts ln d) (pre.length + l.len) = Sp.seqTo ln d (pre ++ l.texts ln d) pre.length ++ l.txt ln d (decide (pre.length = 0))
  | .nil, pre => by simp [TmF.txt, TmF.len]
  | .cons n t l, pre => by
    have h := TmF.seq ln d l (pre ++ [(n.data.toList ++ [58, 32]) ++ t.txt ln d])
    rw [TmF.texts, TmF.len, TmF.txt]
    simp only [List.append_assoc, List.singleton_append, List.length_append, List.length_cons, List.length_nil, Nat.zero_add] at h ⊢
    rw [show pre.length + (l.len + 1) = pre.length + 1 + l.len by omega, h, Sp.seqTo, Sp.getD_mid]
    by_cases h0 : pre.length = 0 <;> simp [h0]
theorem TmL.brkd (l : TmL) (ln : Bool) (d : Nat) : Sp.brkd ⟨#[91]⟩ ⟨#[93]⟩ ln d (l.texts ln (d + 1)) = l.txtB ln d := by
  have h := l.seq ln (d + 1) []
  simp only [List.nil_append, List.length_nil, Nat.zero_add, Sp.seqTo] at h
  rw [Sp.brkd, TmL.texts_len, h]
  simp [TmL.txtB]
theorem TmF.brkd (l : TmF) (ln : Bool) (d : Nat) : Sp.brkd ⟨#[123]⟩ ⟨#[125]⟩ ln d (l.texts ln (d + 1)) = l.txtB ln d := by
  have h := l.seq ln (d + 1) []
  simp only [List.nil_append, List.length_nil, Nat.zero_add, Sp.seqTo] at h
  rw [Sp.brkd, TmF.texts_len, h]
  simp [TmF.txtB]
end Go.Proofs.YtnndlffidifddaaGreatDoor

/- text.writer.bracketed, its items written by the closure of value. -/
namespace Go.Proofs.YtnndlffidifddaaGreatDoor
open Go.RowKit
theorem Sp.sz_list (s : ByteArray) : s.size = s.data.toList.length := by rw [Array.length_toList]; rfl

set_option maxRecDepth 100000 in
set_option maxHeartbeats 4000000 in
theorem bracketed_L (op sh : ByteArray) (its : List (List UInt8)) (b1 b2 : Nat) (w : World) (wb : Nat) (ln : Bool) (d : Nat) (xs : List UInt8) (h : Wt w wb ln d xs) (hd : d ≤ 1000)
    (hit : ∀ (i : Nat) (W : World) (ys : List UInt8), i < its.length → Kw wb w W → Wt W wb ln (d + 1) ys → ys.length + (its.getD i []).length ≤ 17592180000000 → Calls Tryz.prog 50 #[.int .i64 (i : Int), .pointer (some ⟨b1, 0, none⟩), .pointer (some ⟨b2, 0, none⟩)] W (WtE wb ln (d + 1) (ys ++ its.getD i []) W))
    (hn : its.length ≤ 4096) (hl : xs.length + (Sp.brkd op sh ln d its).length ≤ 17592180000000) :
    Calls Tryz.prog 49 #[.pointer (some ⟨wb, 0, none⟩), .string op, .string sh, .int .i64 (its.length : Int), .func (.func 50) #[] #[.pointer (some ⟨b1, 0, none⟩), .pointer (some ⟨b2, 0, none⟩)]] w (WtE wb ln d (xs ++ Sp.brkd op sh ln d its) w) := by
  have HI : Hid (∀ (i : Nat) (W : World) (ys : List UInt8), i < its.length → Kw wb w W → Wt W wb ln (d + 1) ys → ys.length + (its.getD i []).length ≤ 17592180000000 → Calls Tryz.prog 50 #[.int .i64 (i : Int), .pointer (some ⟨b1, 0, none⟩), .pointer (some ⟨b2, 0, none⟩)] W (WtE wb ln (d + 1) (ys ++ its.getD i []) W)) := hit
  have HL : Hid (xs.length + (op.data.toList ++ (Sp.seqTo ln (d + 1) its its.length ++ (Sp.tail ln its.length d ++ sh.data.toList))).length ≤ 17592180000000) := hl
  have HB2 : Hid (d ≤ 1000) := hd
  obtain ⟨c1, -, -⟩ := h.cells
  have HA : Hid (Calls Tryz.prog 44 #[.pointer (some ⟨wb, 0, none⟩), .string op] w (WtE wb ln d (xs ++ op.data.toList) w)) := add_any op w wb ln d xs h (by rw [Sp.sz_list]; have h1 := HL.out; simp only [List.length_append] at h1; omega)
  clear h hit hl
  cases ln with
  | false =>
    have HCM : Hid (∀ (W : World) (ys : List UInt8), Wt W wb false (d + 1) ys → ys.length + 2 ≤ 70368744177664 → Calls Tryz.prog 44 #[.pointer (some ⟨wb, 0, none⟩), .string ⟨#[44, 32]⟩] W (WtE wb false (d + 1) (ys ++ Sp.comma false) W)) := fun W ys hW hy => add_any ⟨#[44, 32]⟩ W wb false (d + 1) ys hW (by first | (show _ + 1 ≤ _; omega) | (show _ + 2 ≤ _; omega))
    have HNL : Hid (∀ (W : World) (ys : List UInt8) (q : Nat), Wt W wb false q ys → ys.length + (Sp.brk false q).length ≤ 70368744177664 → Calls Tryz.prog 75 #[.pointer (some ⟨wb, 0, none⟩)] W (WtE wb false q (ys ++ Sp.brk false q) W)) := fun W ys q hW hy => newLine_any W wb false q ys hW hy
    go_enter Tryz.func49, Tryz.ntmps49
    go_wp2_with fail
    refine HA.out.mono ?_
    rintro e w1 ⟨rfl, hw1, hk1⟩
    obtain ⟨d1, d2, d3⟩ := hw1.cells
    have HW2 : Hid (Wt (w1.setCell ⟨wb, 2, none⟩ (.int .i64 ((d : Int) + 1))) wb false (d + 1) (xs ++ op.data.toList) ∧ Kw wb w (w1.setCell ⟨wb, 2, none⟩ (.int .i64 ((d : Int) + 1)))) := ⟨by have := hw1.deep (d + 1); simpa using this, hk1.setCell 2 _⟩
    clear hw1 hk1 HA c1
    go_wp2_with fail
    go_loopw [27] (fun i wr => ∃ k : Nat, k ≤ its.length ∧ i = .int .i64 (k : Int) ∧ Hid (Wt wr wb false (d + 1) (xs ++ op.data.toList ++ Sp.seqTo false (d + 1) its k) ∧ Kw wb w wr)) (fun i _ => its.length - (intOf i).toNat)
    case atStart => exact ⟨0, by omega, rfl, by simpa [Sp.seqTo] using HW2⟩
    case round =>
      obtain ⟨k, hk, rfl, HK⟩ := hrel
      clear d1 d2 d3 HW2
      by_cases hlt : k < its.length
      · have HLB : Hid ((xs ++ op.data.toList ++ Sp.seqTo false (d + 1) its k).length + ((if k = 0 then ([] : List UInt8) else Sp.comma false).length + ((Sp.brk false (d + 1)).length + (its.getD k []).length)) ≤ 17592180000000) := by
          have h1 := HL.out
          have h2 := Sp.seqTo_mono false (d + 1) its (k := k + 1) (n := its.length) (by omega)
          rw [Sp.seqTo] at h2
          simp only [List.length_append] at h1 h2
          show _ ≤ _
          simp only [List.length_append]
          omega
        have HSQ : Hid (xs ++ op.data.toList ++ Sp.seqTo false (d + 1) its (k + 1) = xs ++ op.data.toList ++ Sp.seqTo false (d + 1) its k ++ (if k = 0 then [] else Sp.comma false) ++ Sp.brk false (d + 1) ++ its.getD k []) := by
          show _ = _
          rw [Sp.seqTo]; simp only [List.append_assoc]
        have HCL : Hid ((Sp.comma false).length = 1 ∨ (Sp.comma false).length = 2) := by show _ ∨ _; simp [Sp.comma]
        generalize hys : xs ++ op.data.toList ++ Sp.seqTo false (d + 1) its k = ys at HK HLB HSQ
        clear hys
        by_cases hk0 : k = 0
        · subst hk0
          simp only [if_pos] at HLB HSQ
          have HC2 : Hid (Calls Tryz.prog 75 #[.pointer (some ⟨wb, 0, none⟩)] wr (WtE wb false (d + 1) (ys ++ Sp.brk false (d + 1)) wr)) := HNL.out wr ys (d + 1) HK.out.1 (by have := HLB.out; simp at this; omega)
          go_wp2_with fail
          refine HC2.out.mono ?_
          rintro e w2 ⟨rfl, hw2, hk2⟩
          have HK2 : Hid (Wt w2 wb false (d + 1) (ys ++ Sp.brk false (d + 1)) ∧ Kw wb w w2) := ⟨hw2, HK.out.2.trans hk2⟩
          clear hw2 hk2 HC2
          have HC3 : Hid (Calls Tryz.prog 50 #[.int .i64 (0 : Int), .pointer (some ⟨b1, 0, none⟩), .pointer (some ⟨b2, 0, none⟩)] w2 (WtE wb false (d + 1) (ys ++ Sp.brk false (d + 1) ++ its.getD 0 []) w2)) := by
            have := HI.out 0 w2 _ hlt HK2.out.2 HK2.out.1 (by have := HLB.out; simp at this ⊢; omega)
            show Calls _ _ _ _ _
            simpa using this
          go_wp2_with fail
          refine HC3.out.mono ?_
          rintro e w3 ⟨rfl, hw3, hk3⟩
          have HK3 : Hid (Wt w3 wb false (d + 1) (xs ++ op.data.toList ++ Sp.seqTo false (d + 1) its (0 + 1)) ∧ Kw wb w w3) := ⟨by rw [HSQ.out]; simpa using hw3, HK2.out.2.trans hk3⟩
          clear hw3 hk3 HC3
          go_wp2_with fail
          go_roundw
          case rel => exact ⟨0 + 1, by omega, by go_num, HK3⟩
          case measure => simp [intOf]; omega
        · have hk0' : (0 : Int) < (k : Int) := by omega
          simp only [if_neg hk0] at HLB HSQ
          have HC1 : Hid (Calls Tryz.prog 44 #[.pointer (some ⟨wb, 0, none⟩), .string ⟨#[44, 32]⟩] wr (WtE wb false (d + 1) (ys ++ Sp.comma false) wr)) := HCM.out wr ys HK.out.1 (by have := HLB.out; have h3 := HCL.out; simp at this; have h4 := Sp.brk_len false (d + 1); have h5 := HB2.out; omega)
          clear hk0
          go_wp2_with fail
          refine HC1.out.mono ?_
          rintro e w1' ⟨rfl, hw1, hk1⟩
          have HK1 : Hid (Wt w1' wb false (d + 1) (ys ++ Sp.comma false) ∧ Kw wb w w1') := ⟨hw1, HK.out.2.trans hk1⟩
          clear hw1 hk1 HC1
          have HC2 : Hid (Calls Tryz.prog 75 #[.pointer (some ⟨wb, 0, none⟩)] w1' (WtE wb false (d + 1) (ys ++ Sp.comma false ++ Sp.brk false (d + 1)) w1')) := HNL.out w1' _ (d + 1) HK1.out.1 (by have := HLB.out; simp only [List.length_append]; omega)
          go_wp2_with fail
          refine HC2.out.mono ?_
          rintro e w2 ⟨rfl, hw2, hk2⟩
          have HK2 : Hid (Wt w2 wb false (d + 1) (ys ++ Sp.comma false ++ Sp.brk false (d + 1)) ∧ Kw wb w w2) := ⟨hw2, HK1.out.2.trans hk2⟩
          clear hw2 hk2 HC2
          have HC3 : Hid (Calls Tryz.prog 50 #[.int .i64 (k : Int), .pointer (some ⟨b1, 0, none⟩), .pointer (some ⟨b2, 0, none⟩)] w2 (WtE wb false (d + 1) (ys ++ Sp.comma false ++ Sp.brk false (d + 1) ++ its.getD k []) w2)) := HI.out k w2 _ hlt HK2.out.2 HK2.out.1 (by have := HLB.out; simp only [List.length_append]; omega)
          go_wp2_with fail
          refine HC3.out.mono ?_
          rintro e w3 ⟨rfl, hw3, hk3⟩
          have HK3 : Hid (Wt w3 wb false (d + 1) (xs ++ op.data.toList ++ Sp.seqTo false (d + 1) its (k + 1)) ∧ Kw wb w w3) := ⟨by rw [HSQ.out]; exact hw3, HK2.out.2.trans hk3⟩
          clear hw3 hk3 HC3
          go_wp2_with fail
          go_roundw
          case rel => exact ⟨k + 1, by omega, by go_num, HK3⟩
          case measure => simp [intOf]; omega
      · obtain rfl : k = its.length := by omega
        obtain ⟨d1, d2, d3⟩ := HK.out.1.cells
        have e2 : ((d + 1 : Nat) : Int) = (d : Int) + 1 := by omega
        rw [e2] at d2
        have HW5 : Hid (Wt (wr.setCell ⟨wb, 2, none⟩ (.int .i64 (d : Int))) wb false d (xs ++ op.data.toList ++ Sp.seqTo false (d + 1) its its.length) ∧ Kw wb w (wr.setCell ⟨wb, 2, none⟩ (.int .i64 (d : Int)))) := ⟨HK.out.1.deep d, HK.out.2.setCell 2 _⟩
        have HAS : Hid (∀ (W : World) (ys : List UInt8), Wt W wb false d ys → ys.length + sh.size ≤ 70368744177664 → Calls Tryz.prog 44 #[.pointer (some ⟨wb, 0, none⟩), .string sh] W (WtE wb false d (ys ++ sh.data.toList) W)) := fun W ys hW hy => add_any sh W wb false d ys hW hy
        have hd1 : (d : Int) + 1 - 1 = (d : Int) := by omega
        by_cases hn0 : its.length = 0
        · have hn0' : ¬ (0 : Int) < (its.length : Int) := by omega
          have HE : Hid (xs ++ Sp.brkd op sh false d its = xs ++ op.data.toList ++ Sp.seqTo false (d + 1) its its.length ++ sh.data.toList) := by
            show _ = _
            rw [Sp.brkd, Sp.tail, if_pos hn0]; simp only [List.append_assoc, List.nil_append]
          clear hn0
          go_wp2_with fail
          refine (HAS.out _ _ HW5.out.1 (by have h1 := HL.out; rw [Sp.sz_list]; simp only [List.length_append] at h1 ⊢; omega)).mono ?_
          rintro e w6 ⟨rfl, hw6, hk6⟩
          have HK6 : Hid (Wt w6 wb false d (xs ++ Sp.brkd op sh false d its) ∧ Kw wb w w6) := ⟨by rw [HE.out]; exact hw6, HW5.out.2.trans hk6⟩
          clear hw6 hk6
          go_wp2_with fail
          go_end0
          exact ⟨rfl, HK6.out⟩
        · have hn0' : (0 : Int) < (its.length : Int) := by omega
          have HE : Hid (xs ++ Sp.brkd op sh false d its = xs ++ op.data.toList ++ Sp.seqTo false (d + 1) its its.length ++ Sp.brk false d ++ sh.data.toList) := by
            show _ = _
            rw [Sp.brkd, Sp.tail, if_neg hn0]; simp only [List.append_assoc]
          have HTL : Hid (Sp.tail false its.length d = Sp.brk false d) := by show _ = _; rw [Sp.tail, if_neg hn0]
          clear hn0
          go_wp2_with fail
          refine (HNL.out _ _ d HW5.out.1 (by have h1 := HL.out; rw [HTL.out] at h1; simp only [List.length_append] at h1 ⊢; omega)).mono ?_
          rintro e w6 ⟨rfl, hw6, hk6⟩
          have HK6 : Hid (Wt w6 wb false d (xs ++ op.data.toList ++ Sp.seqTo false (d + 1) its its.length ++ Sp.brk false d) ∧ Kw wb w w6) := ⟨hw6, HW5.out.2.trans hk6⟩
          clear hw6 hk6
          go_wp2_with fail
          refine (HAS.out _ _ HK6.out.1 (by have h1 := HL.out; rw [HTL.out] at h1; rw [Sp.sz_list]; simp only [List.length_append] at h1 ⊢; omega)).mono ?_
          rintro e w7 ⟨rfl, hw7, hk7⟩
          have HK7 : Hid (Wt w7 wb false d (xs ++ Sp.brkd op sh false d its) ∧ Kw wb w w7) := ⟨by rw [HE.out]; exact hw7, HK6.out.2.trans hk7⟩
          clear hw7 hk7
          go_wp2_with fail
          go_end0
          exact ⟨rfl, HK7.out⟩
  | true =>
    have HCM : Hid (∀ (W : World) (ys : List UInt8), Wt W wb true (d + 1) ys → ys.length + 2 ≤ 70368744177664 → Calls Tryz.prog 44 #[.pointer (some ⟨wb, 0, none⟩), .string ⟨#[44]⟩] W (WtE wb true (d + 1) (ys ++ Sp.comma true) W)) := fun W ys hW hy => add_any ⟨#[44]⟩ W wb true (d + 1) ys hW (by first | (show _ + 1 ≤ _; omega) | (show _ + 2 ≤ _; omega))
    have HNL : Hid (∀ (W : World) (ys : List UInt8) (q : Nat), Wt W wb true q ys → ys.length + (Sp.brk true q).length ≤ 70368744177664 → Calls Tryz.prog 75 #[.pointer (some ⟨wb, 0, none⟩)] W (WtE wb true q (ys ++ Sp.brk true q) W)) := fun W ys q hW hy => newLine_any W wb true q ys hW hy
    go_enter Tryz.func49, Tryz.ntmps49
    go_wp2_with fail
    refine HA.out.mono ?_
    rintro e w1 ⟨rfl, hw1, hk1⟩
    obtain ⟨d1, d2, d3⟩ := hw1.cells
    have HW2 : Hid (Wt (w1.setCell ⟨wb, 2, none⟩ (.int .i64 ((d : Int) + 1))) wb true (d + 1) (xs ++ op.data.toList) ∧ Kw wb w (w1.setCell ⟨wb, 2, none⟩ (.int .i64 ((d : Int) + 1)))) := ⟨by have := hw1.deep (d + 1); simpa using this, hk1.setCell 2 _⟩
    clear hw1 hk1 HA c1
    go_wp2_with fail
    go_loopw [27] (fun i wr => ∃ k : Nat, k ≤ its.length ∧ i = .int .i64 (k : Int) ∧ Hid (Wt wr wb true (d + 1) (xs ++ op.data.toList ++ Sp.seqTo true (d + 1) its k) ∧ Kw wb w wr)) (fun i _ => its.length - (intOf i).toNat)
    case atStart => exact ⟨0, by omega, rfl, by simpa [Sp.seqTo] using HW2⟩
    case round =>
      obtain ⟨k, hk, rfl, HK⟩ := hrel
      clear d1 d2 d3 HW2
      by_cases hlt : k < its.length
      · have HLB : Hid ((xs ++ op.data.toList ++ Sp.seqTo true (d + 1) its k).length + ((if k = 0 then ([] : List UInt8) else Sp.comma true).length + ((Sp.brk true (d + 1)).length + (its.getD k []).length)) ≤ 17592180000000) := by
          have h1 := HL.out
          have h2 := Sp.seqTo_mono true (d + 1) its (k := k + 1) (n := its.length) (by omega)
          rw [Sp.seqTo] at h2
          simp only [List.length_append] at h1 h2
          show _ ≤ _
          simp only [List.length_append]
          omega
        have HSQ : Hid (xs ++ op.data.toList ++ Sp.seqTo true (d + 1) its (k + 1) = xs ++ op.data.toList ++ Sp.seqTo true (d + 1) its k ++ (if k = 0 then [] else Sp.comma true) ++ Sp.brk true (d + 1) ++ its.getD k []) := by
          show _ = _
          rw [Sp.seqTo]; simp only [List.append_assoc]
        have HCL : Hid ((Sp.comma true).length = 1 ∨ (Sp.comma true).length = 2) := by show _ ∨ _; simp [Sp.comma]
        generalize hys : xs ++ op.data.toList ++ Sp.seqTo true (d + 1) its k = ys at HK HLB HSQ
        clear hys
        by_cases hk0 : k = 0
        · subst hk0
          simp only [if_pos] at HLB HSQ
          have HC2 : Hid (Calls Tryz.prog 75 #[.pointer (some ⟨wb, 0, none⟩)] wr (WtE wb true (d + 1) (ys ++ Sp.brk true (d + 1)) wr)) := HNL.out wr ys (d + 1) HK.out.1 (by have := HLB.out; simp at this; omega)
          go_wp2_with fail
          refine HC2.out.mono ?_
          rintro e w2 ⟨rfl, hw2, hk2⟩
          have HK2 : Hid (Wt w2 wb true (d + 1) (ys ++ Sp.brk true (d + 1)) ∧ Kw wb w w2) := ⟨hw2, HK.out.2.trans hk2⟩
          clear hw2 hk2 HC2
          have HC3 : Hid (Calls Tryz.prog 50 #[.int .i64 (0 : Int), .pointer (some ⟨b1, 0, none⟩), .pointer (some ⟨b2, 0, none⟩)] w2 (WtE wb true (d + 1) (ys ++ Sp.brk true (d + 1) ++ its.getD 0 []) w2)) := by
            have := HI.out 0 w2 _ hlt HK2.out.2 HK2.out.1 (by have := HLB.out; simp at this ⊢; omega)
            show Calls _ _ _ _ _
            simpa using this
          go_wp2_with fail
          refine HC3.out.mono ?_
          rintro e w3 ⟨rfl, hw3, hk3⟩
          have HK3 : Hid (Wt w3 wb true (d + 1) (xs ++ op.data.toList ++ Sp.seqTo true (d + 1) its (0 + 1)) ∧ Kw wb w w3) := ⟨by rw [HSQ.out]; simpa using hw3, HK2.out.2.trans hk3⟩
          clear hw3 hk3 HC3
          go_wp2_with fail
          go_roundw
          case rel => exact ⟨0 + 1, by omega, by go_num, HK3⟩
          case measure => simp [intOf]; omega
        · have hk0' : (0 : Int) < (k : Int) := by omega
          simp only [if_neg hk0] at HLB HSQ
          have HC1 : Hid (Calls Tryz.prog 44 #[.pointer (some ⟨wb, 0, none⟩), .string ⟨#[44]⟩] wr (WtE wb true (d + 1) (ys ++ Sp.comma true) wr)) := HCM.out wr ys HK.out.1 (by have := HLB.out; have h3 := HCL.out; simp at this; have h4 := Sp.brk_len true (d + 1); have h5 := HB2.out; omega)
          clear hk0
          go_wp2_with fail
          refine HC1.out.mono ?_
          rintro e w1' ⟨rfl, hw1, hk1⟩
          have HK1 : Hid (Wt w1' wb true (d + 1) (ys ++ Sp.comma true) ∧ Kw wb w w1') := ⟨hw1, HK.out.2.trans hk1⟩
          clear hw1 hk1 HC1
          have HC2 : Hid (Calls Tryz.prog 75 #[.pointer (some ⟨wb, 0, none⟩)] w1' (WtE wb true (d + 1) (ys ++ Sp.comma true ++ Sp.brk true (d + 1)) w1')) := HNL.out w1' _ (d + 1) HK1.out.1 (by have := HLB.out; simp only [List.length_append]; omega)
          go_wp2_with fail
          refine HC2.out.mono ?_
          rintro e w2 ⟨rfl, hw2, hk2⟩
          have HK2 : Hid (Wt w2 wb true (d + 1) (ys ++ Sp.comma true ++ Sp.brk true (d + 1)) ∧ Kw wb w w2) := ⟨hw2, HK1.out.2.trans hk2⟩
          clear hw2 hk2 HC2
          have HC3 : Hid (Calls Tryz.prog 50 #[.int .i64 (k : Int), .pointer (some ⟨b1, 0, none⟩), .pointer (some ⟨b2, 0, none⟩)] w2 (WtE wb true (d + 1) (ys ++ Sp.comma true ++ Sp.brk true (d + 1) ++ its.getD k []) w2)) := HI.out k w2 _ hlt HK2.out.2 HK2.out.1 (by have := HLB.out; simp only [List.length_append]; omega)
          go_wp2_with fail
          refine HC3.out.mono ?_
          rintro e w3 ⟨rfl, hw3, hk3⟩
          have HK3 : Hid (Wt w3 wb true (d + 1) (xs ++ op.data.toList ++ Sp.seqTo true (d + 1) its (k + 1)) ∧ Kw wb w w3) := ⟨by rw [HSQ.out]; exact hw3, HK2.out.2.trans hk3⟩
          clear hw3 hk3 HC3
          go_wp2_with fail
          go_roundw
          case rel => exact ⟨k + 1, by omega, by go_num, HK3⟩
          case measure => simp [intOf]; omega
      · obtain rfl : k = its.length := by omega
        obtain ⟨d1, d2, d3⟩ := HK.out.1.cells
        have e2 : ((d + 1 : Nat) : Int) = (d : Int) + 1 := by omega
        rw [e2] at d2
        have HW5 : Hid (Wt (wr.setCell ⟨wb, 2, none⟩ (.int .i64 (d : Int))) wb true d (xs ++ op.data.toList ++ Sp.seqTo true (d + 1) its its.length) ∧ Kw wb w (wr.setCell ⟨wb, 2, none⟩ (.int .i64 (d : Int)))) := ⟨HK.out.1.deep d, HK.out.2.setCell 2 _⟩
        have HAS : Hid (∀ (W : World) (ys : List UInt8), Wt W wb true d ys → ys.length + sh.size ≤ 70368744177664 → Calls Tryz.prog 44 #[.pointer (some ⟨wb, 0, none⟩), .string sh] W (WtE wb true d (ys ++ sh.data.toList) W)) := fun W ys hW hy => add_any sh W wb true d ys hW hy
        have hd1 : (d : Int) + 1 - 1 = (d : Int) := by omega
        by_cases hn0 : its.length = 0
        · have hn0' : ¬ (0 : Int) < (its.length : Int) := by omega
          have HE : Hid (xs ++ Sp.brkd op sh true d its = xs ++ op.data.toList ++ Sp.seqTo true (d + 1) its its.length ++ sh.data.toList) := by
            show _ = _
            rw [Sp.brkd, Sp.tail, if_pos hn0]; simp only [List.append_assoc, List.nil_append]
          clear hn0
          go_wp2_with fail
          refine (HAS.out _ _ HW5.out.1 (by have h1 := HL.out; rw [Sp.sz_list]; simp only [List.length_append] at h1 ⊢; omega)).mono ?_
          rintro e w6 ⟨rfl, hw6, hk6⟩
          have HK6 : Hid (Wt w6 wb true d (xs ++ Sp.brkd op sh true d its) ∧ Kw wb w w6) := ⟨by rw [HE.out]; exact hw6, HW5.out.2.trans hk6⟩
          clear hw6 hk6
          go_wp2_with fail
          go_end0
          exact ⟨rfl, HK6.out⟩
        · have hn0' : (0 : Int) < (its.length : Int) := by omega
          have HE : Hid (xs ++ Sp.brkd op sh true d its = xs ++ op.data.toList ++ Sp.seqTo true (d + 1) its its.length ++ Sp.brk true d ++ sh.data.toList) := by
            show _ = _
            rw [Sp.brkd, Sp.tail, if_neg hn0]; simp only [List.append_assoc]
          have HTL : Hid (Sp.tail true its.length d = Sp.brk true d) := by show _ = _; rw [Sp.tail, if_neg hn0]
          clear hn0
          go_wp2_with fail
          refine (HNL.out _ _ d HW5.out.1 (by have h1 := HL.out; rw [HTL.out] at h1; simp only [List.length_append] at h1 ⊢; omega)).mono ?_
          rintro e w6 ⟨rfl, hw6, hk6⟩
          have HK6 : Hid (Wt w6 wb true d (xs ++ op.data.toList ++ Sp.seqTo true (d + 1) its its.length ++ Sp.brk true d) ∧ Kw wb w w6) := ⟨hw6, HW5.out.2.trans hk6⟩
          clear hw6 hk6
          go_wp2_with fail
          refine (HAS.out _ _ HK6.out.1 (by have h1 := HL.out; rw [HTL.out] at h1; rw [Sp.sz_list]; simp only [List.length_append] at h1 ⊢; omega)).mono ?_
          rintro e w7 ⟨rfl, hw7, hk7⟩
          have HK7 : Hid (Wt w7 wb true d (xs ++ Sp.brkd op sh true d its) ∧ Kw wb w w7) := ⟨by rw [HE.out]; exact hw7, HK6.out.2.trans hk7⟩
          clear hw7 hk7
          go_wp2_with fail
          go_end0
          exact ⟨rfl, HK7.out⟩
end Go.Proofs.YtnndlffidifddaaGreatDoor

/- text.writer.bracketed, its items written by the closure of fields. -/
namespace Go.Proofs.YtnndlffidifddaaGreatDoor
open Go.RowKit

set_option maxRecDepth 100000 in
set_option maxHeartbeats 4000000 in
theorem bracketed_F (op sh : ByteArray) (its : List (List UInt8)) (b1 b2 : Nat) (w : World) (wb : Nat) (ln : Bool) (d : Nat) (xs : List UInt8) (h : Wt w wb ln d xs) (hd : d ≤ 1000)
    (hit : ∀ (i : Nat) (W : World) (ys : List UInt8), i < its.length → Kw wb w W → Wt W wb ln (d + 1) ys → ys.length + (its.getD i []).length ≤ 17592180000000 → Calls Tryz.prog 76 #[.int .i64 (i : Int), .pointer (some ⟨b1, 0, none⟩), .pointer (some ⟨b2, 0, none⟩)] W (WtE wb ln (d + 1) (ys ++ its.getD i []) W))
    (hn : its.length ≤ 4096) (hl : xs.length + (Sp.brkd op sh ln d its).length ≤ 17592180000000) :
    Calls Tryz.prog 49 #[.pointer (some ⟨wb, 0, none⟩), .string op, .string sh, .int .i64 (its.length : Int), .func (.func 76) #[] #[.pointer (some ⟨b1, 0, none⟩), .pointer (some ⟨b2, 0, none⟩)]] w (WtE wb ln d (xs ++ Sp.brkd op sh ln d its) w) := by
  have HI : Hid (∀ (i : Nat) (W : World) (ys : List UInt8), i < its.length → Kw wb w W → Wt W wb ln (d + 1) ys → ys.length + (its.getD i []).length ≤ 17592180000000 → Calls Tryz.prog 76 #[.int .i64 (i : Int), .pointer (some ⟨b1, 0, none⟩), .pointer (some ⟨b2, 0, none⟩)] W (WtE wb ln (d + 1) (ys ++ its.getD i []) W)) := hit
  have HL : Hid (xs.length + (op.data.toList ++ (Sp.seqTo ln (d + 1) its its.length ++ (Sp.tail ln its.length d ++ sh.data.toList))).length ≤ 17592180000000) := hl
  have HB2 : Hid (d ≤ 1000) := hd
  obtain ⟨c1, -, -⟩ := h.cells
  have HA : Hid (Calls Tryz.prog 44 #[.pointer (some ⟨wb, 0, none⟩), .string op] w (WtE wb ln d (xs ++ op.data.toList) w)) := add_any op w wb ln d xs h (by rw [Sp.sz_list]; have h1 := HL.out; simp only [List.length_append] at h1; omega)
  clear h hit hl
  cases ln with
  | false =>
    have HCM : Hid (∀ (W : World) (ys : List UInt8), Wt W wb false (d + 1) ys → ys.length + 2 ≤ 70368744177664 → Calls Tryz.prog 44 #[.pointer (some ⟨wb, 0, none⟩), .string ⟨#[44, 32]⟩] W (WtE wb false (d + 1) (ys ++ Sp.comma false) W)) := fun W ys hW hy => add_any ⟨#[44, 32]⟩ W wb false (d + 1) ys hW (by first | (show _ + 1 ≤ _; omega) | (show _ + 2 ≤ _; omega))
    have HNL : Hid (∀ (W : World) (ys : List UInt8) (q : Nat), Wt W wb false q ys → ys.length + (Sp.brk false q).length ≤ 70368744177664 → Calls Tryz.prog 75 #[.pointer (some ⟨wb, 0, none⟩)] W (WtE wb false q (ys ++ Sp.brk false q) W)) := fun W ys q hW hy => newLine_any W wb false q ys hW hy
    go_enter Tryz.func49, Tryz.ntmps49
    go_wp2_with fail
    refine HA.out.mono ?_
    rintro e w1 ⟨rfl, hw1, hk1⟩
    obtain ⟨d1, d2, d3⟩ := hw1.cells
    have HW2 : Hid (Wt (w1.setCell ⟨wb, 2, none⟩ (.int .i64 ((d : Int) + 1))) wb false (d + 1) (xs ++ op.data.toList) ∧ Kw wb w (w1.setCell ⟨wb, 2, none⟩ (.int .i64 ((d : Int) + 1)))) := ⟨by have := hw1.deep (d + 1); simpa using this, hk1.setCell 2 _⟩
    clear hw1 hk1 HA c1
    go_wp2_with fail
    go_loopw [27] (fun i wr => ∃ k : Nat, k ≤ its.length ∧ i = .int .i64 (k : Int) ∧ Hid (Wt wr wb false (d + 1) (xs ++ op.data.toList ++ Sp.seqTo false (d + 1) its k) ∧ Kw wb w wr)) (fun i _ => its.length - (intOf i).toNat)
    case atStart => exact ⟨0, by omega, rfl, by simpa [Sp.seqTo] using HW2⟩
    case round =>
      obtain ⟨k, hk, rfl, HK⟩ := hrel
      clear d1 d2 d3 HW2
      by_cases hlt : k < its.length
      · have HLB : Hid ((xs ++ op.data.toList ++ Sp.seqTo false (d + 1) its k).length + ((if k = 0 then ([] : List UInt8) else Sp.comma false).length + ((Sp.brk false (d + 1)).length + (its.getD k []).length)) ≤ 17592180000000) := by
          have h1 := HL.out
          have h2 := Sp.seqTo_mono false (d + 1) its (k := k + 1) (n := its.length) (by omega)
          rw [Sp.seqTo] at h2
          simp only [List.length_append] at h1 h2
          show _ ≤ _
          simp only [List.length_append]
          omega
        have HSQ : Hid (xs ++ op.data.toList ++ Sp.seqTo false (d + 1) its (k + 1) = xs ++ op.data.toList ++ Sp.seqTo false (d + 1) its k ++ (if k = 0 then [] else Sp.comma false) ++ Sp.brk false (d + 1) ++ its.getD k []) := by
          show _ = _
          rw [Sp.seqTo]; simp only [List.append_assoc]
        have HCL : Hid ((Sp.comma false).length = 1 ∨ (Sp.comma false).length = 2) := by show _ ∨ _; simp [Sp.comma]
        generalize hys : xs ++ op.data.toList ++ Sp.seqTo false (d + 1) its k = ys at HK HLB HSQ
        clear hys
        by_cases hk0 : k = 0
        · subst hk0
          simp only [if_pos] at HLB HSQ
          have HC2 : Hid (Calls Tryz.prog 75 #[.pointer (some ⟨wb, 0, none⟩)] wr (WtE wb false (d + 1) (ys ++ Sp.brk false (d + 1)) wr)) := HNL.out wr ys (d + 1) HK.out.1 (by have := HLB.out; simp at this; omega)
          go_wp2_with fail
          refine HC2.out.mono ?_
          rintro e w2 ⟨rfl, hw2, hk2⟩
          have HK2 : Hid (Wt w2 wb false (d + 1) (ys ++ Sp.brk false (d + 1)) ∧ Kw wb w w2) := ⟨hw2, HK.out.2.trans hk2⟩
          clear hw2 hk2 HC2
          have HC3 : Hid (Calls Tryz.prog 76 #[.int .i64 (0 : Int), .pointer (some ⟨b1, 0, none⟩), .pointer (some ⟨b2, 0, none⟩)] w2 (WtE wb false (d + 1) (ys ++ Sp.brk false (d + 1) ++ its.getD 0 []) w2)) := by
            have := HI.out 0 w2 _ hlt HK2.out.2 HK2.out.1 (by have := HLB.out; simp at this ⊢; omega)
            show Calls _ _ _ _ _
            simpa using this
          go_wp2_with fail
          refine HC3.out.mono ?_
          rintro e w3 ⟨rfl, hw3, hk3⟩
          have HK3 : Hid (Wt w3 wb false (d + 1) (xs ++ op.data.toList ++ Sp.seqTo false (d + 1) its (0 + 1)) ∧ Kw wb w w3) := ⟨by rw [HSQ.out]; simpa using hw3, HK2.out.2.trans hk3⟩
          clear hw3 hk3 HC3
          go_wp2_with fail
          go_roundw
          case rel => exact ⟨0 + 1, by omega, by go_num, HK3⟩
          case measure => simp [intOf]; omega
        · have hk0' : (0 : Int) < (k : Int) := by omega
          simp only [if_neg hk0] at HLB HSQ
          have HC1 : Hid (Calls Tryz.prog 44 #[.pointer (some ⟨wb, 0, none⟩), .string ⟨#[44, 32]⟩] wr (WtE wb false (d + 1) (ys ++ Sp.comma false) wr)) := HCM.out wr ys HK.out.1 (by have := HLB.out; have h3 := HCL.out; simp at this; have h4 := Sp.brk_len false (d + 1); have h5 := HB2.out; omega)
          clear hk0
          go_wp2_with fail
          refine HC1.out.mono ?_
          rintro e w1' ⟨rfl, hw1, hk1⟩
          have HK1 : Hid (Wt w1' wb false (d + 1) (ys ++ Sp.comma false) ∧ Kw wb w w1') := ⟨hw1, HK.out.2.trans hk1⟩
          clear hw1 hk1 HC1
          have HC2 : Hid (Calls Tryz.prog 75 #[.pointer (some ⟨wb, 0, none⟩)] w1' (WtE wb false (d + 1) (ys ++ Sp.comma false ++ Sp.brk false (d + 1)) w1')) := HNL.out w1' _ (d + 1) HK1.out.1 (by have := HLB.out; simp only [List.length_append]; omega)
          go_wp2_with fail
          refine HC2.out.mono ?_
          rintro e w2 ⟨rfl, hw2, hk2⟩
          have HK2 : Hid (Wt w2 wb false (d + 1) (ys ++ Sp.comma false ++ Sp.brk false (d + 1)) ∧ Kw wb w w2) := ⟨hw2, HK1.out.2.trans hk2⟩
          clear hw2 hk2 HC2
          have HC3 : Hid (Calls Tryz.prog 76 #[.int .i64 (k : Int), .pointer (some ⟨b1, 0, none⟩), .pointer (some ⟨b2, 0, none⟩)] w2 (WtE wb false (d + 1) (ys ++ Sp.comma false ++ Sp.brk false (d + 1) ++ its.getD k []) w2)) := HI.out k w2 _ hlt HK2.out.2 HK2.out.1 (by have := HLB.out; simp only [List.length_append]; omega)
          go_wp2_with fail
          refine HC3.out.mono ?_
          rintro e w3 ⟨rfl, hw3, hk3⟩
          have HK3 : Hid (Wt w3 wb false (d + 1) (xs ++ op.data.toList ++ Sp.seqTo false (d + 1) its (k + 1)) ∧ Kw wb w w3) := ⟨by rw [HSQ.out]; exact hw3, HK2.out.2.trans hk3⟩
          clear hw3 hk3 HC3
          go_wp2_with fail
          go_roundw
          case rel => exact ⟨k + 1, by omega, by go_num, HK3⟩
          case measure => simp [intOf]; omega
      · obtain rfl : k = its.length := by omega
        obtain ⟨d1, d2, d3⟩ := HK.out.1.cells
        have e2 : ((d + 1 : Nat) : Int) = (d : Int) + 1 := by omega
        rw [e2] at d2
        have HW5 : Hid (Wt (wr.setCell ⟨wb, 2, none⟩ (.int .i64 (d : Int))) wb false d (xs ++ op.data.toList ++ Sp.seqTo false (d + 1) its its.length) ∧ Kw wb w (wr.setCell ⟨wb, 2, none⟩ (.int .i64 (d : Int)))) := ⟨HK.out.1.deep d, HK.out.2.setCell 2 _⟩
        have HAS : Hid (∀ (W : World) (ys : List UInt8), Wt W wb false d ys → ys.length + sh.size ≤ 70368744177664 → Calls Tryz.prog 44 #[.pointer (some ⟨wb, 0, none⟩), .string sh] W (WtE wb false d (ys ++ sh.data.toList) W)) := fun W ys hW hy => add_any sh W wb false d ys hW hy
        have hd1 : (d : Int) + 1 - 1 = (d : Int) := by omega
        by_cases hn0 : its.length = 0
        · have hn0' : ¬ (0 : Int) < (its.length : Int) := by omega
          have HE : Hid (xs ++ Sp.brkd op sh false d its = xs ++ op.data.toList ++ Sp.seqTo false (d + 1) its its.length ++ sh.data.toList) := by
            show _ = _
            rw [Sp.brkd, Sp.tail, if_pos hn0]; simp only [List.append_assoc, List.nil_append]
          clear hn0
          go_wp2_with fail
          refine (HAS.out _ _ HW5.out.1 (by have h1 := HL.out; rw [Sp.sz_list]; simp only [List.length_append] at h1 ⊢; omega)).mono ?_
          rintro e w6 ⟨rfl, hw6, hk6⟩
          have HK6 : Hid (Wt w6 wb false d (xs ++ Sp.brkd op sh false d its) ∧ Kw wb w w6) := ⟨by rw [HE.out]; exact hw6, HW5.out.2.trans hk6⟩
          clear hw6 hk6
          go_wp2_with fail
          go_end0
          exact ⟨rfl, HK6.out⟩
        · have hn0' : (0 : Int) < (its.length : Int) := by omega
          have HE : Hid (xs ++ Sp.brkd op sh false d its = xs ++ op.data.toList ++ Sp.seqTo false (d + 1) its its.length ++ Sp.brk false d ++ sh.data.toList) := by
            show _ = _
            rw [Sp.brkd, Sp.tail, if_neg hn0]; simp only [List.append_assoc]
          have HTL : Hid (Sp.tail false its.length d = Sp.brk false d) := by show _ = _; rw [Sp.tail, if_neg hn0]
          clear hn0
          go_wp2_with fail
          refine (HNL.out _ _ d HW5.out.1 (by have h1 := HL.out; rw [HTL.out] at h1; simp only [List.length_append] at h1 ⊢; omega)).mono ?_
          rintro e w6 ⟨rfl, hw6, hk6⟩
          have HK6 : Hid (Wt w6 wb false d (xs ++ op.data.toList ++ Sp.seqTo false (d + 1) its its.length ++ Sp.brk false d) ∧ Kw wb w w6) := ⟨hw6, HW5.out.2.trans hk6⟩
          clear hw6 hk6
          go_wp2_with fail
          refine (HAS.out _ _ HK6.out.1 (by have h1 := HL.out; rw [HTL.out] at h1; rw [Sp.sz_list]; simp only [List.length_append] at h1 ⊢; omega)).mono ?_
          rintro e w7 ⟨rfl, hw7, hk7⟩
          have HK7 : Hid (Wt w7 wb false d (xs ++ Sp.brkd op sh false d its) ∧ Kw wb w w7) := ⟨by rw [HE.out]; exact hw7, HK6.out.2.trans hk7⟩
          clear hw7 hk7
          go_wp2_with fail
          go_end0
          exact ⟨rfl, HK7.out⟩
  | true =>
    have HCM : Hid (∀ (W : World) (ys : List UInt8), Wt W wb true (d + 1) ys → ys.length + 2 ≤ 70368744177664 → Calls Tryz.prog 44 #[.pointer (some ⟨wb, 0, none⟩), .string ⟨#[44]⟩] W (WtE wb true (d + 1) (ys ++ Sp.comma true) W)) := fun W ys hW hy => add_any ⟨#[44]⟩ W wb true (d + 1) ys hW (by first | (show _ + 1 ≤ _; omega) | (show _ + 2 ≤ _; omega))
    have HNL : Hid (∀ (W : World) (ys : List UInt8) (q : Nat), Wt W wb true q ys → ys.length + (Sp.brk true q).length ≤ 70368744177664 → Calls Tryz.prog 75 #[.pointer (some ⟨wb, 0, none⟩)] W (WtE wb true q (ys ++ Sp.brk true q) W)) := fun W ys q hW hy => newLine_any W wb true q ys hW hy
    go_enter Tryz.func49, Tryz.ntmps49
    go_wp2_with fail
    refine HA.out.mono ?_
    rintro e w1 ⟨rfl, hw1, hk1⟩
    obtain ⟨d1, d2, d3⟩ := hw1.cells
    have HW2 : Hid (Wt (w1.setCell ⟨wb, 2, none⟩ (.int .i64 ((d : Int) + 1))) wb true (d + 1) (xs ++ op.data.toList) ∧ Kw wb w (w1.setCell ⟨wb, 2, none⟩ (.int .i64 ((d : Int) + 1)))) := ⟨by have := hw1.deep (d + 1); simpa using this, hk1.setCell 2 _⟩
    clear hw1 hk1 HA c1
    go_wp2_with fail
    go_loopw [27] (fun i wr => ∃ k : Nat, k ≤ its.length ∧ i = .int .i64 (k : Int) ∧ Hid (Wt wr wb true (d + 1) (xs ++ op.data.toList ++ Sp.seqTo true (d + 1) its k) ∧ Kw wb w wr)) (fun i _ => its.length - (intOf i).toNat)
    case atStart => exact ⟨0, by omega, rfl, by simpa [Sp.seqTo] using HW2⟩
    case round =>
      obtain ⟨k, hk, rfl, HK⟩ := hrel
      clear d1 d2 d3 HW2
      by_cases hlt : k < its.length
      · have HLB : Hid ((xs ++ op.data.toList ++ Sp.seqTo true (d + 1) its k).length + ((if k = 0 then ([] : List UInt8) else Sp.comma true).length + ((Sp.brk true (d + 1)).length + (its.getD k []).length)) ≤ 17592180000000) := by
          have h1 := HL.out
          have h2 := Sp.seqTo_mono true (d + 1) its (k := k + 1) (n := its.length) (by omega)
          rw [Sp.seqTo] at h2
          simp only [List.length_append] at h1 h2
          show _ ≤ _
          simp only [List.length_append]
          omega
        have HSQ : Hid (xs ++ op.data.toList ++ Sp.seqTo true (d + 1) its (k + 1) = xs ++ op.data.toList ++ Sp.seqTo true (d + 1) its k ++ (if k = 0 then [] else Sp.comma true) ++ Sp.brk true (d + 1) ++ its.getD k []) := by
          show _ = _
          rw [Sp.seqTo]; simp only [List.append_assoc]
        have HCL : Hid ((Sp.comma true).length = 1 ∨ (Sp.comma true).length = 2) := by show _ ∨ _; simp [Sp.comma]
        generalize hys : xs ++ op.data.toList ++ Sp.seqTo true (d + 1) its k = ys at HK HLB HSQ
        clear hys
        by_cases hk0 : k = 0
        · subst hk0
          simp only [if_pos] at HLB HSQ
          have HC2 : Hid (Calls Tryz.prog 75 #[.pointer (some ⟨wb, 0, none⟩)] wr (WtE wb true (d + 1) (ys ++ Sp.brk true (d + 1)) wr)) := HNL.out wr ys (d + 1) HK.out.1 (by have := HLB.out; simp at this; omega)
          go_wp2_with fail
          refine HC2.out.mono ?_
          rintro e w2 ⟨rfl, hw2, hk2⟩
          have HK2 : Hid (Wt w2 wb true (d + 1) (ys ++ Sp.brk true (d + 1)) ∧ Kw wb w w2) := ⟨hw2, HK.out.2.trans hk2⟩
          clear hw2 hk2 HC2
          have HC3 : Hid (Calls Tryz.prog 76 #[.int .i64 (0 : Int), .pointer (some ⟨b1, 0, none⟩), .pointer (some ⟨b2, 0, none⟩)] w2 (WtE wb true (d + 1) (ys ++ Sp.brk true (d + 1) ++ its.getD 0 []) w2)) := by
            have := HI.out 0 w2 _ hlt HK2.out.2 HK2.out.1 (by have := HLB.out; simp at this ⊢; omega)
            show Calls _ _ _ _ _
            simpa using this
          go_wp2_with fail
          refine HC3.out.mono ?_
          rintro e w3 ⟨rfl, hw3, hk3⟩
          have HK3 : Hid (Wt w3 wb true (d + 1) (xs ++ op.data.toList ++ Sp.seqTo true (d + 1) its (0 + 1)) ∧ Kw wb w w3) := ⟨by rw [HSQ.out]; simpa using hw3, HK2.out.2.trans hk3⟩
          clear hw3 hk3 HC3
          go_wp2_with fail
          go_roundw
          case rel => exact ⟨0 + 1, by omega, by go_num, HK3⟩
          case measure => simp [intOf]; omega
        · have hk0' : (0 : Int) < (k : Int) := by omega
          simp only [if_neg hk0] at HLB HSQ
          have HC1 : Hid (Calls Tryz.prog 44 #[.pointer (some ⟨wb, 0, none⟩), .string ⟨#[44]⟩] wr (WtE wb true (d + 1) (ys ++ Sp.comma true) wr)) := HCM.out wr ys HK.out.1 (by have := HLB.out; have h3 := HCL.out; simp at this; have h4 := Sp.brk_len true (d + 1); have h5 := HB2.out; omega)
          clear hk0
          go_wp2_with fail
          refine HC1.out.mono ?_
          rintro e w1' ⟨rfl, hw1, hk1⟩
          have HK1 : Hid (Wt w1' wb true (d + 1) (ys ++ Sp.comma true) ∧ Kw wb w w1') := ⟨hw1, HK.out.2.trans hk1⟩
          clear hw1 hk1 HC1
          have HC2 : Hid (Calls Tryz.prog 75 #[.pointer (some ⟨wb, 0, none⟩)] w1' (WtE wb true (d + 1) (ys ++ Sp.comma true ++ Sp.brk true (d + 1)) w1')) := HNL.out w1' _ (d + 1) HK1.out.1 (by have := HLB.out; simp only [List.length_append]; omega)
          go_wp2_with fail
          refine HC2.out.mono ?_
          rintro e w2 ⟨rfl, hw2, hk2⟩
          have HK2 : Hid (Wt w2 wb true (d + 1) (ys ++ Sp.comma true ++ Sp.brk true (d + 1)) ∧ Kw wb w w2) := ⟨hw2, HK1.out.2.trans hk2⟩
          clear hw2 hk2 HC2
          have HC3 : Hid (Calls Tryz.prog 76 #[.int .i64 (k : Int), .pointer (some ⟨b1, 0, none⟩), .pointer (some ⟨b2, 0, none⟩)] w2 (WtE wb true (d + 1) (ys ++ Sp.comma true ++ Sp.brk true (d + 1) ++ its.getD k []) w2)) := HI.out k w2 _ hlt HK2.out.2 HK2.out.1 (by have := HLB.out; simp only [List.length_append]; omega)
          go_wp2_with fail
          refine HC3.out.mono ?_
          rintro e w3 ⟨rfl, hw3, hk3⟩
          have HK3 : Hid (Wt w3 wb true (d + 1) (xs ++ op.data.toList ++ Sp.seqTo true (d + 1) its (k + 1)) ∧ Kw wb w w3) := ⟨by rw [HSQ.out]; exact hw3, HK2.out.2.trans hk3⟩
          clear hw3 hk3 HC3
          go_wp2_with fail
          go_roundw
          case rel => exact ⟨k + 1, by omega, by go_num, HK3⟩
          case measure => simp [intOf]; omega
      · obtain rfl : k = its.length := by omega
        obtain ⟨d1, d2, d3⟩ := HK.out.1.cells
        have e2 : ((d + 1 : Nat) : Int) = (d : Int) + 1 := by omega
        rw [e2] at d2
        have HW5 : Hid (Wt (wr.setCell ⟨wb, 2, none⟩ (.int .i64 (d : Int))) wb true d (xs ++ op.data.toList ++ Sp.seqTo true (d + 1) its its.length) ∧ Kw wb w (wr.setCell ⟨wb, 2, none⟩ (.int .i64 (d : Int)))) := ⟨HK.out.1.deep d, HK.out.2.setCell 2 _⟩
        have HAS : Hid (∀ (W : World) (ys : List UInt8), Wt W wb true d ys → ys.length + sh.size ≤ 70368744177664 → Calls Tryz.prog 44 #[.pointer (some ⟨wb, 0, none⟩), .string sh] W (WtE wb true d (ys ++ sh.data.toList) W)) := fun W ys hW hy => add_any sh W wb true d ys hW hy
        have hd1 : (d : Int) + 1 - 1 = (d : Int) := by omega
        by_cases hn0 : its.length = 0
        · have hn0' : ¬ (0 : Int) < (its.length : Int) := by omega
          have HE : Hid (xs ++ Sp.brkd op sh true d its = xs ++ op.data.toList ++ Sp.seqTo true (d + 1) its its.length ++ sh.data.toList) := by
            show _ = _
            rw [Sp.brkd, Sp.tail, if_pos hn0]; simp only [List.append_assoc, List.nil_append]
          clear hn0
          go_wp2_with fail
          refine (HAS.out _ _ HW5.out.1 (by have h1 := HL.out; rw [Sp.sz_list]; simp only [List.length_append] at h1 ⊢; omega)).mono ?_
          rintro e w6 ⟨rfl, hw6, hk6⟩
          have HK6 : Hid (Wt w6 wb true d (xs ++ Sp.brkd op sh true d its) ∧ Kw wb w w6) := ⟨by rw [HE.out]; exact hw6, HW5.out.2.trans hk6⟩
          clear hw6 hk6
          go_wp2_with fail
          go_end0
          exact ⟨rfl, HK6.out⟩
        · have hn0' : (0 : Int) < (its.length : Int) := by omega
          have HE : Hid (xs ++ Sp.brkd op sh true d its = xs ++ op.data.toList ++ Sp.seqTo true (d + 1) its its.length ++ Sp.brk true d ++ sh.data.toList) := by
            show _ = _
            rw [Sp.brkd, Sp.tail, if_neg hn0]; simp only [List.append_assoc]
          have HTL : Hid (Sp.tail true its.length d = Sp.brk true d) := by show _ = _; rw [Sp.tail, if_neg hn0]
          clear hn0
          go_wp2_with fail
          refine (HNL.out _ _ d HW5.out.1 (by have h1 := HL.out; rw [HTL.out] at h1; simp only [List.length_append] at h1 ⊢; omega)).mono ?_
          rintro e w6 ⟨rfl, hw6, hk6⟩
          have HK6 : Hid (Wt w6 wb true d (xs ++ op.data.toList ++ Sp.seqTo true (d + 1) its its.length ++ Sp.brk true d) ∧ Kw wb w w6) := ⟨hw6, HW5.out.2.trans hk6⟩
          clear hw6 hk6
          go_wp2_with fail
          refine (HAS.out _ _ HK6.out.1 (by have h1 := HL.out; rw [HTL.out] at h1; rw [Sp.sz_list]; simp only [List.length_append] at h1 ⊢; omega)).mono ?_
          rintro e w7 ⟨rfl, hw7, hk7⟩
          have HK7 : Hid (Wt w7 wb true d (xs ++ Sp.brkd op sh true d its) ∧ Kw wb w w7) := ⟨by rw [HE.out]; exact hw7, HK6.out.2.trans hk7⟩
          clear hw7 hk7
          go_wp2_with fail
          go_end0
          exact ⟨rfl, HK7.out⟩
end Go.Proofs.YtnndlffidifddaaGreatDoor

