/- text.writer: bytes; items in a row, plainly. -/
import Derived.Test.YtnndlffidifddaaGreatDoorK15
namespace Go.Proofs.YtnndlffidifddaaGreatDoor
open Go.RowKit

set_option maxRecDepth 100000 in
set_option maxHeartbeats 2000000 in
theorem wbytes_any (s : ByteArray) (ab : Option Addr) (cb : Nat) (B : Nat → Prop) (w : World) (wb : Nat) (ln : Bool) (d : Nat) (xs : List UInt8) (h : Wt w wb ln d xs) (hB : ∀ k, B k → k < wb) (hx : BytesAt w B ab s) (hl : xs.length + (2 * s.size + 1) ≤ 70368744177664) :
    Calls Tryz.prog 47 #[.pointer (some ⟨wb, 0, none⟩), .slice ab s.size cb] w (WtE wb ln d (xs ++ Sp.hexs s s.size) w) := by
  have HXB : Hid (BytesAt w B ab s ∧ ∀ k, B k → k < wb) := ⟨hx, hB⟩
  have HA : Hid (Calls Tryz.prog 44 #[.pointer (some ⟨wb, 0, none⟩), .string ⟨#[35]⟩] w (WtE wb ln d (xs ++ [35]) w)) := add_any ⟨#[35]⟩ w wb ln d xs h (by show _ + 1 ≤ _; omega)
  clear hx hB h
  go_enter Tryz.func47, Tryz.ntmps47
  go_wp2_with fail
  refine HA.out.mono ?_
  rintro e w1 ⟨rfl, hw1, hk1⟩
  have HW1 : Hid (Wt w1 wb ln d (xs ++ [35]) ∧ Kw wb w w1) := ⟨hw1, hk1⟩
  clear hw1 hk1 HA
  go_wp2_with fail
  go_loopw [10] (fun i wr => ∃ k : Nat, k ≤ s.size ∧ i = .int .i64 (k : Int) ∧ Hid (Wt wr wb ln d (xs ++ Sp.hexs s k) ∧ Kw wb w wr)) (fun i _ => s.size - (intOf i).toNat)
  case atStart => exact ⟨0, by omega, rfl, by simpa [Sp.hexs] using HW1⟩
  case round =>
    obtain ⟨k, hk, rfl, HK⟩ := hrel
    by_cases hlt : k < s.size
    · obtain ⟨g, o, rfl, hgB, hcl⟩ := HXB.out.1 k hlt
      have hby : wr.cell? ⟨g, o + k, none⟩ = some (.int .u8 (s[k].toNat : Int)) := by
        obtain ⟨g2, o2, e2, _, hc2⟩ := (HXB.out.1.same (B' := B) (fun q hq => HK.out.2.below.block q (HXB.out.2 q hq)) (fun _ h => h)) k hlt
        injection e2 with e2
        injection e2 with e3 e4
        subst e3 e4
        rw [byte_at]; exact hc2
      clear hcl hgB
      have hlen : (xs ++ Sp.hexs s k).length = xs.length + (2 * k + 1) := by rw [List.length_append, Sp.hexs_len s k hk]
      have HX : Hid (Sp.hexs s (k + 1) = Sp.hexs s k ++ [Sp.hexd (s[k].toNat / 16), Sp.hexd (s[k].toNat % 16)]) := Sp.hexs_succ s k hlt
      obtain ⟨hwr, hkr⟩ := HK.out
      have hz := hwr.lt
      obtain ⟨a, m, cap, hbk, hn⟩ := hwr
      have c0 : wr.cell? ⟨wb, 0, none⟩ = some (.slice a m cap) := by rw [Lib.cell_of_heap hbk]; rfl
      have HC : Hid (Calls Tryz.prog 58 #[.slice a m cap, .int .u8 (s[k].toNat : Int)] wr (AppK wb (xs ++ Sp.hexs s k) [Sp.hexd (s[k].toNat / 16), Sp.hexd (s[k].toNat % 16)] wr)) := by
        have := appendByte_any s[k].toNat s[k].toNat_lt (xs ++ Sp.hexs s k) a cap wb wr (by rw [← hn.1]; exact hn) (by omega) (by omega)
        rw [← hn.1] at this
        exact this
      have HBK : Hid (wr.heap[wb]? = some (.cells #[.slice a m cap, .bool ln, .int .i64 (d : Int)] 79 (0, 0)) ∧ Kw wb w wr) := ⟨hbk, hkr⟩
      clear hbk hn hkr HK hlen
      go_wp2_with fail
      refine HC.out.mono ?_
      rintro e w2 ⟨a2, p2, rfl, hn2, hk2⟩
      have hb2 : w2.heap[wb]? = some (.cells #[.slice a m cap, .bool ln, .int .i64 (d : Int)] 79 (0, 0)) := hk2.kept wb _ HBK.out.1 (by simp) (fun c' fz' e => by injection e with _ e2; exact absurd e2 (by decide))
      have d0 : w2.cell? ⟨wb, 0, none⟩ = some (.slice a m cap) := by rw [Lib.cell_of_heap hb2]; rfl
      have e0 := Lib.frozen_of_heap hb2 0
      generalize (xs ++ Sp.hexs s k).length + [Sp.hexd (s[k].toNat / 16), Sp.hexd (s[k].toNat % 16)].length = q at hn2 ⊢
      have HK2 : Hid (Wt (w2.setCell ⟨wb, 0, none⟩ (.slice a2 q p2)) wb ln d (xs ++ Sp.hexs s (k + 1)) ∧ Kw wb w (w2.setCell ⟨wb, 0, none⟩ (.slice a2 q p2))) := by
        refine ⟨?_, (HBK.out.2.trans hk2.kw).setCell 0 _⟩
        rw [HX.out, ← List.append_assoc]
        exact Wt.put hb2 hn2
      clear hb2 hn2 hk2 HC
      go_wp2_with fail
      go_roundw
      case rel => exact ⟨k + 1, by omega, by go_num, HK2⟩
      case measure => simp [intOf]; omega
    · obtain rfl : k = s.size := by omega
      go_wp2_with fail
      go_end0
      exact ⟨rfl, HK.out.1, HK.out.2⟩

/-- so many items of a row, commas and line feeds between them -/
def Sp.seqTo (ln : Bool) (d : Nat) (its : List (List UInt8)) : Nat → List UInt8
  | 0 => []
  | k + 1 => Sp.seqTo ln d its k ++ ((if k = 0 then [] else Sp.comma ln) ++ (Sp.brk ln d ++ its.getD k []))
theorem Sp.seqTo_step (ln : Bool) (d : Nat) (its : List (List UInt8)) (k : Nat) : (Sp.seqTo ln d its k).length ≤ (Sp.seqTo ln d its (k + 1)).length := by rw [Sp.seqTo, List.length_append]; omega
theorem Sp.seqTo_le (ln : Bool) (d : Nat) (its : List (List UInt8)) (k : Nat) : ∀ j, (Sp.seqTo ln d its k).length ≤ (Sp.seqTo ln d its (k + j)).length
  | 0 => Nat.le_refl _
  | j + 1 => Nat.le_trans (Sp.seqTo_le ln d its k j) (Sp.seqTo_step ln d its (k + j))
theorem Sp.seqTo_mono (ln : Bool) (d : Nat) (its : List (List UInt8)) {k n : Nat} (h : k ≤ n) : (Sp.seqTo ln d its k).length ≤ (Sp.seqTo ln d its n).length := by
  obtain ⟨j, rfl⟩ := Nat.le.dest h
  exact Sp.seqTo_le ln d its k j
def Sp.brkd (op sh : ByteArray) (ln : Bool) (d : Nat) (its : List (List UInt8)) : List UInt8 := op.data.toList ++ (Sp.seqTo ln (d + 1) its its.length ++ (Sp.tail ln its.length d ++ sh.data.toList))
/-- the texts of a list's terms, of fields -/
def TmL.texts (ln : Bool) (d : Nat) : TmL → List (List UInt8)
  | .nil => []
  | .cons t l => t.txt ln d :: l.texts ln d
def TmF.texts (ln : Bool) (d : Nat) : TmF → List (List UInt8)
  | .nil => []
  | .cons n t l => ((n.data.toList ++ [58, 32]) ++ t.txt ln d) :: l.texts ln d
theorem TmL.texts_len (ln : Bool) (d : Nat) : (l : TmL) → (l.texts ln d).length = l.len
  | .nil => rfl
  | .cons t l => by simp [TmL.texts, TmL.len, TmL.texts_len ln d l]
theorem TmF.texts_len (ln : Bool) (d : Nat) : (l : TmF) → (l.texts ln d).length = l.len
  | .nil => rfl
  | .cons n t l => by simp [TmF.texts, TmF.len, TmF.texts_len ln d l]
theorem Sp.getD_mid (pre : List (List UInt8)) (x : List UInt8) (post : List (List UInt8)) : (pre ++ x :: post).getD pre.length [] = x := by simp [List.getD]
theorem TmL.seq (ln : Bool) (d : Nat) : (l : TmL) → ∀ pre : List (List UInt8), Sp.seqTo ln d (pre ++ l.texts ln d) (pre.length + l.len) = Sp.seqTo ln d (pre ++ l.texts ln d) pre.length ++ l.txt ln d (decide (pre.length = 0))
  | .nil, pre => by simp [TmL.txt, TmL.len]
  | .cons t l, pre => by
    have h := TmL.seq ln d l (pre ++ [t.txt ln d])
    rw [TmL.texts, TmL.len, TmL.txt]
    simp only [List.append_assoc, List.singleton_append, List.length_append, List.length_cons, List.length_nil, Nat.zero_add] at h
    rw [show pre.length + (l.len + 1) = pre.length + 1 + l.len by omega, h, Sp.seqTo, Sp.getD_mid]
    by_cases h0 : pre.length = 0 <;> simp [h0]
theorem TmF.seq (ln : Bool) (d : Nat) : (l : TmF) → ∀ pre : List (List UInt8), Sp.seqTo ln d (pre ++ l.texts ln d) (pre.length + l.len) = Sp.seqTo ln d (pre ++ l.texts ln d) pre.length ++ l.txt ln d (decide (pre.length = 0))
  | .nil, pre => by simp [TmF.txt, TmF.len]
  | .cons n t l, pre => by
    have h := TmF.seq ln d l (pre ++ [(n.data.toList ++ [58, 32]) ++ t.txt ln d])
    rw [TmF.texts, TmF.len, TmF.txt]
    simp only [List.append_assoc, List.singleton_append, List.length_append, List.length_cons, List.length_nil, Nat.zero_add] at h ⊢
    rw [show pre.length + (l.len + 1) = pre.length + 1 + l.len by omega, h, Sp.seqTo, Sp.getD_mid]
    by_cases h0 : pre.length = 0 <;> simp [h0]
theorem TmL.brkd (l : TmL) (ln : Bool) (d : Nat) : Sp.brkd ⟨#[91]⟩ ⟨#[93]⟩ ln d (l.texts ln (d + 1)) = l.txtB ln d := by
  have h := l.seq ln (d + 1) []
  simp only [List.nil_append, List.length_nil, Nat.zero_add, Sp.seqTo] at h
  rw [Sp.brkd, TmL.texts_len, h]
  simp [TmL.txtB]
theorem TmF.brkd (l : TmF) (ln : Bool) (d : Nat) : Sp.brkd ⟨#[123]⟩ ⟨#[125]⟩ ln d (l.texts ln (d + 1)) = l.txtB ln d := by
  have h := l.seq ln (d + 1) []
  simp only [List.nil_append, List.length_nil, Nat.zero_add, Sp.seqTo] at h
  rw [Sp.brkd, TmF.texts_len, h]
  simp [TmF.txtB]
end Go.Proofs.YtnndlffidifddaaGreatDoor

