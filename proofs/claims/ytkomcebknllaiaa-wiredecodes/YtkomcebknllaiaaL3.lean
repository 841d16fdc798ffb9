/- Reading a number, plainly; the reader's number where it can be read. -/
import Derived.Test.YtkomcebknllaiaaL2
import Derived.Laws.Bits64
import Derived.Laws.Bits64b
import Derived.Test.YtkomcebknllaiaaL1
import Derived.Lib.BytesEntry
import Derived.Lib.Bytealg
namespace Go.Proofs.Ytkomcebknllaiaa
open Go.RowKit

/-- what reading comes to: a value and how far it came, or at which place it is wrong, and why -/
inductive Rs (α : Type) where
  | ok (v : α) (at' : Nat)
  | bad (place : Nat) (why : Int)
namespace Sp
/-- reads on in a number that begins at s, its byte number i being next, n being what came: at most k bytes more -/
def rn (xs : List Int) (s : Nat) : Nat → Nat → Nat → Rs Nat
  | 0, _, _ => .bad s 31
  | k + 1, i, n => match xs[s + i]? with
    | none => .bad xs.length 4
    | some c => if (i = 9 ∧ 1 < c) ∨ (0 < i ∧ c = 0) then .bad s 31 else if c < 128 then .ok (n + c.toNat * 128 ^ i) (s + i + 1) else rn xs s k (i + 1) (n + (c.toNat - 128) * 128 ^ i)
end Sp
/-- each is a byte -/
def By (xs : List Int) : Prop := ∀ x ∈ xs, 0 ≤ x ∧ x ≤ 255
theorem By.get {xs : List Int} (h : By xs) {j : Nat} {u : Int} (hu : xs[j]? = some u) : 0 ≤ u ∧ u ≤ 255 := h u (List.mem_of_getElem? hu)
theorem andNot_128 (a : Int) (h0 : 0 ≤ a) (h1 : a ≤ 255) : bits .andNot .u8 a 128 = a % 128 := by
  have key : ∀ x : Fin 256, bits .andNot .u8 (x.1 : Int) 128 = ((x.1 : Int) % 128) := by decide +kernel
  have := key ⟨a.toNat, by omega⟩
  simp only [Int.toNat_of_nonneg h0] at this
  exact this
theorem or_join (n m i : Nat) (hi : i ≤ 9) (hn : n < 128 ^ i) (hm : m * 128 ^ i < 18446744073709551616) : bits .or .u64 (n : Int) ((m * 128 ^ i : Nat) : Int) = ((n + m * 128 ^ i : Nat) : Int) := by
  have h9 : 128 ^ i ≤ 128 ^ 9 := Nat.pow_le_pow_right (by decide) hi
  rw [bits_or_u64_nat n (m * 128 ^ i) (by omega) hm]
  congr 1
  have e : (128 : Nat) ^ i = 2 ^ (7 * i) := by rw [Nat.pow_mul]
  rw [e] at hn ⊢
  have := Nat.shiftLeft_add_eq_or_of_lt hn m
  rw [Nat.shiftLeft_eq] at this
  rw [Nat.or_comm, ← this, Nat.add_comm]

set_option maxRecDepth 100000 in
set_option maxHeartbeats 2000000 in
theorem rnumber_ok (v at2 : Nat) (b : Nat) (a : Option Addr) (xs : List Int) (cap at' p : Nat) (w : World) (h : Rdr w b a xs cap at' p) (hby : By xs) (hr : Sp.rn xs at' 10 0 0 = .ok v at2) :
    Calls Try.prog 101 #[.pointer (some ⟨b, 0, none⟩)] w fun e w' => e = .returned (.int .u64 (v : Int)) ∧ Rdr w' b a xs cap at2 p ∧ But b w w' := by
  have HBY : Hid (By xs) := hby
  have H0 : Hid (Sp.rn xs at' 10 0 0 = .ok v at2 ∧ Rdr w b a xs cap (at' + 0) p ∧ But b w w) := ⟨hr, h, But.refl h.lt⟩
  obtain ⟨c0, c1, c2, f1, f2, rd, cp, ln, le, np⟩ := h
  clear hby hr rd
  go_enter Try.func101, Try.ntmps101
  go_wp2_with fail
  go_loopw [4, 11] (fun u x wr => ∃ (k i n : Nat), u = .int .u64 (n : Int) ∧ x = .int .i64 (i : Int) ∧ i + k = 10 ∧ Hid (n < 128 ^ i ∧ Sp.rn xs at' k i n = .ok v at2 ∧ Rdr wr b a xs cap (at' + i) p ∧ But b w wr)) (fun _ x _ => 10 - (intOf x).toNat)
  case atStart => exact ⟨10, 0, 0, rfl, rfl, rfl, by decide, H0.out⟩
  case round =>
    obtain ⟨k, i, n, rfl, rfl, hik, HR⟩ := hrel
    clear H0 c0 c1 c2 f1 f2
    cases k with
    | zero => have := HR.out.2.1; simp [Sp.rn] at this
    | succ k =>
      have hi10 : (i : Int) < 10 := by omega
      obtain ⟨hn, hrn, hrd, hbl⟩ := HR.out
      cases hx : xs[at' + i]? with
      | none => rw [Sp.rn, hx] at hrn; simp at hrn
      | some c =>
        have hcb := HBY.out.get hx
        rw [Sp.rn, hx] at hrn
        simp only at hrn
        by_cases hbad : (i = 9 ∧ 1 < c) ∨ (0 < i ∧ c = 0)
        · rw [if_pos hbad] at hrn; simp at hrn
        · rw [if_neg hbad] at hrn
          have HBT : Hid (Calls Try.prog 99 #[.pointer (some ⟨b, 0, none⟩)] wr fun e w' => e = .returned (.int .u8 c) ∧ Rdr w' b a xs cap (at' + i + 1) p ∧ But b wr w') := rbyte_ok c b a xs cap (at' + i) p wr hrd hx
          have hm : c.toNat % 128 * 128 ^ i < 18446744073709551616 := by
            by_cases h9 : i = 9
            · subst h9
              have : c.toNat % 128 ≤ 1 := by omega
              have h2 : c.toNat % 128 * 128 ^ 9 ≤ 1 * 128 ^ 9 := Nat.mul_le_mul_right _ this
              omega
            · have h8 : 128 ^ i ≤ 128 ^ 8 := Nat.pow_le_pow_right (by decide) (by omega)
              have h2 : c.toNat % 128 * 128 ^ i ≤ 127 * 128 ^ 8 := Nat.mul_le_mul (by omega) h8
              omega
          have han := andNot_128 c hcb.1 hcb.2
          have hor := or_join n (c.toNat % 128) i (by omega) hn hm
          have HHN : Hid (n < 128 ^ i) := hn
          have HBL : Hid (But b w wr) := hbl
          clear hn hrd hbl HR hx
          have HOR : Hid (bits BinOp.or IntKind.u64 (n : Int) (IntKind.u64.wrap (c % 128 * 2 ^ (7 * i))) = ((n + c.toNat % 128 * 128 ^ i : Nat) : Int)) := by
            show _ = _
            have e1 : (c % 128 * 2 ^ (7 * i) : Int) = ((c.toNat % 128 * 128 ^ i : Nat) : Int) := by
              have e2 : (128 : Nat) ^ i = 2 ^ (7 * i) := by rw [Nat.pow_mul]
              rw [e2]
              push_cast
              rw [Int.toNat_of_nonneg hcb.1]
            rw [e1, IntKind.wrap_u64, Int.emod_eq_of_lt (by omega) (by omega)]
            exact hor
          have HNX : Hid (n + c.toNat % 128 * 128 ^ i < 128 ^ (i + 1)) := by
            show _ < _
            have h2 : c.toNat % 128 * 128 ^ i ≤ 127 * 128 ^ i := Nat.mul_le_mul_right _ (by omega)
            have h3 := HHN.out
            rw [Nat.pow_succ]; omega
          clear hor hm
          have hcase : i = 0 ∨ (0 < i ∧ i < 9) ∨ i = 9 := by omega
          rcases hcase with hi0 | ⟨hi0, hi9⟩ | hi9
          · have b9 : ((i : Int) == 9) = false := by simp; omega
            have b0 : ¬ ((0 : Int) < (i : Int)) := by omega
            clear hi0
            by_cases hc : c < 128
            · have HV : Hid (v = n + c.toNat % 128 * 128 ^ i) := by
                show _ = _; rw [if_pos hc] at hrn; injection hrn with e1 e2; rw [← e1, Nat.mod_eq_of_lt (by omega)]
              have HA2 : Hid (at2 = at' + i + 1) := by
                show _ = _; rw [if_pos hc] at hrn; injection hrn with e1 e2; exact e2.symm
              clear hrn
              go_wp2_with (go_at_call 99; refine HBT.out.mono ?_; rintro e w1 ⟨rfl, hr1, hb1⟩; have HR1 : Hid (Rdr w1 b a xs cap (at' + i + 1) p ∧ But b wr w1) := ⟨hr1, hb1⟩; clear hr1 hb1)
              go_ret
              exact ⟨by rw [HV.out]; exact ret_int HOR.out, by rw [HA2.out]; exact HR1.out.1, HBL.out.trans HR1.out.2⟩
            · have HRN : Hid (Sp.rn xs at' k (i + 1) (n + c.toNat % 128 * 128 ^ i) = .ok v at2) := by
                show _ = _; rw [if_neg hc] at hrn; rw [show c.toNat % 128 = c.toNat - 128 by omega]; exact hrn
              clear hrn
              go_wp2_with (go_at_call 99; refine HBT.out.mono ?_; rintro e w1 ⟨rfl, hr1, hb1⟩; have HR1 : Hid (Rdr w1 b a xs cap (at' + i + 1) p ∧ But b wr w1) := ⟨hr1, hb1⟩; clear hr1 hb1)
              go_roundw
              case rel => exact ⟨k, i + 1, n + c.toNat % 128 * 128 ^ i, by rw [HOR.out], by go_num, by omega, HNX.out, HRN.out, HR1.out.1, HBL.out.trans HR1.out.2⟩
              case measure => simp [intOf]; omega
          · have b9 : ((i : Int) == 9) = false := by simp; omega
            have b0 : (0 : Int) < (i : Int) := by omega
            have bc : (c == 0) = false := by simp; omega
            by_cases hc : c < 128
            · have HV : Hid (v = n + c.toNat % 128 * 128 ^ i) := by
                show _ = _; rw [if_pos hc] at hrn; injection hrn with e1 e2; rw [← e1, Nat.mod_eq_of_lt (by omega)]
              have HA2 : Hid (at2 = at' + i + 1) := by
                show _ = _; rw [if_pos hc] at hrn; injection hrn with e1 e2; exact e2.symm
              clear hrn
              go_wp2_with (go_at_call 99; refine HBT.out.mono ?_; rintro e w1 ⟨rfl, hr1, hb1⟩; have HR1 : Hid (Rdr w1 b a xs cap (at' + i + 1) p ∧ But b wr w1) := ⟨hr1, hb1⟩; clear hr1 hb1)
              go_ret
              exact ⟨by rw [HV.out]; exact ret_int HOR.out, by rw [HA2.out]; exact HR1.out.1, HBL.out.trans HR1.out.2⟩
            · have HRN : Hid (Sp.rn xs at' k (i + 1) (n + c.toNat % 128 * 128 ^ i) = .ok v at2) := by
                show _ = _; rw [if_neg hc] at hrn; rw [show c.toNat % 128 = c.toNat - 128 by omega]; exact hrn
              clear hrn
              go_wp2_with (go_at_call 99; refine HBT.out.mono ?_; rintro e w1 ⟨rfl, hr1, hb1⟩; have HR1 : Hid (Rdr w1 b a xs cap (at' + i + 1) p ∧ But b wr w1) := ⟨hr1, hb1⟩; clear hr1 hb1)
              go_roundw
              case rel => exact ⟨k, i + 1, n + c.toNat % 128 * 128 ^ i, by rw [HOR.out], by go_num, by omega, HNX.out, HRN.out, HR1.out.1, HBL.out.trans HR1.out.2⟩
              case measure => simp [intOf]; omega
          · have b9 : ((i : Int) == 9) = true := by simp; omega
            have b0 : (0 : Int) < (i : Int) := by omega
            have bc : (c == 0) = false := by simp; omega
            have b1 : ¬ ((1 : Int) < c) := by omega
            clear hi9
            by_cases hc : c < 128
            · have HV : Hid (v = n + c.toNat % 128 * 128 ^ i) := by
                show _ = _; rw [if_pos hc] at hrn; injection hrn with e1 e2; rw [← e1, Nat.mod_eq_of_lt (by omega)]
              have HA2 : Hid (at2 = at' + i + 1) := by
                show _ = _; rw [if_pos hc] at hrn; injection hrn with e1 e2; exact e2.symm
              clear hrn
              go_wp2_with (go_at_call 99; refine HBT.out.mono ?_; rintro e w1 ⟨rfl, hr1, hb1⟩; have HR1 : Hid (Rdr w1 b a xs cap (at' + i + 1) p ∧ But b wr w1) := ⟨hr1, hb1⟩; clear hr1 hb1)
              go_ret
              exact ⟨by rw [HV.out]; exact ret_int HOR.out, by rw [HA2.out]; exact HR1.out.1, HBL.out.trans HR1.out.2⟩
            · omega
end Go.Proofs.Ytkomcebknllaiaa

/- The reader's count, version, bool, kind where nothing is wrong. -/
namespace Go.Proofs.Ytkomcebknllaiaa
open Go.RowKit

set_option maxRecDepth 100000 in
set_option maxHeartbeats 1000000 in
theorem count_ok (n at2 : Nat) (start : Int) (most : Nat) (b : Nat) (a : Option Addr) (xs : List Int) (cap at' p : Nat) (w : World) (h : Rdr w b a xs cap at' p) (hby : By xs) (hr : Sp.rn xs at' 10 0 0 = .ok n at2) (hn : n ≤ most) (hm : most ≤ 65536) :
    Calls Try.prog 120 #[.pointer (some ⟨b, 0, none⟩), .int .i64 start, .int .i64 (most : Int)] w fun e w' => e = .returned (.int .i64 (n : Int)) ∧ Rdr w' b a xs cap at2 p ∧ But b w w' := by
  have HN : Hid (Calls Try.prog 101 #[.pointer (some ⟨b, 0, none⟩)] w fun e w' => e = .returned (.int .u64 (n : Int)) ∧ Rdr w' b a xs cap at2 p ∧ But b w w') := rnumber_ok n at2 b a xs cap at' p w h hby hr
  have h1 : ¬ ((most : Int) < (n : Int)) := by omega
  clear h hr hby
  go_enter Try.func120, Try.ntmps120
  go_wp2_with fail
  refine HN.out.mono ?_
  rintro e w1 ⟨rfl, hr1, hb1⟩
  have HR1 : Hid (Rdr w1 b a xs cap at2 p ∧ But b w w1) := ⟨hr1, hb1⟩
  clear hr1 hb1
  go_wp2_with fail
  go_ret
  exact ⟨rfl, HR1.out⟩

set_option maxRecDepth 100000 in
set_option maxHeartbeats 1000000 in
theorem version_ok (n at2 : Nat) (start : Int) (b : Nat) (a : Option Addr) (xs : List Int) (cap at' p : Nat) (w : World) (h : Rdr w b a xs cap at' p) (hby : By xs) (hr : Sp.rn xs at' 10 0 0 = .ok n at2) (hn : 1 ≤ n ∧ n ≤ 1000) :
    Calls Try.prog 123 #[.pointer (some ⟨b, 0, none⟩), .int .i64 start] w fun e w' => e = .returned (.tuple #[]) ∧ Rdr w' b a xs cap at2 p ∧ But b w w' := by
  have HN : Hid (Calls Try.prog 101 #[.pointer (some ⟨b, 0, none⟩)] w fun e w' => e = .returned (.int .u64 (n : Int)) ∧ Rdr w' b a xs cap at2 p ∧ But b w w') := rnumber_ok n at2 b a xs cap at' p w h hby hr
  have h1 : ¬ ((n : Int) < 1) := by omega
  have h2 : ¬ ((1000 : Int) < (n : Int)) := by omega
  clear h hr hby
  go_enter Try.func123, Try.ntmps123
  go_wp2_with fail
  refine HN.out.mono ?_
  rintro e w1 ⟨rfl, hr1, hb1⟩
  have HR1 : Hid (Rdr w1 b a xs cap at2 p ∧ But b w w1) := ⟨hr1, hb1⟩
  clear hr1 hb1
  go_wp2_with fail
  go_end0
  exact ⟨rfl, HR1.out⟩

set_option maxRecDepth 100000 in
set_option maxHeartbeats 1000000 in
theorem rbool_ok (x : Int) (b : Nat) (a : Option Addr) (xs : List Int) (cap at' p : Nat) (w : World) (h : Rdr w b a xs cap at' p) (hx : xs[at']? = some x) (h1 : x ≤ 1) :
    Calls Try.prog 118 #[.pointer (some ⟨b, 0, none⟩)] w fun e w' => e = .returned (.tuple #[]) ∧ Rdr w' b a xs cap (at' + 1) p ∧ But b w w' := by
  have HN : Hid (Calls Try.prog 99 #[.pointer (some ⟨b, 0, none⟩)] w fun e w' => e = .returned (.int .u8 x) ∧ Rdr w' b a xs cap (at' + 1) p ∧ But b w w') := rbyte_ok x b a xs cap at' p w h hx
  have h2 : ¬ ((1 : Int) < x) := by omega
  obtain ⟨c0, c1, c2, f1, f2, rd, cp, ln, le, np⟩ := h
  clear hx rd
  go_enter Try.func118, Try.ntmps118
  go_wp2_with fail
  refine HN.out.mono ?_
  rintro e w1 ⟨rfl, hr1, hb1⟩
  have HR1 : Hid (Rdr w1 b a xs cap (at' + 1) p ∧ But b w w1) := ⟨hr1, hb1⟩
  clear hr1 hb1
  go_wp2_with fail
  go_end0
  exact ⟨rfl, HR1.out⟩

set_option maxRecDepth 100000 in
set_option maxHeartbeats 1000000 in
theorem kind_ok (x : Int) (depth : Int) (b : Nat) (a : Option Addr) (xs : List Int) (cap at' p : Nat) (w : World) (h : Rdr w b a xs cap at' p) (hx : xs[at']? = some x) (hp : p < 16384) (hd : depth ≤ 64) :
    Calls Try.prog 117 #[.pointer (some ⟨b, 0, none⟩), .int .i64 depth] w fun e w' => e = .returned (.int .u8 x) ∧ Rdr w' b a xs cap (at' + 1) (p + 1) ∧ But b w w' := by
  have hl : at' < xs.length := (List.getElem?_eq_some_iff.1 hx).1
  have HE : Hid (Calls Try.prog 133 #[.pointer (some ⟨b, 0, none⟩), .int .i64 1] w fun e w' => e = .returned (.tuple #[]) ∧ Rdr w' b a xs cap at' p ∧ Below w.heap.size w w') := endRule_ok 1 b a xs cap at' p w h (by omega)
  have HX : Hid (xs[at']? = some x) := hx
  have hlt := h.lt
  have hp1 : ¬ ((16384 : Int) ≤ (p : Int)) := by omega
  have hd1 : ¬ ((64 : Int) < depth) := by omega
  clear h hx
  go_enter Try.func117, Try.ntmps117
  go_wp2_with fail
  refine HE.out.mono ?_
  rintro e w1 ⟨rfl, hr1, hb1⟩
  have HS : Hid (Rdr (w1.setCell ⟨b, 2, none⟩ (.int .i64 ((p : Int) + 1))) b a xs cap at' (p + 1) ∧ But b w (w1.setCell ⟨b, 2, none⟩ (.int .i64 ((p : Int) + 1)))) := by
    have := hr1.setP (p + 1) (by omega)
    rw [show (((p + 1 : Nat) : Int)) = (p : Int) + 1 by omega] at this
    exact ⟨this.1, (But.of hlt hb1).trans this.2⟩
  obtain ⟨c0, c1, c2, f1, f2, rd, cp, ln, le, np⟩ := hr1
  clear hb1 HE rd
  go_wp2_with fail
  refine (rbyte_ok x b a xs cap at' (p + 1) _ HS.out.1 HX.out).mono ?_
  rintro e w2 ⟨rfl, hr2, hb2⟩
  have HR2 : Hid (Rdr w2 b a xs cap (at' + 1) (p + 1) ∧ But b w w2) := ⟨hr2, HS.out.2.trans hb2⟩
  clear hr2 hb2
  go_wp2_with fail
  go_ret
  exact ⟨rfl, HR2.out⟩
end Go.Proofs.Ytkomcebknllaiaa

/- 'append' onto a slice that the call itself made: what it owns grows, nothing else turns, and the row is the old one or the newest block. -/
namespace Go.Proofs.Ytkomcebknllaiaa
open Go.RowKit

theorem run_app {P : Program} (w : World) (base : Nat) (t ty e : TypeId) (i : TypeInfo) (z : Value) (size bytes : Nat) (ht : P.underlying t = some (.slice e)) (hi : P.info? e = some i) (hz : i.zero = some z)
    (hsize : i.size = size) (hby : i.bytes = bytes) (hzs : z.cells.size = size) (hsz : 0 < size)
    (v : Value) (n : Nat) (xs : List Value) (hown : w.ownsRow base e size v n xs)
    (a : Addr) (m c : Nat) (news : List Value) (hl : news.length = m * size) (hnews : ∀ j u, news[j]? = some u → w.cell? (a.add j) = some u) (h1 : ∀ u ∈ news, u.oneCell' = true) (hm : 0 < m)
    (h63 : n + m ≤ maxLen) (hbytes : (n + m) * bytes ≤ 140737488355328) (hbase : base ≤ w.heap.size) :
    ∃ g cap w', (Builtin.append_ #[t, t] ty #[v, .slice (some a) m c]).run P w = .ok (.slice (some ⟨g, 0, none⟩) (n + m) cap) w' ∧ w'.ownsRow base e size (.slice (some ⟨g, 0, none⟩) (n + m) cap) (n + m) (xs ++ news) ∧ w.grownBy w' v.ownBlock ∧
      (v.ownBlock = some g ∨ g = w.heap.size) := by
  obtain ⟨v', w', hr, h2, h3, h4⟩ := run_append_own (P := P) w base t ty e i z size bytes ht hi hz hsize hby hzs hsz v n xs hown a m c news hl hnews h1 h63 hbytes hbase
  have hsmall : n + m ≤ 9223372036854775807 := by simp only [maxLen] at h63; omega
  have key : ∃ g cap, v' = .slice (some ⟨g, 0, none⟩) (n + m) cap ∧ (v.ownBlock = some g ∨ g = w.heap.size) := by
    subst hsize
    subst hby
    rcases hown.2 with ⟨rfl, rfl⟩ | ⟨g, cap, cur, rfl, hbg, hg, hnc, hcm, hcs, htake⟩
    · have hr' := run_append_nil (P := P) w t ty e i z ht hi hz a m c news hl hnews hm (by omega) (by have hb := hbytes; simp only [Nat.zero_add] at hb; omega)
      rw [hr] at hr'
      injection hr' with hv _
      exact ⟨w.heap.size, _, by rw [hv, Nat.zero_add], .inr rfl⟩
    · by_cases hroom : n + m ≤ cap
      · have hfit : n * i.size + news.length ≤ cur.size := by rw [hl, hcs, ← Nat.add_mul]; exact Nat.mul_le_mul_right _ hroom
        have hr' := run_append_room (P := P) w t ty e i ht hi g n cap cur hg a m c news hl hnews h1 hroom hfit
        rw [hr] at hr'
        injection hr' with hv _
        exact ⟨g, cap, hv, .inl rfl⟩
      · have holds : ∀ j u, xs[j]? = some u → w.cell? ((⟨g, 0, none⟩ : Addr).add j) = some u := hown.cells (g := g) rfl
        have hr' := run_append_grow (P := P) w t ty e i z ht hi hz ⟨g, 0, none⟩ n cap xs hown.1 holds a m c news hl hnews (by omega) (by omega) (growslice_fits (by omega) hbytes)
        rw [hr] at hr'
        injection hr' with hv _
        exact ⟨w.heap.size, _, hv, .inr rfl⟩
  obtain ⟨g, cap, rfl, ho⟩ := key
  exact ⟨g, cap, w', hr, h2, h3, ho⟩

theorem wpList_app {P : Program} (w : World) {ops : Array Oper} {rest : List Oper} {o : Oper} {a : Act} {Q : Exit → Act → World → Prop} (hgd : o.guard = none) (s x : Operand) (t : TypeId)
    (ho : o.op = .call { callee := .builtin .append, args := #[s, x], argTypes := #[t, t] })
    (base : Nat) (e : TypeId) (i : TypeInfo) (z : Value) (size bytes : Nat) (ht : P.underlying t = some (.slice e)) (hi : P.info? e = some i) (hz : i.zero = some z)
    (hsize : i.size = size) (hby : i.bytes = bytes) (hzs : z.cells.size = size) (hsz : 0 < size)
    (v : Value) (n : Nat) (xs : List Value) (hs : a.eval s = v) (hown : w.ownsRow base e size v n xs)
    (ad : Addr) (m c : Nat) (news : List Value) (hx : a.eval x = .slice (some ad) m c) (hl : news.length = m * size) (hnews : ∀ j u, news[j]? = some u → w.cell? (ad.add j) = some u) (h1 : ∀ u ∈ news, u.oneCell' = true) (hm : 0 < m)
    (h63 : n + m ≤ maxLen) (hbytes : (n + m) * bytes ≤ 140737488355328) (hbase : base ≤ w.heap.size)
    (h : ∀ g cap w', w'.ownsRow base e size (.slice (some ⟨g, 0, none⟩) (n + m) cap) (n + m) (xs ++ news) → w.grownBy w' v.ownBlock → (v.ownBlock = some g ∨ g = w.heap.size) → wpList P ops Q rest (a.put o.dst (.slice (some ⟨g, 0, none⟩) (n + m) cap)) w') : wpList P ops Q (o :: rest) a w := by
  refine wpList_plain hgd fun K hK => ?_
  obtain ⟨g, cap, w', hr, h2, h3, h4⟩ := run_app (P := P) w base t o.type e i z size bytes ht hi hz hsize hby hzs hsz v n xs hown ad m c news hl hnews h1 hm h63 hbytes hbase
  unfold Oper.wp execOp
  simp only [ho, resolve, invoke, builtin, Sem.run_bind, Sem.run_pure, Result.andThen_ok, List.map_toArray, List.map_cons, List.map_nil, hs, hx, hr]
  exact hK _ _ (h g cap w' h2 h3 h4)

/-- an append whose run is known -/
theorem wpList_ran {P : Program} (w : World) {ops : Array Oper} {rest : List Oper} {o : Oper} {a : Act} {Q : Exit → Act → World → Prop} (hgd : o.guard = none) (s x : Operand) (t : TypeId)
    (ho : o.op = .call { callee := .builtin .append, args := #[s, x], argTypes := #[t, t] }) (v y v' : Value) (w' : World) (hs : a.eval s = v) (hx : a.eval x = y)
    (hr : (Builtin.append_ #[t, t] o.type #[v, y]).run P w = .ok v' w') (h : wpList P ops Q rest (a.put o.dst v') w') : wpList P ops Q (o :: rest) a w := by
  refine wpList_plain hgd fun K hK => ?_
  unfold Oper.wp execOp
  simp only [ho, resolve, invoke, builtin, Sem.run_bind, Sem.run_pure, Result.andThen_ok, List.map_toArray, List.map_cons, List.map_nil, hs, hx, hr]
  exact hK _ _ h
theorem app_zero (ty : TypeId) (g : Nat) (ab : Option Addr) (cb : Nat) (w : World) : (Builtin.append_ #[23, 23] ty #[.slice (some ⟨g, 0, none⟩) 0 0, .slice ab 0 cb]).run Try.prog w = .ok (.slice (some ⟨g, 0, none⟩) 0 0) w := by
  cases ab <;> kernel_rfl

theorem Try.infoI : (Try.prog.info? 20).map (fun i => (i.zero, i.size, i.bytes)) = some (some .nilIface, 1, 16) := by kernel_rfl
theorem Try.infoF : (Try.prog.info? 112).map (fun i => (i.zero, i.size, i.bytes)) = some (some (.agg #[.string ByteArray.empty, .nilIface]), 2, 32) := by kernel_rfl
theorem Try.infoT : (Try.prog.info? 29).map (fun i => (i.zero, i.size, i.bytes)) = some (some (.agg (tcells 0 false 0 0 ByteArray.empty (.slice none 0 0) 0 (.slice none 0 0) (.slice none 0 0) ByteArray.empty 0)), 11, 152) := by kernel_rfl
theorem Try.infoB : (Try.prog.info? 5).map (fun i => (i.zero, i.size, i.bytes)) = some (some (.int .u8 0), 1, 1) := by kernel_rfl
theorem Try.undL : Try.prog.underlying 71 = some (.slice 20) := by kernel_rfl
theorem Try.undD : Try.prog.underlying 73 = some (.slice 112) := by kernel_rfl
theorem Try.undT : Try.prog.underlying 26 = some (.slice 29) := by kernel_rfl
theorem Try.undB : Try.prog.underlying 23 = some (.slice 5) := by kernel_rfl
end Go.Proofs.Ytkomcebknllaiaa

/- The reader's name where it is one. -/
namespace Go.Proofs.Ytkomcebknllaiaa
open Go.RowKit

theorem Try.undUd : Try.prog.underlying 5 = some (.int .u8) := by kernel_rfl
theorem Try.undSd : Try.prog.underlying 9 = some .string := by kernel_rfl
/-- bytes as a text -/
def Sp.txt (l : List Int) : ByteArray := strOfNums l
theorem txt_size (l : List Int) : (Sp.txt l).size = l.length := by simp [Sp.txt, strOfNums, ByteArray.size]
theorem conv_rd (l : List Int) (a : Option Addr) (c : Nat) (S : Nat → Prop) (w : World) (ha : RdB w S a l) : (convert 23 9 (.slice a l.length c)).run Try.prog w = .ok (.string (Sp.txt l)) w := by
  cases l with
  | nil =>
    cases a with
    | none => exact run_convert_bytes_nil w _ 5 Try.undB Try.undUd _ _ _ Try.undSd
    | some a =>
      rw [show ([] : List Int).length = 0 from rfl, run_convert_bytes_string w _ _ 5 _ _ _ Try.undB Try.undUd Try.undSd]
      exact run_bytesToString w a 0 c [] rfl
  | cons x l =>
    obtain ⟨g, o, rfl, _, _⟩ := ha 0 x rfl
    exact run_convert_bytes_arg (P := Try.prog) w 23 5 Try.undB Try.undUd g o (x :: l).length c (x :: l) rfl (fun i hi => by
      obtain ⟨g', o', e, _, hc⟩ := ha i ((x :: l)[i]) (List.getElem?_eq_getElem hi)
      simp only [Option.some.injEq, Addr.mk.injEq, and_true] at e
      obtain ⟨rfl, rfl⟩ := e
      rw [hc]; simp [List.getD, List.getElem?_eq_getElem hi]) 9 Try.undSd

set_option maxRecDepth 100000 in
set_option maxHeartbeats 1000000 in
theorem rname_ok (n at2 : Nat) (start : Int) (b : Nat) (a : Option Addr) (xs : List Int) (cap at' p : Nat) (w : World) (h : Rdr w b a xs cap at' p) (hby : By xs) (hr : Sp.rn xs at' 10 0 0 = .ok n at2) (hn : n ≤ 32) (hl : at2 + n ≤ xs.length) (hnm : Sp.isNm (Sp.txt ((xs.drop at2).take n)) = true) :
    Calls Try.prog 122 #[.pointer (some ⟨b, 0, none⟩), .int .i64 start] w fun e w' => ∃ a' cap', e = .returned (.slice a' n cap') ∧ RdB w' (Lo b) a' ((xs.drop at2).take n) ∧ Rdr w' b a xs cap (at2 + n) p ∧ But b w w' := by
  have HN : Hid (Calls Try.prog 101 #[.pointer (some ⟨b, 0, none⟩)] w fun e w' => e = .returned (.int .u64 (n : Int)) ∧ Rdr w' b a xs cap at2 p ∧ But b w w') := rnumber_ok n at2 b a xs cap at' p w h hby hr
  have h1 : ¬ ((32 : Int) < (n : Int)) := by omega
  have hlen : ((xs.drop at2).take n).length = n := by rw [List.length_take, List.length_drop]; omega
  have HIs : Hid (∀ W, Calls Try.prog 111 #[.string (Sp.txt ((xs.drop at2).take n))] W fun e w' => e = .returned (.bool true) ∧ W = w') := fun W => by
    have := isName_any (Sp.txt ((xs.drop at2).take n)) W (by rw [txt_size, hlen]; unfold maxLen; omega)
    rw [hnm] at this; exact this
  have HCV : Hid (∀ W a1 cap1, RdB W (Lo b) a1 ((xs.drop at2).take n) → (convert 23 9 (.slice a1 n cap1)).run Try.prog W = .ok (.string (Sp.txt ((xs.drop at2).take n))) W) := fun W a1 cap1 hW => by
    have := conv_rd _ a1 cap1 (Lo b) W hW
    rw [hlen] at this; exact this
  have HL : Hid (at2 + n ≤ xs.length) := hl
  clear h hr hby hnm hlen hl
  go_enter Try.func122, Try.ntmps122
  go_wp2_with fail
  refine HN.out.mono ?_
  rintro e w1 ⟨rfl, hr1, hb1⟩
  have HR1 : Hid (Rdr w1 b a xs cap at2 p ∧ But b w w1) := ⟨hr1, hb1⟩
  clear hr1 hb1
  go_wp2_with fail
  refine (take_ok n b a xs cap at2 p w1 HR1.out.1 HL.out).mono ?_
  rintro e w2 ⟨a2, cap2, rfl, hrd2, hr2, hb2⟩
  have hcv := HCV.out w2 a2 cap2 hrd2
  have HR2 : Hid (RdB w2 (Lo b) a2 ((xs.drop at2).take n) ∧ Rdr w2 b a xs cap (at2 + n) p ∧ But b w w2) := ⟨hrd2, hr2, HR1.out.2.trans hb2⟩
  clear hrd2 hr2 hb2
  go_wp2_with (go_at_call 111; refine (HIs.out _).mono ?_; rintro e w' ⟨rfl, rfl⟩)
  go_ret
  exact ⟨a2, cap2, rfl, HR2.out⟩
end Go.Proofs.Ytkomcebknllaiaa

/- Plain mathematics: the order of terms, and that it is an order. Nothing of the program stands here. -/
namespace Go.Proofs.Ytkomcebknllaiaa

namespace Sp
def cmpI (a b : Int) : Int := if a < b then -1 else if b < a then 1 else 0
def cmpS (a b : ByteArray) : Int := Lib.compareBytes a.data.toList b.data.toList
def rank (b : Bool) : Int := if b then 1 else 0
/-- where a float stands, by its bits -/
def frank (f : Nat) : Int := if 9223372036854775808 ≤ f then 18446744073709551615 - f else f + 9223372036854775808
end Sp

mutual
def Tm.cmp : Tm → Tm → Int
  | .mk k b i f tx by' rf l fs c v, .mk k2 b2 i2 f2 tx2 by2 rf2 l2 fs2 c2 v2 =>
    if Sp.cmpI k k2 ≠ 0 then Sp.cmpI k k2
    else if k = 2 then Sp.cmpI (Sp.rank b) (Sp.rank b2)
    else if k = 3 then Sp.cmpI i i2
    else if k = 4 then Sp.cmpI (Sp.frank f) (Sp.frank f2)
    else if k = 5 then Sp.cmpS tx tx2
    else if k = 6 then Sp.cmpS by' by2
    else if k = 7 then Sp.cmpI rf rf2
    else if k = 8 then l.cmp l2
    else if k = 9 then fs.cmp fs2
    else if k = 10 then (if Sp.cmpS c c2 ≠ 0 then Sp.cmpS c c2 else if Sp.cmpI v v2 ≠ 0 then Sp.cmpI v v2 else fs.cmp fs2)
    else 0
def TmL.cmp : TmL → TmL → Int
  | .nil, .nil => 0
  | .nil, .cons _ _ => -1
  | .cons _ _, .nil => 1
  | .cons t l, .cons t2 l2 => if t.cmp t2 ≠ 0 then t.cmp t2 else l.cmp l2
def TmF.cmp : TmF → TmF → Int
  | .nil, .nil => 0
  | .nil, .cons _ _ _ => -1
  | .cons _ _ _, .nil => 1
  | .cons n t l, .cons n2 t2 l2 => if Sp.cmpS n n2 ≠ 0 then Sp.cmpS n n2 else if t.cmp t2 ≠ 0 then t.cmp t2 else l.cmp l2
end

theorem ba_empty {s : ByteArray} (h : s.size = 0) : s = ByteArray.empty := by
  cases s with | mk d => simp [ByteArray.size] at h; subst h; rfl
theorem ba_len (s : ByteArray) : s.data.toList.length = s.size := Array.length_toList
theorem bytesLess_cmp : ∀ (a b : List UInt8), Op.bytesLess a b = decide (Lib.compareBytes a b = -1)
  | [], [] => by simp [Op.bytesLess, Lib.compareBytes]
  | [], _ :: _ => by simp [Op.bytesLess, Lib.compareBytes]
  | _ :: _, [] => by simp [Op.bytesLess, Lib.compareBytes]
  | x :: a, y :: b => by
    simp only [Op.bytesLess, Lib.compareBytes, bytesLess_cmp a b]
    by_cases h1 : x < y
    · simp [h1]
    · by_cases h2 : y < x
      · have : ¬ x = y := by intro e; subst e; exact absurd h2 (UInt8.lt_irrefl _)
        simp [h1, h2, this]
      · have : x = y := UInt8.le_antisymm (UInt8.not_lt.1 h2) (UInt8.not_lt.1 h1)
        simp [this]
theorem cmp_eq_zero : ∀ (a b : List UInt8), Lib.compareBytes a b = 0 ↔ a = b
  | [], [] => by simp [Lib.compareBytes]
  | [], _ :: _ => by simp [Lib.compareBytes]
  | _ :: _, [] => by simp [Lib.compareBytes]
  | x :: a, y :: b => by
    simp only [Lib.compareBytes]
    by_cases h1 : x < y
    · have : ¬ x = y := by intro e; subst e; exact absurd h1 (UInt8.lt_irrefl _)
      simp [h1, this]
    · by_cases h2 : y < x
      · have : ¬ x = y := by intro e; subst e; exact absurd h2 (UInt8.lt_irrefl _)
        simp [h1, h2, this]
      · have : x = y := UInt8.le_antisymm (UInt8.not_lt.1 h2) (UInt8.not_lt.1 h1)
        simp [this, cmp_eq_zero a b]
theorem cmp_vals : ∀ (a b : List UInt8), Lib.compareBytes a b = -1 ∨ Lib.compareBytes a b = 0 ∨ Lib.compareBytes a b = 1
  | [], [] => by simp [Lib.compareBytes]
  | [], _ :: _ => by simp [Lib.compareBytes]
  | _ :: _, [] => by simp [Lib.compareBytes]
  | x :: a, y :: b => by
    simp only [Lib.compareBytes]
    split
    · simp
    · split
      · simp
      · exact cmp_vals a b

theorem cmpI_zero {a b : Int} (h : Sp.cmpI a b = 0) : a = b := by
  unfold Sp.cmpI at h; split at h
  · omega
  · split at h <;> omega
theorem cmpI_self (a : Int) : Sp.cmpI a a = 0 := by unfold Sp.cmpI; rw [if_neg (by omega), if_neg (by omega)]

section
variable {b b2 : Bool} {i i2 : Int} {f f2 : Nat} {tx tx2 : ByteArray} {by' by2 : ByteArray} {rf rf2 : Int} {l l2 : TmL} {fs fs2 : TmF} {c c2 : ByteArray} {v v2 : Int}
theorem Tm.cmp_ne {k k2 : Int} (h : Sp.cmpI k k2 ≠ 0) : (Tm.mk k b i f tx by' rf l fs c v).cmp (.mk k2 b2 i2 f2 tx2 by2 rf2 l2 fs2 c2 v2) = Sp.cmpI k k2 := by rw [Tm.cmp, if_pos h]
theorem Tm.cmp_1 : (Tm.mk 1 b i f tx by' rf l fs c v).cmp (.mk 1 b2 i2 f2 tx2 by2 rf2 l2 fs2 c2 v2) = 0 := by simp [Tm.cmp, cmpI_self]
theorem Tm.cmp_2 : (Tm.mk 2 b i f tx by' rf l fs c v).cmp (.mk 2 b2 i2 f2 tx2 by2 rf2 l2 fs2 c2 v2) = Sp.cmpI (Sp.rank b) (Sp.rank b2) := by simp [Tm.cmp, cmpI_self]
theorem Tm.cmp_3 : (Tm.mk 3 b i f tx by' rf l fs c v).cmp (.mk 3 b2 i2 f2 tx2 by2 rf2 l2 fs2 c2 v2) = Sp.cmpI i i2 := by simp [Tm.cmp, cmpI_self]
theorem Tm.cmp_4 : (Tm.mk 4 b i f tx by' rf l fs c v).cmp (.mk 4 b2 i2 f2 tx2 by2 rf2 l2 fs2 c2 v2) = Sp.cmpI (Sp.frank f) (Sp.frank f2) := by simp [Tm.cmp, cmpI_self]
theorem Tm.cmp_5 : (Tm.mk 5 b i f tx by' rf l fs c v).cmp (.mk 5 b2 i2 f2 tx2 by2 rf2 l2 fs2 c2 v2) = Sp.cmpS tx tx2 := by simp [Tm.cmp, cmpI_self]
theorem Tm.cmp_6 : (Tm.mk 6 b i f tx by' rf l fs c v).cmp (.mk 6 b2 i2 f2 tx2 by2 rf2 l2 fs2 c2 v2) = Sp.cmpS by' by2 := by simp [Tm.cmp, cmpI_self]
theorem Tm.cmp_7 : (Tm.mk 7 b i f tx by' rf l fs c v).cmp (.mk 7 b2 i2 f2 tx2 by2 rf2 l2 fs2 c2 v2) = Sp.cmpI rf rf2 := by simp [Tm.cmp, cmpI_self]
theorem Tm.cmp_8 : (Tm.mk 8 b i f tx by' rf l fs c v).cmp (.mk 8 b2 i2 f2 tx2 by2 rf2 l2 fs2 c2 v2) = l.cmp l2 := by simp [Tm.cmp, cmpI_self]
theorem Tm.cmp_9 : (Tm.mk 9 b i f tx by' rf l fs c v).cmp (.mk 9 b2 i2 f2 tx2 by2 rf2 l2 fs2 c2 v2) = fs.cmp fs2 := by simp [Tm.cmp, cmpI_self]
theorem Tm.cmp_10 : (Tm.mk 10 b i f tx by' rf l fs c v).cmp (.mk 10 b2 i2 f2 tx2 by2 rf2 l2 fs2 c2 v2) = (if Sp.cmpS c c2 ≠ 0 then Sp.cmpS c c2 else if Sp.cmpI v v2 ≠ 0 then Sp.cmpI v v2 else fs.cmp fs2) := by simp [Tm.cmp, cmpI_self]
end

/-- a term, a list of terms, fields that can be -/
def Tm.Ok (t : Tm) : Prop := ∃ n p d, (t.wk n p d).e = 0
def TmL.Ok (l : TmL) : Prop := ∃ n p d, (l.wk n p d).e = 0
def TmF.Ok (l : TmF) : Prop := ∃ n p d, (l.wk n p d).e = 0
theorem TmL.Ok.head {t : Tm} {l : TmL} (h : TmL.Ok (.cons t l)) : t.Ok ∧ l.Ok := by
  obtain ⟨n, p, d, h⟩ := h
  rw [TmL.wk] at h
  by_cases e : (t.wk n p d).e ≠ 0
  · rw [if_pos e] at h; exact absurd h e
  · rw [if_neg e] at h; exact ⟨⟨n, p, d, Decidable.not_not.1 e⟩, ⟨_, _, _, h⟩⟩
theorem TmF.Ok.head {m : ByteArray} {t : Tm} {l : TmF} (h : TmF.Ok (.cons m t l)) : t.Ok ∧ l.Ok := by
  obtain ⟨n, p, d, h⟩ := h
  rw [TmF.wk] at h
  by_cases e : (t.wk n p d).e ≠ 0
  · rw [if_pos e] at h; exact absurd h e
  · rw [if_neg e] at h; exact ⟨⟨n, p, d, Decidable.not_not.1 e⟩, ⟨_, _, _, h⟩⟩
theorem Tm.Ok.parts {k : Int} {b : Bool} {i : Int} {f : Nat} {tx : ByteArray} {by' : ByteArray} {rf : Int} {l : TmL} {fs : TmF} {c : ByteArray} {v : Int} (h : Tm.Ok (.mk k b i f tx by' rf l fs c v)) :
    1 ≤ k ∧ k ≤ 10 ∧ (k = 8 → l.Ok) ∧ (k = 9 ∨ k = 10 → fs.Ok) := by
  obtain ⟨n, p, d, h⟩ := h
  rw [Tm.wk] at h
  by_cases e : (Tm.mk k b i f tx by' rf l fs c v).own p n ≠ 0
  · rw [if_pos e] at h; exact absurd h e
  · rw [if_neg e] at h
    have hz := Sp.ent_zero (Tm.own_ent _ _ _ (Decidable.not_not.1 e))
    refine ⟨hz.1, hz.2.1, fun h8 => ?_, fun h9 => ?_⟩
    · rw [if_pos h8] at h; exact ⟨_, _, _, h⟩
    · rw [if_neg (by omega), if_pos h9] at h; exact ⟨_, _, _, h⟩
end Go.Proofs.Ytkomcebknllaiaa

/- Reading values, plainly: the term that bytes begin with, or at which place they are wrong, and why. -/
namespace Go.Proofs.Ytkomcebknllaiaa
open Go.RowKit

/-- a term that has no parts, of one kind -/
def lfT (k : Int) (b : Bool) (i : Int) (f : Nat) (tx by' : ByteArray) (rf : Int) : Tm := .mk k b i f tx by' rf .nil .nil ByteArray.empty 0
namespace Sp
/-- the number of which fold made this one -/
def unfold' (n : Nat) : Int := if n % 2 = 1 then -((n / 2 : Nat) : Int) - 1 else ((n / 2 : Nat) : Int)
/-- how many there are -/
def cnt (xs : List Int) (at' start most : Nat) : Rs Nat := match rn xs at' 10 0 0 with
  | .bad q e => .bad q e
  | .ok n a => if most < n then .bad start 2 else .ok n a
/-- so many bytes -/
def tk (xs : List Int) (at' n : Nat) : Rs (List Int) := if at' + n ≤ xs.length then .ok ((xs.drop at').take n) (at' + n) else .bad xs.length 4
/-- a name of the part that begins at start -/
def rdN (xs : List Int) (at' start : Nat) : Rs (List Int) := match rn xs at' 10 0 0 with
  | .bad q e => .bad q e
  | .ok n a => if 32 < n then .bad start 8 else match tk xs a n with
    | .bad q e => .bad q e
    | .ok l a2 => if isNm (txt l) then .ok l a2 else .bad start 8
/-- n values, one behind the other -/
def rdL (step : Nat → Nat → Rs (Tm × Nat)) : Nat → Nat → Nat → Rs (TmL × Nat)
  | 0, at', p => .ok (.nil, p) at'
  | n + 1, at', p => match step at' p with
    | .bad q e => .bad q e
    | .ok (t, p1) a1 => match rdL step n a1 p1 with
      | .bad q e => .bad q e
      | .ok (l, p2) a2 => .ok (.cons t l, p2) a2
/-- n fields of the part that begins at start, each name above the one ahead -/
def rdF (xs : List Int) (start : Nat) (step : Nat → Nat → Rs (Tm × Nat)) : Nat → List Int → Nat → Nat → Rs (TmF × Nat)
  | 0, _, at', p => .ok (.nil, p) at'
  | n + 1, ahead, at', p => match rdN xs at' start with
    | .bad q e => .bad q e
    | .ok nm a0 => if cmpS (txt nm) (txt ahead) ≤ 0 then .bad start 8 else match step a0 p with
      | .bad q e => .bad q e
      | .ok (t, p1) a1 => match rdF xs start step n nm a1 p1 with
        | .bad q e => .bad q e
        | .ok (l, p2) a2 => .ok (.cons (txt nm) t l, p2) a2
/-- fields with their number ahead -/
def rdD (xs : List Int) (start : Nat) (step : Nat → Nat → Rs (Tm × Nat)) (at' p : Nat) : Rs (TmF × Nat) := match cnt xs at' start 4096 with
  | .bad q e => .bad q e
  | .ok n a => rdF xs start step n [] a p
/-- what stands behind a value's first byte k, which stands at s -/
def rdB (xs : List Int) (step : Nat → Nat → Rs (Tm × Nat)) (k : Int) (s p : Nat) : Rs (Tm × Nat) :=
  if k = 1 then .ok (lfT 1 false 0 0 ByteArray.empty ByteArray.empty 0, p) (s + 1)
  else if k = 2 then match xs[s + 1]? with
    | none => .bad xs.length 4
    | some c => if 1 < c then .bad (s + 1) 30 else .ok (lfT 2 (c == 1) 0 0 ByteArray.empty ByteArray.empty 0, p) (s + 2)
  else if k = 3 then match rn xs (s + 1) 10 0 0 with
    | .bad q e => .bad q e
    | .ok n a => .ok (lfT 3 false (unfold' n) 0 ByteArray.empty ByteArray.empty 0, p) a
  else if k = 4 then match tk xs (s + 1) 8 with
    | .bad q e => .bad q e
    | .ok l a => .ok (lfT 4 false 0 (l.foldl (fun n x => n * 256 + x.toNat) 0) ByteArray.empty ByteArray.empty 0, p) a
  else if k = 5 ∨ k = 6 then match cnt xs (s + 1) s 65536 with
    | .bad q e => .bad q e
    | .ok n a => match tk xs a n with
      | .bad q e => .bad q e
      | .ok l a2 => .ok (lfT k false 0 0 (if k = 5 then txt l else ByteArray.empty) (if k = 6 then txt l else ByteArray.empty) 0, p) a2
  else if k = 7 then match rn xs (s + 1) 10 0 0 with
    | .bad q e => .bad q e
    | .ok n a => .ok (lfT 7 false 0 0 ByteArray.empty ByteArray.empty n, p) a
  else if k = 8 then match cnt xs (s + 1) s 4096 with
    | .bad q e => .bad q e
    | .ok n a => match rdL step n a p with
      | .bad q e => .bad q e
      | .ok (l, p2) a2 => .ok (.mk 8 false 0 0 ByteArray.empty ByteArray.empty 0 l .nil ByteArray.empty 0, p2) a2
  else if k = 9 then match rdD xs s step (s + 1) p with
    | .bad q e => .bad q e
    | .ok (l, p2) a2 => .ok (.mk 9 false 0 0 ByteArray.empty ByteArray.empty 0 .nil l ByteArray.empty 0, p2) a2
  else if k = 10 then match rdN xs (s + 1) s with
    | .bad q e => .bad q e
    | .ok c a => match rn xs a 10 0 0 with
      | .bad q e => .bad q e
      | .ok v a1 => if v < 1 ∨ 1000 < v then .bad s 1 else match rdD xs s step a1 p with
        | .bad q e => .bad q e
        | .ok (l, p2) a2 => .ok (.mk 10 false 0 0 ByteArray.empty ByteArray.empty 0 .nil l (txt c) v, p2) a2
  else .bad s 30
/-- the value that begins at at', p parts having begun; it may lie f deep from here on -/
def rdV (xs : List Int) : Nat → Nat → Nat → Rs (Tm × Nat)
  | 0, at', _ => if xs.length ≤ at' then .bad xs.length 4 else .bad at' 2
  | f + 1, at', p => match xs[at']? with
    | none => .bad xs.length 4
    | some k => if 16384 ≤ p then .bad at' 2 else rdB xs (rdV xs f) k at' (p + 1)
end Sp
end Go.Proofs.Ytkomcebknllaiaa

/- bytes.Compare at what a reader took; the reader's fields where nothing is wrong. -/
namespace Go.Proofs.Ytkomcebknllaiaa
open Go.RowKit

theorem load_rd (l : List Int) (a : Option Addr) (c : Nat) (S : Nat → Prop) (w : World) (ha : RdB w S a l) : (Extern.Bytes.bytesOf (.slice a l.length c)).run Try.prog w = .ok (Sp.txt l) w := by
  cases l with
  | nil => cases a <;> rfl
  | cons x l =>
    obtain ⟨g, o, rfl, _, _⟩ := ha 0 x rfl
    have h := Lib.run_loadBytesX (P := Try.prog) w (x :: l) ⟨g, o, none⟩ ByteArray.empty (fun j z hj => by
      obtain ⟨g', o', e, _, hc⟩ := ha j z hj
      simp only [Option.some.injEq, Addr.mk.injEq, and_true] at e
      obtain ⟨rfl, rfl⟩ := e
      rw [add_at]; exact hc)
    show (Extern.Bytes.loadBytes ⟨g, o, none⟩ (x :: l).length ByteArray.empty).run Try.prog w = _
    rw [h]
    simp [Sp.txt, strOfNums, Lib.bytesOf]
theorem bcmp_rd (x y : List Int) (a b : Option Addr) (c d : Nat) (S : Nat → Prop) (w : World) (ha : RdB w S a x) (hb : RdB w S b y) :
    (callFunc 116 #[.slice a x.length c, .slice b y.length d]).run Try.prog w = .ok (.value (.int .i64 (Sp.cmpS (Sp.txt x) (Sp.txt y)))) w := by
  rw [run_callFunc_extern Try.func116 (by kernel_rfl) (by kernel_rfl) (by kernel_rfl) (e := Extern.BytealgCompare.compare) (by kernel_rfl)]
  have e : (Extern.BytealgCompare.compare #[.slice a x.length c, .slice b y.length d]).run Try.prog w = .ok (.int .i64 (Sp.cmpS (Sp.txt x) (Sp.txt y))) w := by
    change Sem.run Try.prog (do pure (goInt (Extern.BytealgCompare.cmp (← Extern.Bytes.bytesOf (.slice a x.length c)) (← Extern.Bytes.bytesOf (.slice b y.length d))))) w = _
    simp only [Sem.run_bind, load_rd x a c S w ha, load_rd y b d S w hb, Result.andThen_ok, Sem.run_pure, Lib.cmp_eq]
    rfl
  rw [e]; rfl
set_option maxRecDepth 100000 in
set_option maxHeartbeats 400000 in
theorem bytesCmp_rd (x y : List Int) (a b : Option Addr) (c d m n : Nat) (hm : m = x.length) (hn : n = y.length) (S : Nat → Prop) (w : World) (ha : RdB w S a x) (hb : RdB w S b y) :
    Calls Try.prog 76 #[.slice a m c, .slice b n d] w fun e w' => e = .returned (.int .i64 (Sp.cmpS (Sp.txt x) (Sp.txt y))) ∧ w = w' := by
  subst hm
  subst hn
  have hr := bcmp_rd x y a b c d S w ha hb
  clear ha hb
  go_enter Try.func76, Try.ntmps76
  go_wp2
  go_ret
  exact ⟨rfl, rfl⟩

/-- the contract of the reader's value where it can be read, so deep -/
def VC (xs : List Int) (f : Nat) : Prop := ∀ (b : Nat) (a : Option Addr) (cap at' p : Nat) (t : Tm) (p2 a2 : Nat) (w : World) (d : Int), d = 65 - (f : Int) → Rdr w b a xs cap at' p → Sp.rdV xs f at' p = .ok (t, p2) a2 →
  Calls Try.prog 98 #[.pointer (some ⟨b, 0, none⟩), .int .i64 d] w fun e w' => e = .returned (.tuple #[]) ∧ Rdr w' b a xs cap a2 p2 ∧ But b w w'
theorem rn_ok {xs : List Int} {s : Nat} : ∀ k i n v a, Sp.rn xs s k i n = .ok v a → a ≤ xs.length
  | 0, i, n, v, a, h => by simp [Sp.rn] at h
  | k + 1, i, n, v, a, h => by
    rw [Sp.rn] at h
    cases hx : xs[s + i]? with
    | none => rw [hx] at h; simp at h
    | some c =>
      rw [hx] at h
      simp only at h
      have hl := (List.getElem?_eq_some_iff.1 hx).1
      split at h
      · simp at h
      · split at h
        · injection h with _ h; omega
        · exact rn_ok k _ _ v a h
theorem rdN_ok {xs : List Int} {at' start : Nat} {l : List Int} {a2 : Nat} (h : Sp.rdN xs at' start = .ok l a2) : ∃ n a, Sp.rn xs at' 10 0 0 = .ok n a ∧ n ≤ 32 ∧ a + n ≤ xs.length ∧ l = (xs.drop a).take n ∧ a2 = a + n ∧ Sp.isNm (Sp.txt l) = true := by
  unfold Sp.rdN at h
  cases hr : Sp.rn xs at' 10 0 0 with
  | bad q e => rw [hr] at h; simp at h
  | ok n a =>
    rw [hr] at h
    simp only at h
    split at h
    · simp at h
    · rename_i h32
      unfold Sp.tk at h
      split at h
      · simp at h
      · rename_i l' a' heq
        split at heq
        · rename_i hle
          injection heq with e1 e2
          subst e1; subst e2
          split at h
          · rename_i hnm
            injection h with e1 e2
            subst e1; subst e2
            exact ⟨n, a, rfl, by omega, hle, rfl, rfl, hnm⟩
          · simp at h
        · simp at heq
theorem cnt_ok {xs : List Int} {at' start most n a : Nat} (h : Sp.cnt xs at' start most = .ok n a) : Sp.rn xs at' 10 0 0 = .ok n a ∧ n ≤ most := by
  unfold Sp.cnt at h
  cases hr : Sp.rn xs at' 10 0 0 with
  | bad q e => rw [hr] at h; simp at h
  | ok n' a' =>
    rw [hr] at h
    simp only at h
    split at h
    · simp at h
    · injection h with e1 e2; subst e1; subst e2; exact ⟨rfl, by omega⟩

set_option maxRecDepth 100000 in
set_option maxHeartbeats 2000000 in
theorem dfields_ok (f : Nat) (xs : List Int) (hby : By xs) (HC : VC xs f) (start : Nat) (depth : Int) (hd : depth + 1 = 65 - (f : Int)) (hf : f ≤ 64) (b : Nat) (a : Option Addr) (cap at' p : Nat) (L : TmF) (p2 a2 : Nat) (w : World) (h : Rdr w b a xs cap at' p) (hr : Sp.rdD xs start (Sp.rdV xs f) at' p = .ok (L, p2) a2) :
    Calls Try.prog 121 #[.pointer (some ⟨b, 0, none⟩), .int .i64 (start : Int), .int .i64 depth] w fun e w' => e = .returned (.tuple #[]) ∧ Rdr w' b a xs cap a2 p2 ∧ But b w w' := by
  unfold Sp.rdD at hr
  cases hc : Sp.cnt xs at' start 4096 with
  | bad q e => rw [hc] at hr; simp at hr
  | ok n a1 =>
    rw [hc] at hr
    simp only at hr
    obtain ⟨hrn, hn4⟩ := cnt_ok hc
    have HCT : Hid (Calls Try.prog 120 #[.pointer (some ⟨b, 0, none⟩), .int .i64 (start : Int), .int .i64 4096] w fun e w' => e = .returned (.int .i64 (n : Int)) ∧ Rdr w' b a xs cap a1 p ∧ But b w w') := count_ok n a1 start 4096 b a xs cap at' p w h hby hrn hn4 (by decide)
    have HR : Hid (Sp.rdF xs start (Sp.rdV xs f) n [] a1 p = .ok (L, p2) a2) := hr
    have HCH : Hid (VC xs f ∧ By xs) := ⟨HC, hby⟩
    have hwd : IntKind.i64.wrap (depth + 1) = depth + 1 := Go.wrap_small _ (by omega) (by omega)
    clear h hr hc hrn HC hby
    go_enter Try.func121, Try.ntmps121
    go_wp2_with fail
    refine HCT.out.mono ?_
    rintro e w1 ⟨rfl, hr1, hb1⟩
    have HR1 : Hid (Rdr w1 b a xs cap a1 p ∧ But b w w1) := ⟨hr1, hb1⟩
    clear hr1 hb1 HCT
    go_wp2_with fail
    go_loopw [6, 11] (fun u x wr => ∃ (k j pp aa : Nat) (ahd : List Int) (l : TmF) (a9 : Option Addr) (m9 cap9 : Nat), u = .slice a9 m9 cap9 ∧ x = .int .i64 (k : Int) ∧ k + j = n ∧ Hid (m9 = ahd.length ∧ RdB wr (Lo b) a9 ahd ∧ Sp.rdF xs start (Sp.rdV xs f) j ahd aa pp = .ok (l, p2) a2 ∧ Rdr wr b a xs cap aa pp ∧ But b w wr)) (fun _ x _ => n - (intOf x).toNat)
    case atStart => exact ⟨0, n, p, a1, [], L, none, 0, 0, rfl, rfl, by omega, rfl, fun j u hu => by simp at hu, HR.out, HR1.out⟩
    case round =>
      obtain ⟨k, j, pp, aa, ahd, l, a9, m9, cap9, rfl, rfl, hkj, HI⟩ := hrel
      clear HR HR1
      cases j with
      | zero =>
        have h1 : ¬ ((k : Int) < (n : Int)) := by omega
        obtain ⟨_, _, hrf, hrd, hbl⟩ := HI.out
        rw [Sp.rdF] at hrf
        injection hrf with e1 e2
        injection e1 with e3 e4
        subst e4
        subst e2
        have HF : Hid (Rdr wr b a xs cap aa pp ∧ But b w wr) := ⟨hrd, hbl⟩
        clear hrd hbl HI
        go_wp2_with fail
        go_end0
        exact ⟨rfl, HF.out⟩
      | succ j =>
        have h1 : (k : Int) < (n : Int) := by omega
        obtain ⟨hm9, hrb, hrf, hrd, hbl⟩ := HI.out
        rw [Sp.rdF] at hrf
        cases hn : Sp.rdN xs aa start with
        | bad q e => rw [hn] at hrf; simp at hrf
        | ok nm a0 =>
          rw [hn] at hrf
          simp only at hrf
          by_cases hc : Sp.cmpS (Sp.txt nm) (Sp.txt ahd) ≤ 0
          · rw [if_pos hc] at hrf; simp at hrf
          · rw [if_neg hc] at hrf
            cases hv : Sp.rdV xs f a0 pp with
            | bad q e => rw [hv] at hrf; simp at hrf
            | ok tp av =>
              obtain ⟨t, p1⟩ := tp
              rw [hv] at hrf
              simp only at hrf
              cases hq : Sp.rdF xs start (Sp.rdV xs f) j nm av p1 with
              | bad q e => rw [hq] at hrf; simp at hrf
              | ok lp a3 =>
                obtain ⟨l3, p3⟩ := lp
                rw [hq] at hrf
                simp only at hrf
                injection hrf with e1 e2
                injection e1 with e3 e4
                subst e4
                subst e2
                obtain ⟨nn, an, hrn, hn32, hle, rfl, rfl, hnm⟩ := rdN_ok hn
                have HNM : Hid (Calls Try.prog 122 #[.pointer (some ⟨b, 0, none⟩), .int .i64 (start : Int)] wr fun e w' => ∃ a' cap', e = .returned (.slice a' nn cap') ∧ RdB w' (Lo b) a' ((xs.drop an).take nn) ∧ Rdr w' b a xs cap (an + nn) pp ∧ But b wr w') := rname_ok nn an start b a xs cap aa pp wr hrd HCH.out.2 hrn hn32 hle hnm
                have HLN : Hid (nn = ((xs.drop an).take nn).length) := by show _ = _; rw [List.length_take, List.length_drop]; omega
                have HVV : Hid (Sp.rdV xs f (an + nn) pp = .ok (t, p1) av) := hv
                have HQ : Hid (Sp.rdF xs start (Sp.rdV xs f) j ((xs.drop an).take nn) av p1 = .ok (l3, p3) a3) := hq
                have HCM : Hid (¬ Sp.cmpS (Sp.txt ((xs.drop an).take nn)) (Sp.txt ahd) ≤ 0) := hc
                have HBL : Hid (But b w wr) := hbl
                have HM9 : Hid (m9 = ahd.length ∧ RdB wr (Lo b) a9 ahd) := ⟨hm9, hrb⟩
                clear hm9 hrb hrd hbl HI hn hc hv hq hrn hnm hle
                go_wp2_with fail
                refine HNM.out.mono ?_
                rintro e w2 ⟨a7, cap7, rfl, hrd2, hr2, hb2⟩
                have HR2 : Hid (RdB w2 (Lo b) a7 ((xs.drop an).take nn) ∧ Rdr w2 b a xs cap (an + nn) pp ∧ But b wr w2) := ⟨hrd2, hr2, hb2⟩
                have HCP : Hid (Calls Try.prog 76 #[.slice a7 nn cap7, .slice a9 m9 cap9] w2 fun e w' => e = .returned (.int .i64 (Sp.cmpS (Sp.txt ((xs.drop an).take nn)) (Sp.txt ahd))) ∧ w2 = w') := bytesCmp_rd _ ahd a7 a9 cap7 cap9 nn m9 HLN.out HM9.out.1 (Lo b) w2 hrd2 (HM9.out.2.same hb2.same (fun _ h => h))
                clear hrd2 hr2 hb2 HNM
                generalize Sp.cmpS (Sp.txt ((xs.drop an).take nn)) (Sp.txt ahd) = cm at HCP HCM
                have hcm : ¬ cm ≤ 0 := by have := HCM.out; omega
                clear HCM
                go_wp2_with fail
                refine HCP.out.mono ?_
                rintro e w3 ⟨rfl, rfl⟩
                clear HCP
                go_wp2_with fail
                refine (HCH.out.1 b a cap (an + nn) pp t p1 av w2 _ (by omega) HR2.out.2.1 HVV.out).mono ?_
                rintro e w4 ⟨rfl, hr4, hb4⟩
                have HR4 : Hid (Rdr w4 b a xs cap av p1 ∧ But b w2 w4) := ⟨hr4, hb4⟩
                clear hr4 hb4
                go_wp2_with fail
                go_roundw
                case rel => exact ⟨k + 1, j, p1, av, (xs.drop an).take nn, l3, a7, nn, cap7, rfl, by go_num, by omega, HLN.out, HR2.out.1.same HR4.out.2.same (fun _ h => h), HQ.out, HR4.out.1, HBL.out.trans (HR2.out.2.2.trans HR4.out.2)⟩
                case measure => simp [intOf]; omega
end Go.Proofs.Ytkomcebknllaiaa
