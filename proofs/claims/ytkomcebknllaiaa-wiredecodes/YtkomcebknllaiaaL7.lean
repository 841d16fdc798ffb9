/- The reader's unfolded, bits and text; making a value of bytes that were looked at: the kinds without parts. -/
import Derived.Test.YtkomcebknllaiaaL3
import Derived.Test.YtkomcebknllaiaaL6
namespace Go.Proofs.Ytkomcebknllaiaa
open Go.RowKit

theorem frombits_run (n : Nat) (w : World) : (callFunc 102 #[.int .u64 (n : Int)]).run Try.prog w = .ok (.value (.float .f64 n)) w := by
  rw [run_callFunc_extern Try.func102 (by kernel_rfl) (by kernel_rfl) (by kernel_rfl) (e := Extern.MathFloatBits.float64frombits) (by kernel_rfl)]
  rfl

set_option maxRecDepth 100000 in
set_option maxHeartbeats 400000 in
theorem unfolded_any (n : Nat) (w : World) (h : n < 18446744073709551616) : Calls Try.prog 100 #[.int .u64 (n : Int)] w fun e w' => e = .returned (.int .i64 (Sp.unfold' n)) ∧ w = w' := by
  have hand : bits .and .u64 (n : Int) 1 = ((n % 2 : Nat) : Int) := by
    have := bits_and_u64_nat n 1 h (by decide)
    rw [Nat.and_one_is_mod] at this
    exact this
  by_cases hn : n % 2 = 1
  · have hb : ((bits .and .u64 (n : Int) 1) == 1) = true := by rw [hand, hn]; rfl
    clear hand
    go_enter Try.func100, Try.ntmps100
    go_wp2_with fail
    go_ret
    refine ⟨?_, rfl⟩
    have e : wrap64 (bits .xor .u64 IntKind.u64.max ((n : Int) / 2)) = Sp.unfold' n := by
      rw [xor_ones _ (by omega) (by omega)]
      unfold Sp.unfold'
      rw [if_pos hn]
      simp only [wrap64]
      omega
    exact ret_int e
  · have hb : ((bits .and .u64 (n : Int) 1) == 1) = false := by rw [hand, show n % 2 = 0 by omega]; rfl
    clear hand
    go_enter Try.func100, Try.ntmps100
    go_wp2_with fail
    go_ret
    refine ⟨?_, rfl⟩
    have e : (n : Int) / 2 = Sp.unfold' n := by
      unfold Sp.unfold'
      rw [if_neg hn]
      omega
    exact ret_int e

theorem By.part {xs : List Int} (h : By xs) (a n : Nat) : By ((xs.drop a).take n) := fun x hx => h x (List.mem_of_mem_drop (List.mem_of_mem_take hx))
theorem part_len {xs : List Int} {a n : Nat} (h : a + n ≤ xs.length) : ((xs.drop a).take n).length = n := by rw [List.length_take, List.length_drop]; omega

set_option maxRecDepth 100000 in
set_option maxHeartbeats 1000000 in
theorem rtext_ok (n a2 : Nat) (b : Nat) (a : Option Addr) (xs : List Int) (cap at' p : Nat) (w : World) (h : Rdr w b a xs cap at' p) (hby : By xs) (hr : Sp.rn xs at' 10 0 0 = .ok n a2) (hl : a2 + n ≤ xs.length) :
    Calls Try.prog 104 #[.pointer (some ⟨b, 0, none⟩)] w fun e w' => ∃ a' cap', e = .returned (.slice a' n cap') ∧ RdB w' (Lo b) a' ((xs.drop a2).take n) ∧ Rdr w' b a xs cap (a2 + n) p ∧ But b w w' := by
  have HN : Hid (Calls Try.prog 101 #[.pointer (some ⟨b, 0, none⟩)] w fun e w' => e = .returned (.int .u64 (n : Int)) ∧ Rdr w' b a xs cap a2 p ∧ But b w w') := rnumber_ok n a2 b a xs cap at' p w h hby hr
  have HL : Hid (a2 + n ≤ xs.length) := hl
  have hln := h.ln
  have hwn : IntKind.i64.wrap (n : Int) = (n : Int) := Go.wrap_small _ (by omega) (by omega)
  clear h hr hby hl
  go_enter Try.func104, Try.ntmps104
  go_wp2_with fail
  refine HN.out.mono ?_
  rintro e w1 ⟨rfl, hr1, hb1⟩
  have HR1 : Hid (Rdr w1 b a xs cap a2 p ∧ But b w w1) := ⟨hr1, hb1⟩
  clear hr1 hb1 HN
  go_wp2_with fail
  refine (take_ok n b a xs cap a2 p w1 HR1.out.1 HL.out).mono ?_
  rintro e w2 ⟨a7, cap7, rfl, hrd2, hr2, hb2⟩
  have HR2 : Hid (RdB w2 (Lo b) a7 ((xs.drop a2).take n) ∧ Rdr w2 b a xs cap (a2 + n) p ∧ But b w1 w2) := ⟨hrd2, hr2, hb2⟩
  clear hrd2 hr2 hb2
  go_wp2_with fail
  go_ret
  exact ⟨a7, cap7, rfl, HR2.out.1, HR2.out.2.1, HR1.out.2.trans HR2.out.2.2⟩

/-- eight bytes as one number, as far as they came -/
def Sp.cat (l : List Int) : Nat := l.foldl (fun n x => n * 256 + x.toNat) 0
theorem cat_snoc (l : List Int) (x : Int) : Sp.cat (l ++ [x]) = Sp.cat l * 256 + x.toNat := by simp [Sp.cat]
theorem cat_go : ∀ (l : List Int) (acc m : Nat), By l → acc < m → l.foldl (fun n x => n * 256 + x.toNat) acc < m * 256 ^ l.length
  | [], acc, m, _, h => by simpa using h
  | x :: l, acc, m, hb, h => by
    have h2 := hb x (by simp)
    have := cat_go l (acc * 256 + x.toNat) (m * 256) (fun y hy => hb y (by simp [hy])) (by omega)
    simp only [List.foldl_cons, List.length_cons]
    rw [Nat.pow_succ, Nat.mul_comm (256 ^ _) 256, ← Nat.mul_assoc]
    exact this
theorem cat_lt (l : List Int) (h : By l) : Sp.cat l < 256 ^ l.length := by
  have := cat_go l 0 1 h (by omega)
  simpa [Sp.cat] using this
theorem or_byte (n x : Nat) (hn : n < 72057594037927936) (hx : x < 256) : bits .or .u64 ((n * 256 : Nat) : Int) (x : Int) = ((n * 256 + x : Nat) : Int) := by
  rw [bits_or_u64_nat (n * 256) x (by omega) (by omega)]
  congr 1
  have := Nat.shiftLeft_add_eq_or_of_lt (i := 8) (b := x) (by omega) n
  rw [Nat.shiftLeft_eq] at this
  exact this.symm
theorem take_succ_get {l : List Int} {k : Nat} {u : Int} (h : l[k]? = some u) : l.take (k + 1) = l.take k ++ [u] := by
  rw [List.take_add_one, h]; rfl

set_option maxRecDepth 100000 in
set_option maxHeartbeats 1000000 in
theorem rbits_ok (b : Nat) (a : Option Addr) (xs : List Int) (cap at' p : Nat) (w : World) (h : Rdr w b a xs cap at' p) (hby : By xs) (hl : at' + 8 ≤ xs.length) :
    Calls Try.prog 103 #[.pointer (some ⟨b, 0, none⟩)] w fun e w' => e = .returned (.int .u64 (Sp.cat ((xs.drop at').take 8) : Nat)) ∧ Rdr w' b a xs cap (at' + 8) p ∧ But b w w' := by
  have HT : Hid (Calls Try.prog 119 #[.pointer (some ⟨b, 0, none⟩), .int .i64 8] w fun e w' => ∃ a' cap', e = .returned (.slice a' 8 cap') ∧ RdB w' (Lo b) a' ((xs.drop at').take 8) ∧ Rdr w' b a xs cap (at' + 8) p ∧ But b w w') := take_ok 8 b a xs cap at' p w h hl
  obtain ⟨l, hll⟩ : ∃ l, l = (xs.drop at').take 8 := ⟨_, rfl⟩
  have HB : Hid (By l ∧ l.length = 8) := by show _ ∧ _; rw [hll]; exact ⟨hby.part _ _, part_len hl⟩
  rw [← hll] at HT ⊢
  clear h hby hl hll
  go_enter Try.func103, Try.ntmps103
  go_wp2_with fail
  refine HT.out.mono ?_
  rintro e w1 ⟨a7, cap7, rfl, hrd, hr1, hb1⟩
  have HR1 : Hid (RdB w1 (Lo b) a7 l ∧ Rdr w1 b a xs cap (at' + 8) p ∧ But b w w1) := ⟨hrd, hr1, hb1⟩
  clear hrd hr1 hb1 HT
  go_wp2_with fail
  go_loopw [3, 9] (fun u x wr => ∃ (k n : Nat), u = .int .u64 (n : Int) ∧ x = .int .i64 (k : Int) ∧ k ≤ 8 ∧ Hid (n = Sp.cat (l.take k) ∧ wr = w1)) (fun _ x _ => 8 - (intOf x).toNat)
  case atStart => exact ⟨0, 0, rfl, rfl, by omega, rfl, rfl⟩
  case round =>
    obtain ⟨k, n, rfl, rfl, hk, HI⟩ := hrel
    obtain ⟨hn, rfl⟩ := HI.out
    clear HI
    by_cases hk8 : k = 8
    · have h1 : ¬ ((k : Int) < 8) := by omega
      have HN : Hid (n = Sp.cat l) := by show _ = _; rw [hn, List.take_of_length_le (by rw [HB.out.2]; omega)]
      clear hn
      go_wp2_with fail
      go_ret
      exact ⟨by rw [HN.out]; rfl, HR1.out.2⟩
    · have h1 : (k : Int) < 8 := by omega
      have hkl : k < l.length := by rw [HB.out.2]; omega
      have hu := List.getElem?_eq_getElem hkl
      have hbu := HB.out.1.get hu
      have hlt := cat_lt (l.take k) (fun y hy => HB.out.1 y (List.mem_of_mem_take hy))
      rw [List.length_take, Nat.min_eq_left (by omega), ← hn] at hlt
      have hlt7 : n < 72057594037927936 := Nat.lt_of_lt_of_le hlt (Nat.pow_le_pow_right (n := 256) (by decide) (show k ≤ 7 by omega))
      have HNX : Hid (n * 256 + (l[k]).toNat = Sp.cat (l.take (k + 1))) := by show _ = _; rw [take_succ_get hu, cat_snoc, hn]
      obtain ⟨g, o, rfl, _, hc⟩ := HR1.out.1 k _ hu
      have hor := or_byte n (l[k]).toNat hlt7 (by omega)
      generalize l[k] = u at *
      have HOR : Hid (bits BinOp.or IntKind.u64 ((n : Int) * 256) u = ((n * 256 + u.toNat : Nat) : Int)) := by
        show _ = _
        have : ((u.toNat : Nat) : Int) = u := by omega
        rw [this] at hor
        exact_mod_cast hor
      clear hlt hn hor hu
      go_wp2_with fail
      go_roundw
      case rel => exact ⟨k + 1, n * 256 + u.toNat, by rw [HOR.out], by go_num, by omega, HNX.out, trivial⟩
      case measure => simp [intOf]; omega
end Go.Proofs.Ytkomcebknllaiaa

/- Making a value of bytes that were looked at: the kinds without parts. -/
namespace Go.Proofs.Ytkomcebknllaiaa
open Go.RowKit

theorem byte_txt {l : List Int} {j : Nat} (hj : j < l.length) (hb : By l) : Sp.byte (Sp.txt l) j = l[j] := by
  have h := hb.get (List.getElem?_eq_getElem hj)
  simp [Sp.byte, Sp.txt, strOfNums, Array.getD, hj]
  omega
theorem bytesAt_rd {w : World} {B : Nat → Prop} {a : Option Addr} {l : List Int} (h : RdB w B a l) (hb : By l) : BytesAt w B a (Sp.txt l) := fun j hj => by
  have hj' : j < l.length := by rw [txt_size] at hj; exact hj
  obtain ⟨g, o, e, hg, hc⟩ := h j l[j] (List.getElem?_eq_getElem hj')
  exact ⟨g, o, e, hg, by rw [hc, byte_txt hj' hb]⟩
theorem eq1_run (c : Int) (W : World) : Sem.run Try.prog (binOp BinOp.eql 5 (.int .u8 c) (.int .u8 1)) W = .ok (.bool (c == 1)) W := by
  simp [go_sem]

section
variable (b : Nat) (a : Option Addr) (xs : List Int) (cap at' p : Nat) (w : World) (h : Rdr w b a xs cap at' p)
include h
set_option maxRecDepth 100000 in
set_option maxHeartbeats 2000000 in
theorem made_1 (hx : xs[at']? = some 1) : Calls Try.prog 54 #[.pointer (some ⟨b, 0, none⟩)] w fun e w' => e = .returned (.nilIface) ∧ Rdr w' b a xs cap (at' + 1) p ∧ But b w w' := by
  have HB : Hid (Calls Try.prog 99 #[.pointer (some ⟨b, 0, none⟩)] w fun e w' => e = .returned (.int .u8 1) ∧ Rdr w' b a xs cap (at' + 1) p ∧ But b w w') := rbyte_ok 1 b a xs cap at' p w h hx
  clear h hx
  go_enter Try.func54, Try.ntmps54
  go_wp2_with fail
  refine HB.out.mono ?_
  rintro e w1 ⟨rfl, hr1, hb1⟩
  have HR1 : Hid (Rdr w1 b a xs cap (at' + 1) p ∧ But b w w1) := ⟨hr1, hb1⟩
  clear hr1 hb1 HB
  go_wp2_with fail
  go_ret
  exact ⟨rfl, HR1.out⟩
set_option maxRecDepth 100000 in
set_option maxHeartbeats 2000000 in
theorem made_2 (hx : xs[at']? = some 2) (c : Int) (hc : xs[at' + 1]? = some c) : Calls Try.prog 54 #[.pointer (some ⟨b, 0, none⟩)] w fun e w' => e = .returned (.iface 4 (.bool (c == 1))) ∧ Rdr w' b a xs cap (at' + 2) p ∧ But b w w' := by
  have HX : Hid (xs[at' + 1]? = some c) := hc
  have HB : Hid (Calls Try.prog 99 #[.pointer (some ⟨b, 0, none⟩)] w fun e w' => e = .returned (.int .u8 2) ∧ Rdr w' b a xs cap (at' + 1) p ∧ But b w w') := rbyte_ok 2 b a xs cap at' p w h hx
  clear h hx hc
  go_enter Try.func54, Try.ntmps54
  go_wp2_with fail
  refine HB.out.mono ?_
  rintro e w1 ⟨rfl, hr1, hb1⟩
  have HR1 : Hid (Rdr w1 b a xs cap (at' + 1) p ∧ But b w w1) := ⟨hr1, hb1⟩
  clear hr1 hb1 HB
  go_wp2_with fail
  refine (rbyte_ok c b a xs cap (at' + 1) p w1 HR1.out.1 HX.out).mono ?_
  rintro e w2 ⟨rfl, hr2, hb2⟩
  have HR2 : Hid (Rdr w2 b a xs cap (at' + 2) p ∧ But b w1 w2) := ⟨hr2, hb2⟩
  clear hr2 hb2
  go_wp2_with fail
  go_ret
  exact ⟨rfl, HR2.out.1, HR1.out.2.trans HR2.out.2⟩
set_option maxRecDepth 100000 in
set_option maxHeartbeats 2000000 in
theorem made_3 (hx : xs[at']? = some 3) (hby : By xs) (n a2 : Nat) (hn : Sp.rn xs (at' + 1) 10 0 0 = .ok n a2) (hl : n < 18446744073709551616) : Calls Try.prog 54 #[.pointer (some ⟨b, 0, none⟩)] w fun e w' => e = .returned ((.iface 2 (.int .i64 (Sp.unfold' n)))) ∧ Rdr w' b a xs cap a2 p ∧ But b w w' := by
  have HX : Hid (By xs ∧ Sp.rn xs (at' + 1) 10 0 0 = .ok n a2 ∧ n < 18446744073709551616) := ⟨hby, hn, hl⟩
  have HB : Hid (Calls Try.prog 99 #[.pointer (some ⟨b, 0, none⟩)] w fun e w' => e = .returned (.int .u8 3) ∧ Rdr w' b a xs cap (at' + 1) p ∧ But b w w') := rbyte_ok 3 b a xs cap at' p w h hx
  clear h hx hby hn hl
  go_enter Try.func54, Try.ntmps54
  go_wp2_with fail
  refine HB.out.mono ?_
  rintro e w1 ⟨rfl, hr1, hb1⟩
  have HR1 : Hid (Rdr w1 b a xs cap (at' + 1) p ∧ But b w w1) := ⟨hr1, hb1⟩
  clear hr1 hb1 HB
  go_wp2_with fail
  refine (rnumber_ok n a2 b a xs cap (at' + 1) p w1 HR1.out.1 HX.out.1 HX.out.2.1).mono ?_
  rintro e w2 ⟨rfl, hr2, hb2⟩
  have HR2 : Hid (Rdr w2 b a xs cap a2 p ∧ But b w1 w2) := ⟨hr2, hb2⟩
  clear hr2 hb2
  go_wp2_with fail
  refine (unfolded_any n w2 HX.out.2.2).mono ?_
  rintro e w3 ⟨rfl, rfl⟩
  go_wp2_with fail
  go_ret
  exact ⟨rfl, HR2.out.1, HR1.out.2.trans HR2.out.2⟩
set_option maxRecDepth 100000 in
set_option maxHeartbeats 2000000 in
theorem made_7 (hx : xs[at']? = some 7) (hby : By xs) (n a2 : Nat) (hn : Sp.rn xs (at' + 1) 10 0 0 = .ok n a2) : Calls Try.prog 54 #[.pointer (some ⟨b, 0, none⟩)] w fun e w' => e = .returned ((.iface 25 (.int .u64 (n : Int)))) ∧ Rdr w' b a xs cap a2 p ∧ But b w w' := by
  have HX : Hid (By xs ∧ Sp.rn xs (at' + 1) 10 0 0 = .ok n a2) := ⟨hby, hn⟩
  have HB : Hid (Calls Try.prog 99 #[.pointer (some ⟨b, 0, none⟩)] w fun e w' => e = .returned (.int .u8 7) ∧ Rdr w' b a xs cap (at' + 1) p ∧ But b w w') := rbyte_ok 7 b a xs cap at' p w h hx
  clear h hx hby hn
  go_enter Try.func54, Try.ntmps54
  go_wp2_with fail
  refine HB.out.mono ?_
  rintro e w1 ⟨rfl, hr1, hb1⟩
  have HR1 : Hid (Rdr w1 b a xs cap (at' + 1) p ∧ But b w w1) := ⟨hr1, hb1⟩
  clear hr1 hb1 HB
  go_wp2_with fail
  refine (rnumber_ok n a2 b a xs cap (at' + 1) p w1 HR1.out.1 HX.out.1 HX.out.2).mono ?_
  rintro e w2 ⟨rfl, hr2, hb2⟩
  have HR2 : Hid (Rdr w2 b a xs cap a2 p ∧ But b w1 w2) := ⟨hr2, hb2⟩
  clear hr2 hb2
  go_wp2_with fail
  go_ret
  exact ⟨rfl, HR2.out.1, HR1.out.2.trans HR2.out.2⟩
set_option maxRecDepth 100000 in
set_option maxHeartbeats 2000000 in
theorem made_4 (hx : xs[at']? = some 4) (hby : By xs) (hl : at' + 1 + 8 ≤ xs.length) : Calls Try.prog 54 #[.pointer (some ⟨b, 0, none⟩)] w fun e w' => e = .returned ((.iface 22 (.float .f64 (Sp.cat ((xs.drop (at' + 1)).take 8))))) ∧ Rdr w' b a xs cap (at' + 1 + 8) p ∧ But b w w' := by
  have HX : Hid (By xs ∧ at' + 1 + 8 ≤ xs.length) := ⟨hby, hl⟩
  have HB : Hid (Calls Try.prog 99 #[.pointer (some ⟨b, 0, none⟩)] w fun e w' => e = .returned (.int .u8 4) ∧ Rdr w' b a xs cap (at' + 1) p ∧ But b w w') := rbyte_ok 4 b a xs cap at' p w h hx
  clear h hx hby hl
  go_enter Try.func54, Try.ntmps54
  go_wp2_with fail
  refine HB.out.mono ?_
  rintro e w1 ⟨rfl, hr1, hb1⟩
  have HR1 : Hid (Rdr w1 b a xs cap (at' + 1) p ∧ But b w w1) := ⟨hr1, hb1⟩
  clear hr1 hb1 HB
  go_wp2_with fail
  refine (rbits_ok b a xs cap (at' + 1) p w1 HR1.out.1 HX.out.1 HX.out.2).mono ?_
  rintro e w2 ⟨rfl, hr2, hb2⟩
  have HR2 : Hid (Rdr w2 b a xs cap (at' + 1 + 8) p ∧ But b w1 w2) := ⟨hr2, hb2⟩
  clear hr2 hb2
  have hfb := frombits_run (Sp.cat ((xs.drop (at' + 1)).take 8)) w2
  go_wp2_with fail
  go_ret
  exact ⟨rfl, HR2.out.1, HR1.out.2.trans HR2.out.2⟩
set_option maxRecDepth 100000 in
set_option maxHeartbeats 2000000 in
theorem made_5 (hx : xs[at']? = some 5) (hby : By xs) (n a2 : Nat) (hn : Sp.rn xs (at' + 1) 10 0 0 = .ok n a2) (hl : a2 + n ≤ xs.length) : Calls Try.prog 54 #[.pointer (some ⟨b, 0, none⟩)] w fun e w' => e = .returned ((.iface 9 (.string (Sp.txt ((xs.drop a2).take n))))) ∧ Rdr w' b a xs cap (a2 + n) p ∧ But b w w' := by
  have HX : Hid (By xs ∧ Sp.rn xs (at' + 1) 10 0 0 = .ok n a2 ∧ a2 + n ≤ xs.length) := ⟨hby, hn, hl⟩
  have HB : Hid (Calls Try.prog 99 #[.pointer (some ⟨b, 0, none⟩)] w fun e w' => e = .returned (.int .u8 5) ∧ Rdr w' b a xs cap (at' + 1) p ∧ But b w w') := rbyte_ok 5 b a xs cap at' p w h hx
  clear h hx hby hn hl
  go_enter Try.func54, Try.ntmps54
  go_wp2_with fail
  refine HB.out.mono ?_
  rintro e w1 ⟨rfl, hr1, hb1⟩
  have HR1 : Hid (Rdr w1 b a xs cap (at' + 1) p ∧ But b w w1) := ⟨hr1, hb1⟩
  clear hr1 hb1 HB
  go_wp2_with fail
  refine (rtext_ok n a2 b a xs cap (at' + 1) p w1 HR1.out.1 HX.out.1 HX.out.2.1 HX.out.2.2).mono ?_
  rintro e w2 ⟨a7, cap7, rfl, hrd2, hr2, hb2⟩
  have HR2 : Hid (RdB w2 (Lo b) a7 ((xs.drop a2).take n) ∧ Rdr w2 b a xs cap (a2 + n) p ∧ But b w1 w2) := ⟨hrd2, hr2, hb2⟩
  clear hrd2 hr2 hb2
  have hcv : (convert 23 9 (.slice a7 n cap7)).run Try.prog w2 = .ok (.string (Sp.txt ((xs.drop a2).take n))) w2 := by
    have := conv_rd _ a7 cap7 (Lo b) w2 HR2.out.1
    rw [part_len HX.out.2.2] at this; exact this
  go_wp2_with fail
  go_ret
  exact ⟨rfl, HR2.out.2.1, HR1.out.2.trans HR2.out.2.2⟩
set_option maxRecDepth 100000 in
set_option maxHeartbeats 2000000 in
theorem made_6 (hx : xs[at']? = some 6) (hby : By xs) (n a2 : Nat) (hn : Sp.rn xs (at' + 1) 10 0 0 = .ok n a2) (hl : a2 + n ≤ xs.length) (hm : n ≤ 65536) : Calls Try.prog 54 #[.pointer (some ⟨b, 0, none⟩)] w fun e w' => ∃ a' cap', e = .returned ((.iface 23 (.slice a' (Sp.txt ((xs.drop a2).take n)).size cap'))) ∧ Rdr w' b a xs cap (a2 + n) p ∧ But b w w' ∧ BytesLV w' (Fr w w') a' (Sp.txt ((xs.drop a2).take n)) cap' := by
  have HX : Hid (By xs ∧ Sp.rn xs (at' + 1) 10 0 0 = .ok n a2 ∧ a2 + n ≤ xs.length) := ⟨hby, hn, hl⟩
  have HB : Hid (Calls Try.prog 99 #[.pointer (some ⟨b, 0, none⟩)] w fun e w' => e = .returned (.int .u8 6) ∧ Rdr w' b a xs cap (at' + 1) p ∧ But b w w') := rbyte_ok 6 b a xs cap at' p w h hx
  clear h hx hby hn hl
  go_enter Try.func54, Try.ntmps54
  go_wp2_with fail
  refine HB.out.mono ?_
  rintro e w1 ⟨rfl, hr1, hb1⟩
  have HR1 : Hid (Rdr w1 b a xs cap (at' + 1) p ∧ But b w w1) := ⟨hr1, hb1⟩
  clear hr1 hb1 HB
  go_wp2_with fail
  refine (rtext_ok n a2 b a xs cap (at' + 1) p w1 HR1.out.1 HX.out.1 HX.out.2.1 HX.out.2.2).mono ?_
  rintro e w2 ⟨a7, cap7, rfl, hrd2, hr2, hb2⟩
  have HR2 : Hid (RdB w2 (Lo b) a7 ((xs.drop a2).take n) ∧ Rdr w2 b a xs cap (a2 + n) p ∧ But b w1 w2) := ⟨hrd2, hr2, hb2⟩
  clear hrd2 hr2 hb2
  have hsz : (Sp.txt ((xs.drop a2).take n)).size = n := by rw [txt_size, part_len HX.out.2.2]
  have HCL : Hid (Calls Try.prog 62 #[.slice a7 n cap7] w2 fun e w' => ∃ a' cap', e = .returned (.slice a' n cap') ∧ Below w2.heap.size w2 w' ∧ BytesLV w' (Fr w2 w') a' (Sp.txt ((xs.drop a2).take n)) cap') := by
    have := bClone_any (Sp.txt ((xs.drop a2).take n)) a7 cap7 (Lo b) w2 (fun k hk => Nat.lt_trans hk HR2.out.2.1.lt) (bytesAt_rd HR2.out.1 (HX.out.1.part _ _)) (by rw [hsz]; omega)
    rw [hsz] at this
    exact this
  have HSZ : Hid ((Sp.txt ((xs.drop a2).take n)).size = n) := hsz
  clear hsz
  go_wp2_with fail
  refine HCL.out.mono ?_
  rintro e w3 ⟨a8, cap8, rfl, hb3, hlv⟩
  have HR3 : Hid (Below w2.heap.size w2 w3 ∧ BytesLV w3 (Fr w2 w3) a8 (Sp.txt ((xs.drop a2).take n)) cap8) := ⟨hb3, hlv⟩
  clear hb3 hlv HCL
  go_wp2_with fail
  go_ret
  have hB := HR1.out.2.trans HR2.out.2.2
  exact ⟨a8, cap8, by rw [HSZ.out]; rfl, HR2.out.2.1.call HR3.out.1, hB.call HR3.out.1, HR3.out.2.same (Same.refl _ _) (fun k hk => ⟨Nat.le_trans hB.size hk.1, hk.2⟩)⟩
end
end Go.Proofs.Ytkomcebknllaiaa

/- A row that is being filled while the reader's block turns; making lists. -/
namespace Go.Proofs.Ytkomcebknllaiaa
open Go.RowKit

theorem Rdr.same {w w' : World} {b : Nat} {a : Option Addr} {xs : List Int} {cap at' p : Nat} (h : Rdr w b a xs cap at' p) (hs : Same (Lo (b + 1)) w w') : Rdr w' b a xs cap at' p := by
  have hb : w'.heap[b]? = w.heap[b]? := hs b (Nat.lt_succ_self b)
  have hf : ∀ i, w'.frozen? ⟨b, i, none⟩ = w.frozen? ⟨b, i, none⟩ := fun i => World.frozen?_of_block (w := w) hb
  have hc : ∀ i, w'.cell? ⟨b, i, none⟩ = w.cell? ⟨b, i, none⟩ := fun i => World.cell?_of_block (w := w) (a := ⟨b, i, none⟩) hb
  exact ⟨by rw [hc]; exact h.c0, by rw [hc]; exact h.c1, by rw [hc]; exact h.c2, by rw [hf]; exact h.f1, by rw [hf]; exact h.f2, h.rd.same (fun k hk => hs k (Nat.lt_succ_of_lt hk)) (fun _ h => h), h.cp, h.ln, h.le, h.np⟩
theorem Rdr.setN {w : World} {b : Nat} {a : Option Addr} {xs : List Int} {cap at' p g o : Nat} (h : Rdr w b a xs cap at' p) (hg : b < g) (vs : List Value) : Rdr (setN w g o vs) b a xs cap at' p :=
  h.same (fun k hk => setN_other (by have : k < b + 1 := hk; omega) vs w o)
theorem But.alloc {b : Nat} {w w' : World} (h : But b w w') (o : Obj) : But b w (w'.alloc o) := h.call ((Below.refl _ _).alloc (Nat.le_refl _) _)
theorem But.setN {b g o : Nat} {w w' : World} (h : But b w w') (hg : w.heap.size ≤ g) (vs : List Value) : But b w (setN w' g o vs) := by
  have e : Below g w' (Go.Proofs.Ytkomcebknllaiaa.setN w' g o vs) := setN_below (Nat.le_refl _) vs w' w' o (Below.refl _ _)
  exact ⟨h.lt, e.os.trans h.os, e.tape.trans h.tape, e.output.trans h.output, Nat.le_trans h.size e.size, fun k hk hn => by rw [setN_other (by omega)]; exact h.block k hk hn⟩

/-- block g, new since w, has n cells that can be written; the first of them hold xs; but for the reader's block b nothing has turned -/
structure RWB (b : Nat) (e : TypeId) (w wr : World) (g n : Nat) (xs : List Value) : Prop where
  own : ∀ i, i < n → (∃ u, wr.cell? ⟨g, i, none⟩ = some u) ∧ wr.frozen? ⟨g, i, none⟩ = false
  got : ∀ i x, xs[i]? = some x → wr.cell? ⟨g, i, none⟩ = some x
  len : xs.length ≤ n
  lt : w.heap.size ≤ g ∧ g < wr.heap.size
  bel : But b w wr
  row : ∃ cur, wr.heap[g]? = some (.cells cur e (0, 0)) ∧ cur.size = n
theorem RWB.made {b : Nat} {w w0 : World} (h : But b w w0) (cs : Array Value) (e : TypeId) : RWB b e w (w0.alloc (.cells cs e)) w0.heap.size cs.size [] := by
  refine ⟨fun i hi => ?_, fun i x hx => by simp at hx, by simp, ⟨h.size, by simp⟩, h.alloc _, cs, heap_alloc_new w0 _, rfl⟩
  have hn := heap_alloc_new w0 (.cells cs e)
  refine ⟨⟨cs[i], ?_⟩, frozen_of_row _ _ i _ _ hn⟩
  rw [cell_of_row _ _ i _ _ _ hn]; simp [hi]
theorem RWB.call {b : Nat} {e : TypeId} {w wr w1 : World} {g n : Nat} {xs : List Value} (h : RWB b e w wr g n xs) (hb : But b wr w1) : RWB b e w w1 g n xs := by
  have hl := h.lt
  have hz := hb.size
  have hlt := h.bel.lt
  have hg : w1.heap[g]? = wr.heap[g]? := hb.block g hl.2 (by omega)
  have hc : ∀ i, w1.cell? ⟨g, i, none⟩ = wr.cell? ⟨g, i, none⟩ := fun i => World.cell?_of_block (w := wr) (a := ⟨g, i, none⟩) hg
  have hf : ∀ i, w1.frozen? ⟨g, i, none⟩ = wr.frozen? ⟨g, i, none⟩ := fun i => World.frozen?_of_block (w := wr) hg
  exact ⟨fun i hi => by rw [hc, hf]; exact h.own i hi, fun i x hx => by rw [hc]; exact h.got i x hx, h.len, ⟨hl.1, by omega⟩, h.bel.trans hb, by rw [hg]; exact h.row⟩
theorem RWB.set {b : Nat} {e : TypeId} {w wr : World} {g n : Nat} {xs : List Value} (h : RWB b e w wr g n xs) (vs : List Value) (hl : xs.length + vs.length ≤ n) : RWB b e w (Go.Proofs.Ytkomcebknllaiaa.setN wr g xs.length vs) g n (xs ++ vs) := by
  have hlt := h.lt
  refine ⟨fun i hi => ⟨?_, by rw [setN_frozen]; exact (h.own i hi).2⟩, fun i x hx => ?_, by simp; omega, ⟨hlt.1, by rw [setN_size]; exact hlt.2⟩, h.bel.setN hlt.1 vs, setN_row _ _ _ h.row⟩
  · by_cases hin : i < xs.length ∨ xs.length + vs.length ≤ i
    · rw [setN_out vs _ _ hin]; exact (h.own i hi).1
    · obtain ⟨k, rfl⟩ : ∃ k, i = xs.length + k := ⟨i - xs.length, by omega⟩
      have hk : k < vs.length := by omega
      exact ⟨vs[k], setN_in vs _ _ k _ (List.getElem?_eq_getElem hk) (h.own _ hi).1⟩
  · by_cases hin : i < xs.length
    · rw [List.getElem?_append_left hin] at hx
      rw [setN_out vs _ _ (.inl hin)]; exact h.got i x hx
    · obtain ⟨k, rfl⟩ : ∃ k, i = xs.length + k := ⟨i - xs.length, by omega⟩
      rw [List.getElem?_append_right (by omega), Nat.add_sub_cancel_left] at hx
      have hk : k < vs.length := (List.getElem?_eq_some_iff.1 hx).1
      exact setN_in vs _ _ k x hx (h.own _ (by omega)).1
/-- but for the blocks b and g nothing has turned -/
structure Bu2 (b g : Nat) (w w' : World) : Prop where
  size : w.heap.size ≤ w'.heap.size
  block : ∀ k, k < w.heap.size → k ≠ b → k ≠ g → w'.heap[k]? = w.heap[k]?
theorem Bu2.of {b g : Nat} {w w' : World} (h : But b w w') : Bu2 b g w w' := ⟨h.size, fun k hk hb _ => h.block k hk hb⟩
theorem Bu2.set {b g o : Nat} {w w' : World} (h : Bu2 b g w w') (vs : List Value) : Bu2 b g w (setN w' g o vs) := ⟨by rw [setN_size]; exact h.size, fun k hk hb hg => by rw [setN_other hg]; exact h.block k hk hb hg⟩
theorem Bu2.trans {b g : Nat} {w w1 w2 : World} (h : Bu2 b g w w1) (k : Bu2 b g w1 w2) : Bu2 b g w w2 := ⟨Nat.le_trans h.size k.size, fun i hi hb hg => (k.block i (Nat.lt_of_lt_of_le hi h.size) hb hg).trans (h.block i hi hb hg)⟩
theorem Bu2.kept {b g B : Nat} {w w' : World} (h : Bu2 b g w w') (hB : b < B) : Same (Own B w g) w w' := fun k hk => h.block k hk.2.1 (by have := hk.1; omega) hk.2.2
theorem Bu2.up {b g B : Nat} {w w' : World} (h : Bu2 b g w w') : ∀ k, Own B w g k → Own B w' g k := fun _ hk => ⟨hk.1, Nat.lt_of_lt_of_le hk.2.1 h.size, hk.2.2⟩
theorem VPre.finB {b : Nat} {w wr : World} {g : Nat} {L : TmL} {xs : List Value} (h : VPre wr (Own w.heap.size wr g) L xs .nil) (r : RWB b 20 w wr g L.len xs) (hm : L.len ≤ maxLen) : L.LV wr (Fr w wr) (some ⟨g, 0, none⟩) L.len :=
  ⟨Ln.row (by simpa using r.row) hm r.lt, VPre.done (fun k hk => ⟨hk.1, hk.2.1⟩) g r.lt L xs 0 h (fun i x hx => by rw [Nat.zero_add]; exact r.got i x hx)⟩
theorem FPre.finB {b : Nat} {w wr : World} {g : Nat} {L : TmF} {xs : List Value} (h : FPre wr (Own w.heap.size wr g) L xs .nil) (r : RWB b 112 w wr g (L.len * 2) xs) (hm : L.len ≤ maxLen) : L.LV wr (Fr w wr) (some ⟨g, 0, none⟩) L.len :=
  ⟨Ln.row r.row hm r.lt, FPre.done (fun k hk => ⟨hk.1, hk.2.1⟩) g r.lt L xs 0 h (fun i x hx => by rw [Nat.zero_mul, Nat.zero_add]; exact r.got i x hx)⟩

theorem rdL_len {step : Nat → Nat → Rs (Tm × Nat)} : ∀ (n at' p : Nat) (L : TmL) (p2 a2 : Nat), Sp.rdL step n at' p = .ok (L, p2) a2 → L.len = n
  | 0, at', p, L, p2, a2, h => by
    rw [Sp.rdL] at h
    injection h with e1 e2; injection e1 with e3 e4; subst e3; rfl
  | n + 1, at', p, L, p2, a2, h => by
    rw [Sp.rdL] at h
    split at h
    · simp at h
    · split at h
      · simp at h
      · rename_i _ _ _ _ _ _ _ _ hq
        injection h with e1 e2; injection e1 with e3 e4; subst e3
        rw [TmL.len, rdL_len n _ _ _ _ _ hq]
theorem rdL_cons {step : Nat → Nat → Rs (Tm × Nat)} {n at' p : Nat} {t : Tm} {l : TmL} {p2 a2 : Nat} (h : Sp.rdL step (n + 1) at' p = .ok (.cons t l, p2) a2) : ∃ p1 a1, step at' p = .ok (t, p1) a1 ∧ Sp.rdL step n a1 p1 = .ok (l, p2) a2 := by
  rw [Sp.rdL] at h
  cases hs : step at' p with
  | bad q e => rw [hs] at h; simp at h
  | ok tp a1 =>
    obtain ⟨t1, p1⟩ := tp
    rw [hs] at h
    simp only at h
    cases hq : Sp.rdL step n a1 p1 with
    | bad q e => rw [hq] at h; simp at h
    | ok lp a3 =>
      obtain ⟨l3, p3⟩ := lp
      rw [hq] at h
      injection h with e1 e2; injection e1 with e3 e4; injection e3 with e5 e6
      subst e2; subst e4; subst e5; subst e6
      exact ⟨p1, a1, rfl, hq⟩

/-- the contract of the reader's made, at bytes that were looked at -/
def MC (xs : List Int) (f : Nat) : Prop := ∀ (b : Nat) (a : Option Addr) (cap at' p p0 : Nat) (t : Tm) (p2 a2 : Nat) (w : World), Rdr w b a xs cap at' p → Sp.rdV xs f at' p0 = .ok (t, p2) a2 →
  Calls Try.prog 54 #[.pointer (some ⟨b, 0, none⟩)] w fun e w' => ∃ v, e = .returned v ∧ Rdr w' b a xs cap a2 p ∧ But b w w' ∧ t.V w' (Fr w w') v

set_option maxRecDepth 100000 in
set_option maxHeartbeats 2000000 in
theorem made_8 (b : Nat) (a : Option Addr) (xs : List Int) (cap at' p : Nat) (w : World) (h : Rdr w b a xs cap at' p) (hx : xs[at']? = some 8) (hby : By xs) (f : Nat) (HC : MC xs f) (n a1 p0 p2 a2 : Nat) (L : TmL) (hn : Sp.rn xs (at' + 1) 10 0 0 = .ok n a1) (hn4 : n ≤ 4096) (hr : Sp.rdL (Sp.rdV xs f) n a1 p0 = .ok (L, p2) a2) :
    Calls Try.prog 54 #[.pointer (some ⟨b, 0, none⟩)] w fun e w' => ∃ a' cap', e = .returned (.iface 71 (.slice a' L.len cap')) ∧ Rdr w' b a xs cap a2 p ∧ But b w w' ∧ L.LV w' (Fr w w') a' cap' := by
  obtain rfl := rdL_len n a1 p0 L p2 a2 hr
  obtain ⟨i0, hi, hz0, hz1, hz2⟩ := info_parts Try.infoI
  have HX : Hid (By xs ∧ Sp.rn xs (at' + 1) 10 0 0 = .ok L.len a1 ∧ MC xs f) := ⟨hby, hn, HC⟩
  have HRD : Hid (Sp.rdL (Sp.rdV xs f) L.len a1 p0 = .ok (L, p2) a2) := hr
  have HB : Hid (Calls Try.prog 99 #[.pointer (some ⟨b, 0, none⟩)] w fun e w' => e = .returned (.int .u8 8) ∧ Rdr w' b a xs cap (at' + 1) p ∧ But b w w') := rbyte_ok 8 b a xs cap at' p w h hx
  obtain ⟨M, hM⟩ : ∃ M, M = madeCells (Value.nilIface).cells (((L.len : Nat) : Int).toNat * i0.size) := ⟨_, rfl⟩
  have hMs : M.size = L.len := by rw [hM, size_madeCells, hz1]; simp
  have hmake : ∀ W : World, (Instr.makeSlice 71 (.int .u64 (L.len : Int)) (.int .u64 (L.len : Int))).run Try.prog W = .ok (.slice (some ⟨W.heap.size, 0, none⟩) L.len L.len) (W.alloc (.cells M 20)) := fun W => by
    have h := run_make (P := Try.prog) W 71 20 i0 .nilIface Try.undL hi hz0 .u64 .u64 (L.len : Int) (L.len : Int) (by omega) (by omega) (by rw [hz2]; omega) (by omega)
    rw [← hM] at h; simpa using h
  have HM : Hid (M.size = L.len) := hMs
  clear hM hi hz0 hz1 hz2 h hx hby hn hr HC hMs
  go_enter Try.func54, Try.ntmps54
  go_wp2_with fail
  refine HB.out.mono ?_
  rintro e w1 ⟨rfl, hr1, hb1⟩
  have HR1 : Hid (Rdr w1 b a xs cap (at' + 1) p ∧ But b w w1) := ⟨hr1, hb1⟩
  clear hr1 hb1 HB
  go_wp2_with fail
  refine (rnumber_ok L.len a1 b a xs cap (at' + 1) p w1 HR1.out.1 HX.out.1 HX.out.2.1).mono ?_
  rintro e w2 ⟨rfl, hr2, hb2⟩
  have H0 : Hid (RWB b 20 w (w2.alloc (.cells M 20)) w2.heap.size L.len [] ∧ VPre (w2.alloc (.cells M 20)) (Own w.heap.size (w2.alloc (.cells M 20)) w2.heap.size) L [] L ∧ Rdr (w2.alloc (.cells M 20)) b a xs cap a1 p) := by
    have hrw := RWB.made (HR1.out.2.trans hb2) M 20
    rw [HM.out] at hrw
    exact ⟨hrw, (VPre_nil _ _).2 rfl, hr2.call ((Below.refl _ _).alloc (Nat.le_refl _) _)⟩
  clear hr2 hb2 HR1
  go_wp2_with fail
  go_loopw [51] (fun x wr => ∃ (k aa pp : Nat) (l : TmL) (vs : List Value), x = .int .i64 k ∧ l.len + k = L.len ∧ vs.length = k ∧ Hid (RWB b 20 w wr w2.heap.size L.len vs ∧ VPre wr (Own w.heap.size wr w2.heap.size) L vs l ∧ Sp.rdL (Sp.rdV xs f) l.len aa pp = .ok (l, p2) a2 ∧ Rdr wr b a xs cap aa p)) (fun x _ => L.len - (intOf x).toNat)
  case atStart => exact ⟨0, a1, p0, L, [], rfl, rfl, rfl, H0.out.1, H0.out.2.1, HRD.out, H0.out.2.2⟩
  case round =>
    obtain ⟨k, aa, pp, l, vs, rfl, hl, hvs, HR⟩ := hrel
    clear HRD
    cases l with
    | nil =>
      have h1 : L.len ≤ k := by simp [TmL.len] at hl; omega
      obtain ⟨hrw, hpre, hrd, hrr⟩ := HR.out
      rw [TmL.len, Sp.rdL] at hrd
      injection hrd with e1 e2
      have HF : Hid (Rdr wr b a xs cap a2 p) := by rw [← e2]; exact hrr
      clear hl hrw hpre hrr e1 e2
      go_wp2_with fail
      go_ret
      exact ⟨_, _, rfl, HF.out, HR.out.1.bel, HR.out.2.1.finB HR.out.1 (by unfold maxLen; omega)⟩
    | cons t l =>
      obtain ⟨hrw, hpre, hrd, hrr⟩ := HR.out
      obtain ⟨p1, a3, hst, hrd'⟩ := rdL_cons hrd
      have hk1 : k < L.len := by simp only [TmL.len] at hl; omega
      have HL : Hid (l.len + (k + 1) = L.len) := by show _ = _; simp only [TmL.len] at hl; omega
      have HO : Hid (Calls Try.prog 54 #[.pointer (some ⟨b, 0, none⟩)] wr fun e w' => ∃ v, e = .returned v ∧ Rdr w' b a xs cap a3 p ∧ But b wr w' ∧ t.V w' (Fr wr w') v) := HX.out.2.2 b a cap aa p pp t p1 a3 wr hrr hst
      have HN : Hid (Sp.rdL (Sp.rdV xs f) l.len a3 p1 = .ok (l, p2) a2) := hrd'
      have HS : Hid (∀ w1, But b wr w1 → (∃ u, w1.cell? ⟨w2.heap.size, k, none⟩ = some u) ∧ w1.frozen? ⟨w2.heap.size, k, none⟩ = false) := fun w1 h => (hrw.call h).own k hk1
      have hi0 : (0 : Int) ≤ (k : Int) := Int.natCast_nonneg _
      have hi1 : (k : Int) < (L.len : Int) := by omega
      clear hl hrw hpre hrd hrr hst hrd'
      go_wp2_with fail
      refine HO.out.mono ?_
      rintro e w3 ⟨v, rfl, hr3, hb3, hv⟩
      have hsh := t.V_shape v hv
      obtain ⟨⟨u, hu⟩, hf⟩ := HS.out w3 hb3
      have HNew : Hid (RWB b 20 w (w3.setCell ⟨w2.heap.size, k, none⟩ v) w2.heap.size L.len (vs ++ [v]) ∧ VPre (w3.setCell ⟨w2.heap.size, k, none⟩ v) (Own w.heap.size (w3.setCell ⟨w2.heap.size, k, none⟩ v) w2.heap.size) L (vs ++ [v]) l ∧ Rdr (w3.setCell ⟨w2.heap.size, k, none⟩ v) b a xs cap a3 p) := by
        have hrw := HR.out.1
        have h1 := (hrw.call hb3).set [v] (by simp; omega)
        rw [hvs] at h1
        have hbu : Bu2 b w2.heap.size wr (setN w3 w2.heap.size k [v]) := (Bu2.of hb3).set [v]
        refine ⟨h1, VPre.snoc L vs t l v (VPre.same (hbu.kept hrw.bel.lt) hbu.up L vs _ HR.out.2.1) (t.V_same (fr_kept (w1 := w3) (o := k) hrw.lt.2 [v]) (fr_up (w1 := w3) (o := k) hrw.lt [v]) v hv), hr3.setN (by have := hrw.lt; have := hrw.bel.lt; omega) [v]⟩
      clear hb3 hv hr3
      rcases hsh with rfl | ⟨T, x, rfl⟩
      all_goals
        go_wp2_with fail
        go_roundw
        case rel => exact ⟨k + 1, a3, p1, l, _, by go_num, HL.out, by simp [hvs], HNew.out.1, HNew.out.2.1, HN.out, HNew.out.2.2⟩
        case measure => simp [intOf]; omega
end Go.Proofs.Ytkomcebknllaiaa

/- value.dictOf and value.valueOf, whole. -/
namespace Go.Proofs.Ytkomcebknllaiaa
open Go.RowKit

theorem Try.infoFd : (Try.prog.info? 112).map (fun i => (i.zero, i.size, i.bytes)) = some (some (.agg #[.string ByteArray.empty, .nilIface]), 2, 32) := by kernel_rfl

set_option maxRecDepth 100000 in
set_option maxHeartbeats 2000000 in
theorem dictOf_any (N : Nat) (HC : VOfC N) (al : Option Addr) (L : TmF) (cl : Nat) (w : World) (hN : L.sz ≤ N) (B : Nat → Prop) (hB : Sub B w) (hL : L.In w B al 0) (hlen : L.len ≤ 4096) (hnm : L.Nm) (ho : L.Ok) :
    Calls Try.prog 63 #[.slice al L.len cl] w fun e w' => ∃ a cap, e = .returned (.slice a L.len cap) ∧ Below w.heap.size w w' ∧ L.LV w' (Fr w w') a cap := by
  obtain ⟨i0, hi, hz0, hz1, hz2⟩ := info_parts Try.infoFd
  have HCH : Hid (VOfC N) := HC
  clear HC
  obtain ⟨M, hM⟩ : ∃ M, M = madeCells (Value.agg #[.string ByteArray.empty, .nilIface]).cells (((L.len : Nat) : Int).toNat * i0.size) := ⟨_, rfl⟩
  have hMs : M.size = L.len * 2 := by rw [hM, size_madeCells, hz1]; simp
  have hmake : ∀ W : World, (Instr.makeSlice 73 (.int .i64 (L.len : Int)) (.int .i64 (L.len : Int))).run Try.prog W = .ok (.slice (some ⟨W.heap.size, 0, none⟩) L.len L.len) (W.alloc (.cells M 112)) := fun W => by
    have h := run_make (P := Try.prog) W 73 112 i0 _ Try.undD hi hz0 .i64 .i64 (L.len : Int) (L.len : Int) (by omega) (by omega) (by rw [hz2]; omega) (by omega)
    rw [← hM] at h; simpa using h
  clear hM hi hz0 hz1 hz2
  have H0 : Hid (RW 112 w (w.alloc (.cells M 112)) w.heap.size (L.len * 2) [] ∧ FPre (w.alloc (.cells M 112)) (Own w.heap.size (w.alloc (.cells M 112)) w.heap.size) L [] L ∧ L.In w B al 0 ∧ L.Ok ∧ L.Nm) := by
    have h := RW.made (w := w) (w0 := w) (Below.refl _ _) M 112
    rw [hMs] at h
    exact ⟨h, (FPre_nil _ _).2 rfl, hL, ho, hnm⟩
  clear hL ho hnm
  go_enter Try.func63, Try.ntmps63
  go_wp2_with fail
  go_loopw [11] (fun x wr => ∃ (k : Nat) (l : TmF) (xs : List Value), x = .int .i64 k ∧ l.len + k = L.len ∧ l.sz ≤ N ∧ xs.length = k * 2 ∧ Hid (RW 112 w wr w.heap.size (L.len * 2) xs ∧ FPre wr (Own w.heap.size wr w.heap.size) L xs l ∧ l.In w B al k ∧ l.Ok ∧ l.Nm)) (fun x _ => L.len - (intOf x).toNat)
  case atStart => exact ⟨0, L, [], rfl, rfl, hN, rfl, H0.out⟩
  case round =>
    obtain ⟨k, l, xs, rfl, hl, hlN, hxs, HR⟩ := hrel
    cases l with
    | nil =>
      have h1 : L.len ≤ k := by simp [TmF.len] at hl; omega
      clear hl
      go_wp2_with fail
      go_ret
      exact ⟨_, _, rfl, HR.out.1.bel, HR.out.2.1.fin HR.out.1 (by unfold maxLen; omega)⟩
    | cons n t l =>
      obtain ⟨hrw, hpre, hsrc, hok, hnm⟩ := HR.out
      simp only [TmF.In] at hsrc
      obtain ⟨g1, o1, cs, rfl, hg1, hnc, _, hc, ht, hl'⟩ := hsrc
      have hk1 : k < L.len := by simp only [TmF.len] at hl; omega
      have HL : Hid (l.len + (k + 1) = L.len) := by show _ = _; simp only [TmF.len] at hl; omega
      have htN : t.sz ≤ N ∧ l.sz ≤ N := by simp [TmF.sz] at hlN; omega
      have hs : Same B w wr := hB.same hrw.bel
      have HO := HCH.out.at htN.1 (t.In_same hs (fun _ h => h) cs ht) (hB.later hrw.bel) hok.head.1
      have HO : Hid _ := HO
      obtain ⟨k1, b1, i1, f1, tx1, ab1, nb1, cb1, rf1, al1, nl1, cl1, af1, nf1, cf1, cc1, vr1, rfl⟩ := Tm.In_tc' ht
      obtain ⟨e0, e1, e2, e3, e4, e5, e6, e7, e8, e9, e10⟩ := eleven (w := wr) (g := g1) (o := o1 + k * 12 + 1) (fun x hx => by rw [hs.cell (p := ⟨g1, o1 + k * 12 + 1 + x, none⟩) hg1]; exact hc x hx)
      have en : wr.cell? ⟨g1, o1 + k * 12, none⟩ = some (.string n) := by rw [hs.cell (p := ⟨g1, o1 + k * 12, none⟩) hg1]; exact hnc
      have HN : Hid (l.In w B (some ⟨g1, o1, none⟩) (k + 1) ∧ l.Ok ∧ l.Nm) := ⟨hl', hok.head.2, hnm.head.2⟩
      have hn32 : n.size ≤ 140737488355328 := by have := hnm.head.1; omega
      unfold tcells at HO
      clear hl hlN hc ht hl' hok hs hrw hpre hnc hnm
      have HS : Hid (∀ w1, Below wr.heap.size wr w1 → ((∃ u, w1.cell? ⟨w.heap.size, k * 2, none⟩ = some u) ∧ w1.frozen? ⟨w.heap.size, k * 2, none⟩ = false) ∧ (∃ u, w1.cell? ⟨w.heap.size, k * 2 + 1, none⟩ = some u) ∧ w1.frozen? ⟨w.heap.size, k * 2 + 1, none⟩ = false) := fun w1 h => ⟨(HR.out.1.call h).own (k * 2) (by omega), (HR.out.1.call h).own (k * 2 + 1) (by omega)⟩
      have hi0 : (0 : Int) ≤ (k : Int) := Int.natCast_nonneg _
      have hi1 : (k : Int) < (L.len : Int) := by omega
      have HS12 : Hid (∀ W : World, W.heap[wr.heap.size]? = some (.cells #[.string n, .int .i64 k1, .bool b1, .int .i64 i1, .float .f64 f1, .string tx1, .slice ab1 nb1 cb1, .int .u64 rf1, .slice al1 nl1 cl1, .slice af1 nf1 cf1, .string cc1, .int .i64 vr1] 84 (0, 0)) → W.cell? ⟨wr.heap.size, 0, none⟩ = some (.string n) ∧ W.cell? ⟨wr.heap.size, 1, none⟩ = some (.int .i64 k1) ∧ W.cell? ⟨wr.heap.size, 2, none⟩ = some (.bool b1) ∧ W.cell? ⟨wr.heap.size, 3, none⟩ = some (.int .i64 i1) ∧ W.cell? ⟨wr.heap.size, 4, none⟩ = some (.float .f64 f1) ∧ W.cell? ⟨wr.heap.size, 5, none⟩ = some (.string tx1) ∧ W.cell? ⟨wr.heap.size, 6, none⟩ = some (.slice ab1 nb1 cb1) ∧ W.cell? ⟨wr.heap.size, 7, none⟩ = some (.int .u64 rf1) ∧ W.cell? ⟨wr.heap.size, 8, none⟩ = some (.slice al1 nl1 cl1) ∧ W.cell? ⟨wr.heap.size, 9, none⟩ = some (.slice af1 nf1 cf1) ∧ W.cell? ⟨wr.heap.size, 10, none⟩ = some (.string cc1) ∧ W.cell? ⟨wr.heap.size, 11, none⟩ = some (.int .i64 vr1)) := fun W h => by
        have hh := fun j => cell_of_row W wr.heap.size j _ _ _ h
        exact ⟨hh 0, hh 1, hh 2, hh 3, hh 4, hh 5, hh 6, hh 7, hh 8, hh 9, hh 10, hh 11⟩
      have HX : Hid (∀ W, Below (wr.alloc (.cells #[.string n, .int .i64 k1, .bool b1, .int .i64 i1, .float .f64 f1, .string tx1, .slice ab1 nb1 cb1, .int .u64 rf1, .slice al1 nl1 cl1, .slice af1 nf1 cf1, .string cc1, .int .i64 vr1] 84)).heap.size (wr.alloc (.cells #[.string n, .int .i64 k1, .bool b1, .int .i64 i1, .float .f64 f1, .string tx1, .slice ab1 nb1 cb1, .int .u64 rf1, .slice al1 nl1 cl1, .slice af1 nf1 cf1, .string cc1, .int .i64 vr1] 84)) W → W.heap[wr.heap.size]? = some (.cells #[.string n, .int .i64 k1, .bool b1, .int .i64 i1, .float .f64 f1, .string tx1, .slice ab1 nb1 cb1, .int .u64 rf1, .slice al1 nl1 cl1, .slice af1 nf1 cf1, .string cc1, .int .i64 vr1] 84 (0, 0)) ∧ Below wr.heap.size wr W) := fun W h => ⟨by rw [h.block wr.heap.size (by simp)]; exact heap_alloc_new wr _, ((Below.refl _ _).alloc (Nat.le_refl _) _).trans (h.mono (by simp))⟩
      have hwlt : w.heap.size < wr.heap.size := HR.out.1.lt.2
      have HNew : Hid (∀ w2 v, Below wr.heap.size wr w2 → t.V w2 (Fr wr w2) v → RW 112 w (setN w2 w.heap.size (k * 2) [.string n, v]) w.heap.size (L.len * 2) (xs ++ [.string n, v]) ∧ FPre (setN w2 w.heap.size (k * 2) [.string n, v]) (Own w.heap.size (setN w2 w.heap.size (k * 2) [.string n, v]) w.heap.size) L (xs ++ [.string n, v]) l) := fun w2 v hb hv => by
        have h1 := (HR.out.1.call hb).set [.string n, v] (by simp; omega)
        rw [hxs] at h1
        exact ⟨h1, FPre.step (o := k * 2) HR.out.2.1 (by unfold maxLen; omega) hb hv HR.out.1.lt _⟩
      by_cases hkd : t.kind = 1
      · go_wp2_with fail
        go_region_held3 (fun W => W.cell? ⟨wr.heap.size, 0, none⟩ = some (.string n) ∧ W.cell? ⟨wr.heap.size, 1, none⟩ = some (.int .i64 k1) ∧ W.cell? ⟨wr.heap.size, 2, none⟩ = some (.bool b1) ∧ W.cell? ⟨wr.heap.size, 3, none⟩ = some (.int .i64 i1) ∧ W.cell? ⟨wr.heap.size, 4, none⟩ = some (.float .f64 f1) ∧ W.cell? ⟨wr.heap.size, 5, none⟩ = some (.string tx1) ∧ W.cell? ⟨wr.heap.size, 6, none⟩ = some (.slice ab1 nb1 cb1) ∧ W.cell? ⟨wr.heap.size, 7, none⟩ = some (.int .u64 rf1) ∧ W.cell? ⟨wr.heap.size, 8, none⟩ = some (.slice al1 nl1 cl1) ∧ W.cell? ⟨wr.heap.size, 9, none⟩ = some (.slice af1 nf1 cf1) ∧ W.cell? ⟨wr.heap.size, 10, none⟩ = some (.string cc1) ∧ W.cell? ⟨wr.heap.size, 11, none⟩ = some (.int .i64 vr1))
          (first | exact HS12.out _ (HX.out _ (Below.refl _ _)).1 | exact HS12.out _ (HX.out _ (Below.refl _ _).drew).1 | exact HS12.out _ (HX.out _ HB1.out).1 | exact HS12.out _ (HX.out _ HB2.out).1 | exact HS12.out _ (by rw [heap_setCell_other _ _ _ _ (by show wr.heap.size ≠ w.heap.size; omega), heap_setCell_other _ _ _ _ (by show wr.heap.size ≠ w.heap.size; omega)]; exact (HX.out _ HB2.out).1))
          ((first
            | (go_at_call 61; refine (sClone_any n _ hn32).mono ?_; rintro e w1 ⟨rfl, hb1⟩; have HB1 : Hid (Below (wr.alloc (.cells #[.string n, .int .i64 k1, .bool b1, .int .i64 i1, .float .f64 f1, .string tx1, .slice ab1 nb1 cb1, .int .u64 rf1, .slice al1 nl1 cl1, .slice af1 nf1 cf1, .string cc1, .int .i64 vr1] 84)).heap.size (wr.alloc (.cells #[.string n, .int .i64 k1, .bool b1, .int .i64 i1, .float .f64 f1, .string tx1, .slice ab1 nb1 cb1, .int .u64 rf1, .slice al1 nl1 cl1, .slice af1 nf1 cf1, .string cc1, .int .i64 vr1] 84)) w1) := below_to (Below.refl _ _).drew hb1; clear hb1)
            | (go_at_call 37; refine (HO.out _ ?_).mono ?_; exact (HX.out _ HB1.out).2; rintro e w2 ⟨v, rfl, hb2, hv, hsh⟩; have HV : Hid (t.V w2 (Fr wr w2) v) := t.V_same (Same.refl _ _) (fun k hk => ⟨Nat.le_trans (HX.out _ HB1.out).2.size hk.1, hk.2⟩) v hv; obtain rfl := Tm.V_nil hkd hv; have HB2 : Hid (Below (wr.alloc (.cells #[.string n, .int .i64 k1, .bool b1, .int .i64 i1, .float .f64 f1, .string tx1, .slice ab1 nb1 cb1, .int .u64 rf1, .slice al1 nl1 cl1, .slice af1 nf1 cf1, .string cc1, .int .i64 vr1] 84)).heap.size (wr.alloc (.cells #[.string n, .int .i64 k1, .bool b1, .int .i64 i1, .float .f64 f1, .string tx1, .slice ab1 nb1 cb1, .int .u64 rf1, .slice al1 nl1 cl1, .slice af1 nf1 cf1, .string cc1, .int .i64 vr1] 84)) w2) := below_to HB1.out hb2; obtain ⟨⟨⟨u0, hu0⟩, hf0⟩, ⟨u1, hu1⟩, hf1⟩ := HS.out w2 (HX.out _ HB2.out).2)))
        have HNw := HNew.out w2 _ (HX.out _ HB2.out).2 HV.out
        go_wp2_with fail
        go_roundw
        case rel => exact ⟨k + 1, l, _, by go_num, HL.out, htN.2, by simp [hxs]; omega, HNw.1, HNw.2, HN.out.1, HN.out.2.1, HN.out.2.2⟩
        case measure => simp [intOf]; omega
      · go_wp2_with fail
        go_region_held3 (fun W => W.cell? ⟨wr.heap.size, 0, none⟩ = some (.string n) ∧ W.cell? ⟨wr.heap.size, 1, none⟩ = some (.int .i64 k1) ∧ W.cell? ⟨wr.heap.size, 2, none⟩ = some (.bool b1) ∧ W.cell? ⟨wr.heap.size, 3, none⟩ = some (.int .i64 i1) ∧ W.cell? ⟨wr.heap.size, 4, none⟩ = some (.float .f64 f1) ∧ W.cell? ⟨wr.heap.size, 5, none⟩ = some (.string tx1) ∧ W.cell? ⟨wr.heap.size, 6, none⟩ = some (.slice ab1 nb1 cb1) ∧ W.cell? ⟨wr.heap.size, 7, none⟩ = some (.int .u64 rf1) ∧ W.cell? ⟨wr.heap.size, 8, none⟩ = some (.slice al1 nl1 cl1) ∧ W.cell? ⟨wr.heap.size, 9, none⟩ = some (.slice af1 nf1 cf1) ∧ W.cell? ⟨wr.heap.size, 10, none⟩ = some (.string cc1) ∧ W.cell? ⟨wr.heap.size, 11, none⟩ = some (.int .i64 vr1))
          (first | exact HS12.out _ (HX.out _ (Below.refl _ _)).1 | exact HS12.out _ (HX.out _ (Below.refl _ _).drew).1 | exact HS12.out _ (HX.out _ HB1.out).1 | exact HS12.out _ (HX.out _ HB2.out).1 | exact HS12.out _ (by rw [heap_setCell_other _ _ _ _ (by show wr.heap.size ≠ w.heap.size; omega), heap_setCell_other _ _ _ _ (by show wr.heap.size ≠ w.heap.size; omega)]; exact (HX.out _ HB2.out).1))
          ((first
            | (go_at_call 61; refine (sClone_any n _ hn32).mono ?_; rintro e w1 ⟨rfl, hb1⟩; have HB1 : Hid (Below (wr.alloc (.cells #[.string n, .int .i64 k1, .bool b1, .int .i64 i1, .float .f64 f1, .string tx1, .slice ab1 nb1 cb1, .int .u64 rf1, .slice al1 nl1 cl1, .slice af1 nf1 cf1, .string cc1, .int .i64 vr1] 84)).heap.size (wr.alloc (.cells #[.string n, .int .i64 k1, .bool b1, .int .i64 i1, .float .f64 f1, .string tx1, .slice ab1 nb1 cb1, .int .u64 rf1, .slice al1 nl1 cl1, .slice af1 nf1 cf1, .string cc1, .int .i64 vr1] 84)) w1) := below_to (Below.refl _ _).drew hb1; clear hb1)
            | (go_at_call 37; refine (HO.out _ ?_).mono ?_; exact (HX.out _ HB1.out).2; rintro e w2 ⟨v, rfl, hb2, hv, hsh⟩; have HV : Hid (t.V w2 (Fr wr w2) v) := t.V_same (Same.refl _ _) (fun k hk => ⟨Nat.le_trans (HX.out _ HB1.out).2.size hk.1, hk.2⟩) v hv; obtain ⟨T, x, rfl⟩ := Tm.V_iface hkd hv; have HB2 : Hid (Below (wr.alloc (.cells #[.string n, .int .i64 k1, .bool b1, .int .i64 i1, .float .f64 f1, .string tx1, .slice ab1 nb1 cb1, .int .u64 rf1, .slice al1 nl1 cl1, .slice af1 nf1 cf1, .string cc1, .int .i64 vr1] 84)).heap.size (wr.alloc (.cells #[.string n, .int .i64 k1, .bool b1, .int .i64 i1, .float .f64 f1, .string tx1, .slice ab1 nb1 cb1, .int .u64 rf1, .slice al1 nl1 cl1, .slice af1 nf1 cf1, .string cc1, .int .i64 vr1] 84)) w2) := below_to HB1.out hb2; obtain ⟨⟨⟨u0, hu0⟩, hf0⟩, ⟨u1, hu1⟩, hf1⟩ := HS.out w2 (HX.out _ HB2.out).2)))
        have HNw := HNew.out w2 _ (HX.out _ HB2.out).2 HV.out
        go_wp2_with fail
        go_roundw
        case rel => exact ⟨k + 1, l, _, by go_num, HL.out, htN.2, by simp [hxs]; omega, HNw.1, HNw.2, HN.out.1, HN.out.2.1, HN.out.2.2⟩
        case measure => simp [intOf]; omega

section
variable (b : Bool) (i : Int) (f : Nat) (tx : ByteArray) (vb : Value) (rf : Int) (vl vf : Value) (c : ByteArray) (vr : Int) (w : World)
set_option maxRecDepth 100000 in
set_option maxHeartbeats 400000 in
theorem vof_1 : Calls Try.prog 37 #[.agg (tcells 1 b i f tx vb rf vl vf c vr)] w fun e w' => e = .returned .nilIface ∧ Below w.heap.size w w' := by
  unfold tcells
  go_enter Try.func37, Try.ntmps37
  go_wp2_with fail
  go_ret
  exact ⟨rfl, (Below.refl _ _).alloc (Nat.le_refl _) _⟩
set_option maxRecDepth 100000 in
set_option maxHeartbeats 400000 in
theorem vof_2 : Calls Try.prog 37 #[.agg (tcells 2 b i f tx vb rf vl vf c vr)] w fun e w' => e = .returned (.iface 4 (.bool b)) ∧ Below w.heap.size w w' := by
  unfold tcells
  go_enter Try.func37, Try.ntmps37
  go_wp2_with fail
  go_ret
  exact ⟨rfl, (Below.refl _ _).alloc (Nat.le_refl _) _⟩
set_option maxRecDepth 100000 in
set_option maxHeartbeats 400000 in
theorem vof_3 : Calls Try.prog 37 #[.agg (tcells 3 b i f tx vb rf vl vf c vr)] w fun e w' => e = .returned (.iface 2 (.int .i64 i)) ∧ Below w.heap.size w w' := by
  unfold tcells
  go_enter Try.func37, Try.ntmps37
  go_wp2_with fail
  go_ret
  exact ⟨rfl, (Below.refl _ _).alloc (Nat.le_refl _) _⟩
set_option maxRecDepth 100000 in
set_option maxHeartbeats 400000 in
theorem vof_4 : Calls Try.prog 37 #[.agg (tcells 4 b i f tx vb rf vl vf c vr)] w fun e w' => e = .returned (.iface 22 (.float .f64 f)) ∧ Below w.heap.size w w' := by
  unfold tcells
  go_enter Try.func37, Try.ntmps37
  go_wp2_with fail
  go_ret
  exact ⟨rfl, (Below.refl _ _).alloc (Nat.le_refl _) _⟩
set_option maxRecDepth 100000 in
set_option maxHeartbeats 400000 in
theorem vof_7 : Calls Try.prog 37 #[.agg (tcells 7 b i f tx vb rf vl vf c vr)] w fun e w' => e = .returned (.iface 25 (.int .u64 rf)) ∧ Below w.heap.size w w' := by
  unfold tcells
  go_enter Try.func37, Try.ntmps37
  go_wp2_with fail
  go_ret
  exact ⟨rfl, (Below.refl _ _).alloc (Nat.le_refl _) _⟩
set_option maxRecDepth 100000 in
set_option maxHeartbeats 400000 in
theorem vof_5 (hs : tx.size ≤ 140737488355328) : Calls Try.prog 37 #[.agg (tcells 5 b i f tx vb rf vl vf c vr)] w fun e w' => e = .returned (.iface 9 (.string tx)) ∧ Below w.heap.size w w' := by
  unfold tcells
  go_enter Try.func37, Try.ntmps37
  go_wp2_with (go_at_call 61; refine (sClone_any tx _ hs).mono ?_; rintro e w1 ⟨rfl, hb1⟩)
  go_ret
  exact ⟨rfl, below_to ((Below.refl _ _).alloc (Nat.le_refl _) _) hb1⟩
set_option maxRecDepth 100000 in
set_option maxHeartbeats 400000 in
theorem vof_6 (ab : Option Addr) (L : ByteArray) (cb : Nat) (B : Nat → Prop) (hB : Sub B w) (hl : BytesAt w B ab L) (hs : L.size ≤ 140737488355328) : Calls Try.prog 37 #[.agg (tcells 6 b i f tx (.slice ab L.size cb) rf vl vf c vr)] w fun e w' => ∃ a cap, e = .returned (.iface 23 (.slice a L.size cap)) ∧ Below w.heap.size w w' ∧ BytesLV w' (Fr w w') a L cap := by
  unfold tcells
  have HC : Hid (∀ W, Below w.heap.size w W → Calls Try.prog 62 #[.slice ab L.size cb] W fun e w' => ∃ a cap, e = .returned (.slice a L.size cap) ∧ Below W.heap.size W w' ∧ BytesLV w' (Fr W w') a L cap) := fun W hW => bClone_any L ab cb B W (hB.later hW) (hl.same (hB.same hW) (fun _ h => h)) hs
  clear hl
  go_enter Try.func37, Try.ntmps37
  go_wp2_with (go_at_call 62; refine (HC.out _ ((Below.refl _ _).alloc (Nat.le_refl _) _)).mono ?_; rintro e w1 ⟨a, cap, rfl, hb1, hl1⟩)
  go_ret
  exact ⟨_, _, rfl, below_to ((Below.refl _ _).alloc (Nat.le_refl _) _) hb1, hl1.same (Same.refl _ _) (fun k hk => ⟨by have := hk.1; simp at this; omega, hk.2⟩)⟩
set_option maxRecDepth 100000 in
set_option maxHeartbeats 400000 in
theorem vof_9 (L : TmF) (h : ∀ W, Below w.heap.size w W → Calls Try.prog 63 #[vf] W fun e w' => ∃ a cap, e = .returned (.slice a L.len cap) ∧ Below W.heap.size W w' ∧ L.LV w' (Fr W w') a cap) :
    Calls Try.prog 37 #[.agg (tcells 9 b i f tx vb rf vl vf c vr)] w fun e w' => ∃ a cap, e = .returned (.iface 73 (.slice a L.len cap)) ∧ Below w.heap.size w w' ∧ L.LV w' (Fr w w') a cap := by
  unfold tcells
  have HC : Hid _ := h
  clear h
  go_enter Try.func37, Try.ntmps37
  go_wp2_with (go_at_call 63; refine (HC.out _ ((Below.refl _ _).alloc (Nat.le_refl _) _)).mono ?_; rintro e w1 ⟨a, cap, rfl, hb1, hl1⟩)
  go_ret
  exact ⟨_, _, rfl, below_to ((Below.refl _ _).alloc (Nat.le_refl _) _) hb1, L.LV_same (Same.refl _ _) (fun k hk => ⟨by have := hk.1; simp at this; omega, hk.2⟩) _ _ hl1⟩
end
end Go.Proofs.Ytkomcebknllaiaa
