/- The reader's unfolded, bits and text; making a value of bytes that were looked at: the kinds without parts. -/
import Derived.Test.YtkomcebknllaiaaK23
import Derived.Test.YtkomcebknllaiaaK15
import Derived.Test.YtkomcebknllaiaaK18
namespace Go.Proofs.Ytkomcebknllaiaa
open Go.RowKit

theorem frombits_run (n : Nat) (w : World) : (callFunc 102 #[.int .u64 (n : Int)]).run Try.prog w = .ok (.value (.float .f64 n)) w := by
  rw [run_callFunc_extern Try.func102 (by kernel_rfl) (by kernel_rfl) (by kernel_rfl) (e := Extern.MathFloatBits.float64frombits) (by kernel_rfl)]
  rfl

set_option maxRecDepth 100000 in
set_option maxHeartbeats 400000 in
theorem unfolded_any (n : Nat) (w : World) (h : n < 18446744073709551616) : Calls Try.prog 100 #[.int .u64 (n : Int)] w fun e w' => e = .returned (.int .i64 (Sp.unfold' n)) ∧ w = w' := by
  have hand : bits .and .u64 (n : Int) 1 = ((n % 2 : Nat) : Int) := by
    have := bits_and_u64_nat n 1 h (by decide)
    rw [Nat.and_one_is_mod] at this
    exact this
  by_cases hn : n % 2 = 1
  · have hb : ((bits .and .u64 (n : Int) 1) == 1) = true := by rw [hand, hn]; rfl
    clear hand
    go_enter Try.func100, Try.ntmps100
    go_wp2_with fail
    go_ret
    refine ⟨?_, rfl⟩
    have e : wrap64 (bits .xor .u64 IntKind.u64.max ((n : Int) / 2)) = Sp.unfold' n := by
      rw [xor_ones _ (by omega) (by omega)]
      unfold Sp.unfold'
      rw [if_pos hn]
      simp only [wrap64]
      omega
    exact ret_int e
  · have hb : ((bits .and .u64 (n : Int) 1) == 1) = false := by rw [hand, show n % 2 = 0 by omega]; rfl
    clear hand
    go_enter Try.func100, Try.ntmps100
    go_wp2_with fail
    go_ret
    refine ⟨?_, rfl⟩
    have e : (n : Int) / 2 = Sp.unfold' n := by
      unfold Sp.unfold'
      rw [if_neg hn]
      omega
    exact ret_int e

theorem By.part {xs : List Int} (h : By xs) (a n : Nat) : By ((xs.drop a).take n) := fun x hx => h x (List.mem_of_mem_drop (List.mem_of_mem_take hx))
theorem part_len {xs : List Int} {a n : Nat} (h : a + n ≤ xs.length) : ((xs.drop a).take n).length = n := by rw [List.length_take, List.length_drop]; omega

set_option maxRecDepth 100000 in
set_option maxHeartbeats 1000000 in
theorem rtext_ok (n a2 : Nat) (b : Nat) (a : Option Addr) (xs : List Int) (cap at' p : Nat) (w : World) (h : Rdr w b a xs cap at' p) (hby : By xs) (hr : Sp.rn xs at' 10 0 0 = .ok n a2) (hl : a2 + n ≤ xs.length) :
    Calls Try.prog 104 #[.pointer (some ⟨b, 0, none⟩)] w fun e w' => ∃ a' cap', e = .returned (.slice a' n cap') ∧ RdB w' (Lo b) a' ((xs.drop a2).take n) ∧ Rdr w' b a xs cap (a2 + n) p ∧ But b w w' := by
  have HN : Hid (Calls Try.prog 101 #[.pointer (some ⟨b, 0, none⟩)] w fun e w' => e = .returned (.int .u64 (n : Int)) ∧ Rdr w' b a xs cap a2 p ∧ But b w w') := rnumber_ok n a2 b a xs cap at' p w h hby hr
  have HL : Hid (a2 + n ≤ xs.length) := hl
  have hln := h.ln
  have hwn : IntKind.i64.wrap (n : Int) = (n : Int) := Go.wrap_small _ (by omega) (by omega)
  clear h hr hby hl
  go_enter Try.func104, Try.ntmps104
  go_wp2_with fail
  refine HN.out.mono ?_
  rintro e w1 ⟨rfl, hr1, hb1⟩
  have HR1 : Hid (Rdr w1 b a xs cap a2 p ∧ But b w w1) := ⟨hr1, hb1⟩
  clear hr1 hb1 HN
  go_wp2_with fail
  refine (take_ok n b a xs cap a2 p w1 HR1.out.1 HL.out).mono ?_
  rintro e w2 ⟨a7, cap7, rfl, hrd2, hr2, hb2⟩
  have HR2 : Hid (RdB w2 (Lo b) a7 ((xs.drop a2).take n) ∧ Rdr w2 b a xs cap (a2 + n) p ∧ But b w1 w2) := ⟨hrd2, hr2, hb2⟩
  clear hrd2 hr2 hb2
  go_wp2_with fail
  go_ret
  exact ⟨a7, cap7, rfl, HR2.out.1, HR2.out.2.1, HR1.out.2.trans HR2.out.2.2⟩

/-- eight bytes as one number, as far as they came -/
def Sp.cat (l : List Int) : Nat := l.foldl (fun n x => n * 256 + x.toNat) 0
theorem cat_snoc (l : List Int) (x : Int) : Sp.cat (l ++ [x]) = Sp.cat l * 256 + x.toNat := by simp [Sp.cat]
theorem cat_go : ∀ (l : List Int) (acc m : Nat), By l → acc < m → l.foldl (fun n x => n * 256 + x.toNat) acc < m * 256 ^ l.length
  | [], acc, m, _, h => by simpa using h
  | x :: l, acc, m, hb, h => by
    have h2 := hb x (by simp)
    have := cat_go l (acc * 256 + x.toNat) (m * 256) (fun y hy => hb y (by simp [hy])) (by omega)
    simp only [List.foldl_cons, List.length_cons]
    rw [Nat.pow_succ, Nat.mul_comm (256 ^ _) 256, ← Nat.mul_assoc]
    exact this
theorem cat_lt (l : List Int) (h : By l) : Sp.cat l < 256 ^ l.length := by
  have := cat_go l 0 1 h (by omega)
  simpa [Sp.cat] using this
theorem or_byte (n x : Nat) (hn : n < 72057594037927936) (hx : x < 256) : bits .or .u64 ((n * 256 : Nat) : Int) (x : Int) = ((n * 256 + x : Nat) : Int) := by
  rw [bits_or_u64_nat (n * 256) x (by omega) (by omega)]
  congr 1
  have := Nat.shiftLeft_add_eq_or_of_lt (i := 8) (b := x) (by omega) n
  rw [Nat.shiftLeft_eq] at this
  exact this.symm
theorem take_succ_get {l : List Int} {k : Nat} {u : Int} (h : l[k]? = some u) : l.take (k + 1) = l.take k ++ [u] := by
  rw [List.take_add_one, h]; rfl

set_option maxRecDepth 100000 in
set_option maxHeartbeats 1000000 in
theorem rbits_ok (b : Nat) (a : Option Addr) (xs : List Int) (cap at' p : Nat) (w : World) (h : Rdr w b a xs cap at' p) (hby : By xs) (hl : at' + 8 ≤ xs.length) :
    Calls Try.prog 103 #[.pointer (some ⟨b, 0, none⟩)] w fun e w' => e = .returned (.int .u64 (Sp.cat ((xs.drop at').take 8) : Nat)) ∧ Rdr w' b a xs cap (at' + 8) p ∧ But b w w' := by
  have HT : Hid (Calls Try.prog 119 #[.pointer (some ⟨b, 0, none⟩), .int .i64 8] w fun e w' => ∃ a' cap', e = .returned (.slice a' 8 cap') ∧ RdB w' (Lo b) a' ((xs.drop at').take 8) ∧ Rdr w' b a xs cap (at' + 8) p ∧ But b w w') := take_ok 8 b a xs cap at' p w h hl
  obtain ⟨l, hll⟩ : ∃ l, l = (xs.drop at').take 8 := ⟨_, rfl⟩
  have HB : Hid (By l ∧ l.length = 8) := by show _ ∧ _; rw [hll]; exact ⟨hby.part _ _, part_len hl⟩
  rw [← hll] at HT ⊢
  clear h hby hl hll
  go_enter Try.func103, Try.ntmps103
  go_wp2_with fail
  refine HT.out.mono ?_
  rintro e w1 ⟨a7, cap7, rfl, hrd, hr1, hb1⟩
  have HR1 : Hid (RdB w1 (Lo b) a7 l ∧ Rdr w1 b a xs cap (at' + 8) p ∧ But b w w1) := ⟨hrd, hr1, hb1⟩
  clear hrd hr1 hb1 HT
  go_wp2_with fail
  go_loopw [3, 9] (fun u x wr => ∃ (k n : Nat), u = .int .u64 (n : Int) ∧ x = .int .i64 (k : Int) ∧ k ≤ 8 ∧ Hid (n = Sp.cat (l.take k) ∧ wr = w1)) (fun _ x _ => 8 - (intOf x).toNat)
  case atStart => exact ⟨0, 0, rfl, rfl, by omega, rfl, rfl⟩
  case round =>
    obtain ⟨k, n, rfl, rfl, hk, HI⟩ := hrel
    obtain ⟨hn, rfl⟩ := HI.out
    clear HI
    by_cases hk8 : k = 8
    · have h1 : ¬ ((k : Int) < 8) := by omega
      have HN : Hid (n = Sp.cat l) := by show _ = _; rw [hn, List.take_of_length_le (by rw [HB.out.2]; omega)]
      clear hn
      go_wp2_with fail
      go_ret
      exact ⟨by rw [HN.out]; rfl, HR1.out.2⟩
    · have h1 : (k : Int) < 8 := by omega
      have hkl : k < l.length := by rw [HB.out.2]; omega
      have hu := List.getElem?_eq_getElem hkl
      have hbu := HB.out.1.get hu
      have hlt := cat_lt (l.take k) (fun y hy => HB.out.1 y (List.mem_of_mem_take hy))
      rw [List.length_take, Nat.min_eq_left (by omega), ← hn] at hlt
      have hlt7 : n < 72057594037927936 := Nat.lt_of_lt_of_le hlt (Nat.pow_le_pow_right (n := 256) (by decide) (show k ≤ 7 by omega))
      have HNX : Hid (n * 256 + (l[k]).toNat = Sp.cat (l.take (k + 1))) := by show _ = _; rw [take_succ_get hu, cat_snoc, hn]
      obtain ⟨g, o, rfl, _, hc⟩ := HR1.out.1 k _ hu
      have hor := or_byte n (l[k]).toNat hlt7 (by omega)
      generalize l[k] = u at *
      have HOR : Hid (bits BinOp.or IntKind.u64 ((n : Int) * 256) u = ((n * 256 + u.toNat : Nat) : Int)) := by
        show _ = _
        have : ((u.toNat : Nat) : Int) = u := by omega
        rw [this] at hor
        exact_mod_cast hor
      clear hlt hn hor hu
      go_wp2_with fail
      go_roundw
      case rel => exact ⟨k + 1, n * 256 + u.toNat, by rw [HOR.out], by go_num, by omega, HNX.out, trivial⟩
      case measure => simp [intOf]; omega
end Go.Proofs.Ytkomcebknllaiaa

/- Making a value of bytes that were looked at: the kinds without parts. -/
namespace Go.Proofs.Ytkomcebknllaiaa
open Go.RowKit

theorem byte_txt {l : List Int} {j : Nat} (hj : j < l.length) (hb : By l) : Sp.byte (Sp.txt l) j = l[j] := by
  have h := hb.get (List.getElem?_eq_getElem hj)
  simp [Sp.byte, Sp.txt, strOfNums, Array.getD, hj]
  omega
theorem bytesAt_rd {w : World} {B : Nat → Prop} {a : Option Addr} {l : List Int} (h : RdB w B a l) (hb : By l) : BytesAt w B a (Sp.txt l) := fun j hj => by
  have hj' : j < l.length := by rw [txt_size] at hj; exact hj
  obtain ⟨g, o, e, hg, hc⟩ := h j l[j] (List.getElem?_eq_getElem hj')
  exact ⟨g, o, e, hg, by rw [hc, byte_txt hj' hb]⟩
theorem eq1_run (c : Int) (W : World) : Sem.run Try.prog (binOp BinOp.eql 5 (.int .u8 c) (.int .u8 1)) W = .ok (.bool (c == 1)) W := by
  simp [go_sem]

section
variable (b : Nat) (a : Option Addr) (xs : List Int) (cap at' p : Nat) (w : World) (h : Rdr w b a xs cap at' p)
include h
set_option maxRecDepth 100000 in
set_option maxHeartbeats 2000000 in
theorem made_1 (hx : xs[at']? = some 1) : Calls Try.prog 54 #[.pointer (some ⟨b, 0, none⟩)] w fun e w' => e = .returned (.nilIface) ∧ Rdr w' b a xs cap (at' + 1) p ∧ But b w w' := by
  have HB : Hid (Calls Try.prog 99 #[.pointer (some ⟨b, 0, none⟩)] w fun e w' => e = .returned (.int .u8 1) ∧ Rdr w' b a xs cap (at' + 1) p ∧ But b w w') := rbyte_ok 1 b a xs cap at' p w h hx
  clear h hx
  go_enter Try.func54, Try.ntmps54
  go_wp2_with fail
  refine HB.out.mono ?_
  rintro e w1 ⟨rfl, hr1, hb1⟩
  have HR1 : Hid (Rdr w1 b a xs cap (at' + 1) p ∧ But b w w1) := ⟨hr1, hb1⟩
  clear hr1 hb1 HB
  go_wp2_with fail
  go_ret
  exact ⟨rfl, HR1.out⟩
set_option maxRecDepth 100000 in
set_option maxHeartbeats 2000000 in
theorem made_2 (hx : xs[at']? = some 2) (c : Int) (hc : xs[at' + 1]? = some c) : Calls Try.prog 54 #[.pointer (some ⟨b, 0, none⟩)] w fun e w' => e = .returned (.iface 4 (.bool (c == 1))) ∧ Rdr w' b a xs cap (at' + 2) p ∧ But b w w' := by
  have HX : Hid (xs[at' + 1]? = some c) := hc
  have HB : Hid (Calls Try.prog 99 #[.pointer (some ⟨b, 0, none⟩)] w fun e w' => e = .returned (.int .u8 2) ∧ Rdr w' b a xs cap (at' + 1) p ∧ But b w w') := rbyte_ok 2 b a xs cap at' p w h hx
  clear h hx hc
  go_enter Try.func54, Try.ntmps54
  go_wp2_with fail
  refine HB.out.mono ?_
  rintro e w1 ⟨rfl, hr1, hb1⟩
  have HR1 : Hid (Rdr w1 b a xs cap (at' + 1) p ∧ But b w w1) := ⟨hr1, hb1⟩
  clear hr1 hb1 HB
  go_wp2_with fail
  refine (rbyte_ok c b a xs cap (at' + 1) p w1 HR1.out.1 HX.out).mono ?_
  rintro e w2 ⟨rfl, hr2, hb2⟩
  have HR2 : Hid (Rdr w2 b a xs cap (at' + 2) p ∧ But b w1 w2) := ⟨hr2, hb2⟩
  clear hr2 hb2
  go_wp2_with fail
  go_ret
  exact ⟨rfl, HR2.out.1, HR1.out.2.trans HR2.out.2⟩
set_option maxRecDepth 100000 in
set_option maxHeartbeats 2000000 in
theorem made_3 (hx : xs[at']? = some 3) (hby : By xs) (n a2 : Nat) (hn : Sp.rn xs (at' + 1) 10 0 0 = .ok n a2) (hl : n < 18446744073709551616) : Calls Try.prog 54 #[.pointer (some ⟨b, 0, none⟩)] w fun e w' => e = .returned ((.iface 2 (.int .i64 (Sp.unfold' n)))) ∧ Rdr w' b a xs cap a2 p ∧ But b w w' := by
  have HX : Hid (By xs ∧ Sp.rn xs (at' + 1) 10 0 0 = .ok n a2 ∧ n < 18446744073709551616) := ⟨hby, hn, hl⟩
  have HB : Hid (Calls Try.prog 99 #[.pointer (some ⟨b, 0, none⟩)] w fun e w' => e = .returned (.int .u8 3) ∧ Rdr w' b a xs cap (at' + 1) p ∧ But b w w') := rbyte_ok 3 b a xs cap at' p w h hx
  clear h hx hby hn hl
  go_enter Try.func54, Try.ntmps54
  go_wp2_with fail
  refine HB.out.mono ?_
  rintro e w1 ⟨rfl, hr1, hb1⟩
  have HR1 : Hid (Rdr w1 b a xs cap (at' + 1) p ∧ But b w w1) := ⟨hr1, hb1⟩
  clear hr1 hb1 HB
  go_wp2_with fail
  refine (rnumber_ok n a2 b a xs cap (at' + 1) p w1 HR1.out.1 HX.out.1 HX.out.2.1).mono ?_
  rintro e w2 ⟨rfl, hr2, hb2⟩
  have HR2 : Hid (Rdr w2 b a xs cap a2 p ∧ But b w1 w2) := ⟨hr2, hb2⟩
  clear hr2 hb2
  go_wp2_with fail
  refine (unfolded_any n w2 HX.out.2.2).mono ?_
  rintro e w3 ⟨rfl, rfl⟩
  go_wp2_with fail
  go_ret
  exact ⟨rfl, HR2.out.1, HR1.out.2.trans HR2.out.2⟩
set_option maxRecDepth 100000 in
set_option maxHeartbeats 2000000 in
theorem made_7 (hx : xs[at']? = some 7) (hby : By xs) (n a2 : Nat) (hn : Sp.rn xs (at' + 1) 10 0 0 = .ok n a2) : Calls Try.prog 54 #[.pointer (some ⟨b, 0, none⟩)] w fun e w' => e = .returned ((.iface 25 (.int .u64 (n : Int)))) ∧ Rdr w' b a xs cap a2 p ∧ But b w w' := by
  have HX : Hid (By xs ∧ Sp.rn xs (at' + 1) 10 0 0 = .ok n a2) := ⟨hby, hn⟩
  have HB : Hid (Calls Try.prog 99 #[.pointer (some ⟨b, 0, none⟩)] w fun e w' => e = .returned (.int .u8 7) ∧ Rdr w' b a xs cap (at' + 1) p ∧ But b w w') := rbyte_ok 7 b a xs cap at' p w h hx
  clear h hx hby hn
  go_enter Try.func54, Try.ntmps54
  go_wp2_with fail
  refine HB.out.mono ?_
  rintro e w1 ⟨rfl, hr1, hb1⟩
  have HR1 : Hid (Rdr w1 b a xs cap (at' + 1) p ∧ But b w w1) := ⟨hr1, hb1⟩
  clear hr1 hb1 HB
  go_wp2_with fail
  refine (rnumber_ok n a2 b a xs cap (at' + 1) p w1 HR1.out.1 HX.out.1 HX.out.2).mono ?_
  rintro e w2 ⟨rfl, hr2, hb2⟩
  have HR2 : Hid (Rdr w2 b a xs cap a2 p ∧ But b w1 w2) := ⟨hr2, hb2⟩
  clear hr2 hb2
  go_wp2_with fail
  go_ret
  exact ⟨rfl, HR2.out.1, HR1.out.2.trans HR2.out.2⟩
set_option maxRecDepth 100000 in
set_option maxHeartbeats 2000000 in
theorem made_4 (hx : xs[at']? = some 4) (hby : By xs) (hl : at' + 1 + 8 ≤ xs.length) : Calls Try.prog 54 #[.pointer (some ⟨b, 0, none⟩)] w fun e w' => e = .returned ((.iface 22 (.float .f64 (Sp.cat ((xs.drop (at' + 1)).take 8))))) ∧ Rdr w' b a xs cap (at' + 1 + 8) p ∧ But b w w' := by
  have HX : Hid (By xs ∧ at' + 1 + 8 ≤ xs.length) := ⟨hby, hl⟩
  have HB : Hid (Calls Try.prog 99 #[.pointer (some ⟨b, 0, none⟩)] w fun e w' => e = .returned (.int .u8 4) ∧ Rdr w' b a xs cap (at' + 1) p ∧ But b w w') := rbyte_ok 4 b a xs cap at' p w h hx
  clear h hx hby hl
  go_enter Try.func54, Try.ntmps54
  go_wp2_with fail
  refine HB.out.mono ?_
  rintro e w1 ⟨rfl, hr1, hb1⟩
  have HR1 : Hid (Rdr w1 b a xs cap (at' + 1) p ∧ But b w w1) := ⟨hr1, hb1⟩
  clear hr1 hb1 HB
  go_wp2_with fail
  refine (rbits_ok b a xs cap (at' + 1) p w1 HR1.out.1 HX.out.1 HX.out.2).mono ?_
  rintro e w2 ⟨rfl, hr2, hb2⟩
  have HR2 : Hid (Rdr w2 b a xs cap (at' + 1 + 8) p ∧ But b w1 w2) := ⟨hr2, hb2⟩
  clear hr2 hb2
  have hfb := frombits_run (Sp.cat ((xs.drop (at' + 1)).take 8)) w2
  go_wp2_with fail
  go_ret
  exact ⟨rfl, HR2.out.1, HR1.out.2.trans HR2.out.2⟩
set_option maxRecDepth 100000 in
set_option maxHeartbeats 2000000 in
theorem made_5 (hx : xs[at']? = some 5) (hby : By xs) (n a2 : Nat) (hn : Sp.rn xs (at' + 1) 10 0 0 = .ok n a2) (hl : a2 + n ≤ xs.length) : Calls Try.prog 54 #[.pointer (some ⟨b, 0, none⟩)] w fun e w' => e = .returned ((.iface 9 (.string (Sp.txt ((xs.drop a2).take n))))) ∧ Rdr w' b a xs cap (a2 + n) p ∧ But b w w' := by
  have HX : Hid (By xs ∧ Sp.rn xs (at' + 1) 10 0 0 = .ok n a2 ∧ a2 + n ≤ xs.length) := ⟨hby, hn, hl⟩
  have HB : Hid (Calls Try.prog 99 #[.pointer (some ⟨b, 0, none⟩)] w fun e w' => e = .returned (.int .u8 5) ∧ Rdr w' b a xs cap (at' + 1) p ∧ But b w w') := rbyte_ok 5 b a xs cap at' p w h hx
  clear h hx hby hn hl
  go_enter Try.func54, Try.ntmps54
  go_wp2_with fail
  refine HB.out.mono ?_
  rintro e w1 ⟨rfl, hr1, hb1⟩
  have HR1 : Hid (Rdr w1 b a xs cap (at' + 1) p ∧ But b w w1) := ⟨hr1, hb1⟩
  clear hr1 hb1 HB
  go_wp2_with fail
  refine (rtext_ok n a2 b a xs cap (at' + 1) p w1 HR1.out.1 HX.out.1 HX.out.2.1 HX.out.2.2).mono ?_
  rintro e w2 ⟨a7, cap7, rfl, hrd2, hr2, hb2⟩
  have HR2 : Hid (RdB w2 (Lo b) a7 ((xs.drop a2).take n) ∧ Rdr w2 b a xs cap (a2 + n) p ∧ But b w1 w2) := ⟨hrd2, hr2, hb2⟩
  clear hrd2 hr2 hb2
  have hcv : (convert 23 9 (.slice a7 n cap7)).run Try.prog w2 = .ok (.string (Sp.txt ((xs.drop a2).take n))) w2 := by
    have := conv_rd _ a7 cap7 (Lo b) w2 HR2.out.1
    rw [part_len HX.out.2.2] at this; exact this
  go_wp2_with fail
  go_ret
  exact ⟨rfl, HR2.out.2.1, HR1.out.2.trans HR2.out.2.2⟩
set_option maxRecDepth 100000 in
set_option maxHeartbeats 2000000 in
theorem made_6 (hx : xs[at']? = some 6) (hby : By xs) (n a2 : Nat) (hn : Sp.rn xs (at' + 1) 10 0 0 = .ok n a2) (hl : a2 + n ≤ xs.length) (hm : n ≤ 65536) : Calls Try.prog 54 #[.pointer (some ⟨b, 0, none⟩)] w fun e w' => ∃ a' cap', e = .returned ((.iface 23 (.slice a' (Sp.txt ((xs.drop a2).take n)).size cap'))) ∧ Rdr w' b a xs cap (a2 + n) p ∧ But b w w' ∧ BytesLV w' (Fr w w') a' (Sp.txt ((xs.drop a2).take n)) cap' := by
  have HX : Hid (By xs ∧ Sp.rn xs (at' + 1) 10 0 0 = .ok n a2 ∧ a2 + n ≤ xs.length) := ⟨hby, hn, hl⟩
  have HB : Hid (Calls Try.prog 99 #[.pointer (some ⟨b, 0, none⟩)] w fun e w' => e = .returned (.int .u8 6) ∧ Rdr w' b a xs cap (at' + 1) p ∧ But b w w') := rbyte_ok 6 b a xs cap at' p w h hx
  clear h hx hby hn hl
  go_enter Try.func54, Try.ntmps54
  go_wp2_with fail
  refine HB.out.mono ?_
  rintro e w1 ⟨rfl, hr1, hb1⟩
  have HR1 : Hid (Rdr w1 b a xs cap (at' + 1) p ∧ But b w w1) := ⟨hr1, hb1⟩
  clear hr1 hb1 HB
  go_wp2_with fail
  refine (rtext_ok n a2 b a xs cap (at' + 1) p w1 HR1.out.1 HX.out.1 HX.out.2.1 HX.out.2.2).mono ?_
  rintro e w2 ⟨a7, cap7, rfl, hrd2, hr2, hb2⟩
  have HR2 : Hid (RdB w2 (Lo b) a7 ((xs.drop a2).take n) ∧ Rdr w2 b a xs cap (a2 + n) p ∧ But b w1 w2) := ⟨hrd2, hr2, hb2⟩
  clear hrd2 hr2 hb2
  have hsz : (Sp.txt ((xs.drop a2).take n)).size = n := by rw [txt_size, part_len HX.out.2.2]
  have HCL : Hid (Calls Try.prog 62 #[.slice a7 n cap7] w2 fun e w' => ∃ a' cap', e = .returned (.slice a' n cap') ∧ Below w2.heap.size w2 w' ∧ BytesLV w' (Fr w2 w') a' (Sp.txt ((xs.drop a2).take n)) cap') := by
    have := bClone_any (Sp.txt ((xs.drop a2).take n)) a7 cap7 (Lo b) w2 (fun k hk => Nat.lt_trans hk HR2.out.2.1.lt) (bytesAt_rd HR2.out.1 (HX.out.1.part _ _)) (by rw [hsz]; omega)
    rw [hsz] at this
    exact this
  have HSZ : Hid ((Sp.txt ((xs.drop a2).take n)).size = n) := hsz
  clear hsz
  go_wp2_with fail
  refine HCL.out.mono ?_
  rintro e w3 ⟨a8, cap8, rfl, hb3, hlv⟩
  have HR3 : Hid (Below w2.heap.size w2 w3 ∧ BytesLV w3 (Fr w2 w3) a8 (Sp.txt ((xs.drop a2).take n)) cap8) := ⟨hb3, hlv⟩
  clear hb3 hlv HCL
  go_wp2_with fail
  go_ret
  have hB := HR1.out.2.trans HR2.out.2.2
  exact ⟨a8, cap8, by rw [HSZ.out]; rfl, HR2.out.2.1.call HR3.out.1, hB.call HR3.out.1, HR3.out.2.same (Same.refl _ _) (fun k hk => ⟨Nat.le_trans hB.size hk.1, hk.2⟩)⟩
end
end Go.Proofs.Ytkomcebknllaiaa
