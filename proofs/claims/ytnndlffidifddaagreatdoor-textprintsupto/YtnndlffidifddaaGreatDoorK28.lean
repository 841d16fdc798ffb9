/- internal/strconv.fmtX, as FormatFloat calls it. -/
import Derived.Test.YtnndlffidifddaaGreatDoorK14
import Derived.Laws.Bits64b
import Derived.Test.YtnndlffidifddaaGreatDoorK11
namespace Go.Proofs.YtnndlffidifddaaGreatDoor
open Go.RowKit

theorem and60 (n : Nat) (h : n < 2305843009213693952) : bits BinOp.and IntKind.u64 (n : Int) 1152921504606846976 = if 1152921504606846976 ≤ n then 1152921504606846976 else 0 := by
  have h1 := bits_and_u64_nat n 1152921504606846976 (by omega) (by decide)
  have h' : bits BinOp.and IntKind.u64 (n : Int) 1152921504606846976 = ((n &&& 1152921504606846976 : Nat) : Int) := h1
  rw [h', nat_bit60]
  split <;> omega

theorem lower_x (w : World) : Calls Tryz.prog 102 #[.int .u8 120] w fun e w' => e = .returned (.int .u8 120) ∧ w = w' := by
  have ho : bits BinOp.or IntKind.u8 120 32 = 120 := by decide +kernel
  go_enter Tryz.func102, Tryz.ntmps102
  go_wp2_with fail
  go_ret
  exact ⟨rfl, rfl⟩
/-- a figure, as a byte -/
theorem fig (n : Nat) (h : n < 10) : ∃ b : UInt8, Hid (b = UInt8.ofNat (48 + n)) ∧ (n : Int) + 48 = (b.toNat : Int) := ⟨_, show _ = _ from rfl, by
  have : (UInt8.ofNat (48 + n)).toNat = (48 + n) % 256 := rfl
  rw [this]; omega⟩

def slen : Value → Nat | .slice _ n _ => n | _ => 0
theorem and15w : ∀ c : Fin 16, bits .and .u64 (c.val : Int) 15 = (c.val : Int) := by decide +kernel
/-- what is left of a fraction behind so many digits -/
def Sp.rest (fr j : Nat) : Nat := (fr * 4096 * 16 ^ j) % 18446744073709551616
theorem Sp.rest_lt (fr j : Nat) : Sp.rest fr j < 18446744073709551616 := Nat.mod_lt _ (by decide)
theorem Sp.rest_0 (fr : Nat) (h : fr < 4503599627370496) : Sp.rest fr 0 = fr * 4096 := by unfold Sp.rest; rw [Nat.pow_zero, Nat.mul_one, Nat.mod_eq_of_lt (by omega)]
theorem Sp.rest_13 {fr j : Nat} (h : Sp.rest fr j ≠ 0) (hj : j ≤ 13) : j < 13 := by
  by_cases c : j = 13
  · exact absurd (by rw [c]; exact Sp.emit_end fr) h
  · omega

end Go.Proofs.YtnndlffidifddaaGreatDoor

/- internal/strconv.fmtX: one of its cases. -/
namespace Go.Proofs.YtnndlffidifddaaGreatDoor
open Go.RowKit

set_option maxRecDepth 100000 in
set_option maxHeartbeats 2000000 in
theorem fmtX_fp (m p fr : Nat) (e : Int) (a : Option Addr) (cap base : Nat) (w : World) (h : Byts w base a 0 cap []) (hb : base ≤ w.heap.size) (hm : m < 9007199254740992) (hm0 : m ≠ 0) (he0 : -1100 ≤ e) (he1 : e ≤ 1100)
    (hp : p ≤ 52) (hr : m * 2 ^ p = 4503599627370496 + fr) (hfr : fr < 4503599627370496) (hfr0 : fr ≠ 0) (hlow : ∀ c, c < p → m * 2 ^ c < 4503599627370496) (RES : List UInt8) (hres : RES = [48, 120, 49] ++ Sp.fracT fr ++ [112] ++ Sp.expT (e - (p : Int))) :
    Calls Tryz.prog 87 #[.slice a 0 cap, .int .i64 (-1), .int .u8 120, .bool false, .int .u64 (m : Int), .int .i64 e, .int .i64 52] w (AppE base [] RES w) := by
  obtain ⟨i0, hi, hz0, hz1, hz2⟩ := info_parts Tryz.infoB
  have HO : Hid (Byts w base a 0 cap []) := h
  have HR : Hid (m * 2 ^ p = 4503599627370496 + fr ∧ fr < 4503599627370496) := ⟨hr, hfr⟩
  have HLW : Hid (∀ c, c < p → m * 2 ^ c < 4503599627370496) := hlow
  have HPW : Hid (∀ c, m * 2 ^ (c + 1) = m * 2 ^ c * 2) := fun c => by rw [Nat.pow_succ, Nat.mul_assoc]
  have HRS : Hid (RES = [48, 120, 49] ++ Sp.fracT fr ++ [112] ++ Sp.expT (e - (p : Int))) := hres
  clear h hr hfr hlow hres
  have d0 : ((m : Int) == 0) = false := by simp; omega
  have HMM : Hid (0 < m) := by show 0 < m; omega
  clear hm0
  go_enter Tryz.func87, Tryz.ntmps87
  go_wp2_with fail
  clear hm d0
  go_loopw [4, 5] (fun mv ev wr => ∃ c : Nat, c ≤ p ∧ ev = .int .i64 (e - (c : Int)) ∧ mv = .int .u64 ((m * 2 ^ c : Nat) * 256 : Int) ∧ w = wr) (fun _ ev _ => (intOf ev + 2000).toNat)
  case atStart => exact ⟨0, by omega, (by rw [show e - ((0 : Nat) : Int) = e by omega]), (by rw [Nat.pow_zero, Nat.mul_one]), rfl⟩
  case round =>
    obtain ⟨c, hc, rfl, rfl, rfl⟩ := hrel
    have hq0 : 0 < m * 2 ^ c := Nat.mul_pos HMM.out (Nat.two_pow_pos _)
    by_cases hlt : c < p
    · have hq := HLW.out c hlt
      have hnx := HPW.out c
      have HLT : Hid (c + 1 ≤ p) := hlt
      generalize m * 2 ^ c = q0 at hq hnx hq0 ⊢
      have hand := and60 (q0 * 256) (by omega)
      rw [if_neg (by omega)] at hand
      obtain ⟨q, hqq⟩ : ∃ q : Int, (q0 : Int) * 256 = q := ⟨_, rfl⟩
      have hand' : bits BinOp.and IntKind.u64 q 1152921504606846976 = 0 := by rw [← hqq, ← hand]; congr 1
      rw [hqq]
      have HNX : Hid (((m * 2 ^ (c + 1) : Nat) : Int) * 256 = q * 2) := by show _ = _; rw [hnx]; omega
      have hn0 : (q != 0) = true := by simp; omega
      have hqI : q < 1152921504606846976 := by omega
      have hqJ : 0 ≤ q := by omega
      have hc52 : (c : Int) ≤ 52 := by omega
      clear hand hnx hq hlt hc hqq hq0 hp
      go_wp2_with fail
      refine ⟨⟨c + 1, HLT.out, ?_, ?_, trivial⟩, ?_⟩
      · exact congrArg (Value.int .i64) (by omega)
      · rw [HNX.out]
      · simp [intOf]; omega
    · obtain rfl : c = p := by omega
      have hq := HR.out.1
      have hfr := HR.out.2
      generalize m * 2 ^ c = q0 at hq hq0 ⊢
      have hand := and60 (q0 * 256) (by omega)
      rw [if_pos (by omega)] at hand
      obtain ⟨q, hqq⟩ : ∃ q : Int, (q0 : Int) * 256 = q := ⟨_, rfl⟩
      have hand' : bits BinOp.and IntKind.u64 q 1152921504606846976 = 1152921504606846976 := by rw [← hqq, ← hand]; congr 1
      rw [hqq]
      have hn0 : (q != 0) = true := by simp; omega
      have h60 : q / 1152921504606846976 = 1 := by omega
      have hsh : IntKind.u64.wrap (q * 16) = ((Sp.rest fr 0 : Nat) : Int) := by rw [IntKind.wrap_u64, Sp.rest_0 fr hfr]; omega
      have hc52 : (c : Int) ≤ 52 := by omega
      clear hand hq hlt hc hqq hq0 hp hfr
      have ha1 : bits BinOp.and IntKind.u64 1 1 = 1 := by decide +kernel
      have hr0 : ((Sp.rest fr 0 : Nat) : Int) != 0 := by have := Sp.rest_0 fr HR.out.2; simp; omega
      go_wp2_with (first | (at_builtin; refine wpList_app _ rfl _ _ 23 rfl base 5 i0 (.int .u8 0) 1 1 Tryz.undB hi hz0 hz1 hz2 rfl (by decide) _ (0) (Sp.u8c ([])) rfl (HO.out.2.alloc _) ⟨w.heap.size, 0, none⟩ 3 3 (Sp.u8c [48, 120, 49]) rfl rfl (bytes_new w [48, 120, 49] rfl rfl) (u8c_one _) (by decide) (by unfold maxLen; omega) (by omega) (by have := hb; simp; omega) ?_; intro g1 p1 w1 hown hgrow hor; have HB1 : Hid (Below base w w1) := ((Below.refl base w).alloc hb _).grown hgrow (by have := hb; simp; omega) (fun q hq => own_ge HO.out.2 hq); have HN1 : Hid (Byts w1 base (some ⟨g1, 0, none⟩) (0 + 3) p1 ([] ++ [48, 120, 49])) := ⟨by rw [List.length_append, ← HO.out.1]; rfl, by rw [u8c_app]; exact hown⟩; have HZ1 : Hid (base ≤ w1.heap.size) := Nat.le_trans hb HB1.out.size; clear hown hgrow hor) | (at_builtin; refine wpList_app _ rfl _ _ 23 rfl base 5 i0 (.int .u8 0) 1 1 Tryz.undB hi hz0 hz1 hz2 rfl (by decide) _ (0 + 3) (Sp.u8c ([] ++ [48, 120, 49])) rfl (HN1.out.2.alloc _) ⟨w1.heap.size, 0, none⟩ 1 1 (Sp.u8c [46]) rfl rfl (bytes_new w1 [46] rfl rfl) (u8c_one _) (by decide) (by unfold maxLen; omega) (by omega) (by have := HZ1.out; simp; omega) ?_; intro g2 p2 w2 hown hgrow hor; have HB2 : Hid (Below base w w2) := (HB1.out.alloc HZ1.out _).grown hgrow (by have := HZ1.out; simp; omega) (fun q hq => own_ge HN1.out.2 hq); have HN2 : Hid (Byts w2 base (some ⟨g2, 0, none⟩) (0 + 3 + 1) p2 ([] ++ [48, 120, 49] ++ [46])) := ⟨by rw [List.length_append, ← HN1.out.1]; rfl, by rw [u8c_app]; exact hown⟩; have HZ2 : Hid (base ≤ w2.heap.size) := Nat.le_trans hb HB2.out.size; clear hown hgrow hor))
      clear hsh h60 hand' hn0 hr0 ha1
      go_loopw [0, 4] (fun u mv wr => ∃ (j : Nat) (a' : Option Addr) (p' : Nat), j ≤ 13 ∧ mv = .int .u64 ((Sp.rest fr j : Nat) : Int) ∧ u = .slice a' (4 + j) p' ∧ Hid ((j = 0 ∧ Sp.rest fr 0 ≠ 0) ∨ (1 ≤ j ∧ Sp.rest fr (j - 1) ≠ 0)) ∧ Hid (Byts wr base a' (4 + j) p' ([] ++ [48, 120, 49] ++ [46] ++ (Sp.hexN fr 13).take j)) ∧ Hid (Below base w wr)) (fun u _ _ => 20 - slen u)
      case atStart => exact ⟨0, _, p2, by omega, rfl, rfl, Or.inl ⟨rfl, (by have := Sp.rest_0 fr HR.out.2; omega)⟩, (by show Byts _ _ _ _ _ _; simpa using HN2.out), HB2⟩
      case round =>
        obtain ⟨j, a', p', hj, rfl, rfl, HJ, HN, HB⟩ := hrel
        have HZ : Hid (base ≤ wr.heap.size) := Nat.le_trans hb HB.out.size
        by_cases hx0 : Sp.rest fr j = 0
        · have HTR : Hid (Sp.trim (Sp.hexN fr 13) = (Sp.hexN fr 13).take j) := by
            rcases HJ.out with ⟨rfl, hh⟩ | ⟨h1, hh⟩
            · exact absurd hx0 hh
            · have := Sp.emit_trim (fr := fr) (j := j - 1) HR.out.2 (by rw [show j - 1 + 1 = j by omega]; exact hx0) hh (by omega)
              rw [show j - 1 + 1 = j by omega] at this
              exact this
          obtain ⟨L, HLE⟩ : ∃ L, Hid (L = [48, 120, 49] ++ Sp.fracT fr) := ⟨_, show _ = _ from rfl⟩
          have HN0 : Hid (Byts wr base a' (4 + j) p' L) := by
            show Byts _ _ _ _ _ _
            rw [HLE.out, Sp.fracT, if_neg hfr0, HTR.out]; exact HN.out
          obtain ⟨k, hk⟩ : ∃ k, 4 + j = k := ⟨_, rfl⟩
          rw [hk] at HN0
          have hk40 : k ≤ 40 := by omega
          have HB0 := HB
          have HZ0 := HZ
          rw [hx0, hk]
          clear hk hx0 HN HB HZ HTR HJ
          obtain ⟨X, HXE⟩ : ∃ X : Int, Hid (X = e - (c : Int)) := ⟨_, show _ = _ from rfl⟩
          have HRE : Hid (RES = L ++ [112] ++ Sp.expT X) := by show _ = _; rw [HRS.out, HLE.out, HXE.out]
          clear HLE
          by_cases hsg : e - (c : Int) < 0
          · obtain ⟨n, hn⟩ : ∃ n : Nat, e - (c : Int) = -(n : Int) := ⟨(e - (c : Int)).natAbs, by omega⟩
            have HNX : Hid (X.natAbs = n) := by show _ = _; have := HXE.out; omega
            have hn0 : 0 < n := by omega
            have hnI : -(n : Int) < 0 := by omega
            have hnM : n ≤ 1200 := by omega
            have HXE : Hid (X < 0) := by show _ < _; have := HXE.out; omega
            rw [hn]
            clear hn hsg
            by_cases hn100 : n < 100
            · obtain ⟨b0, HD0, hd0'⟩ := fig (n / 10) (by omega)
              have hd0 : (n : Int) / 10 + 48 = (b0.toNat : Int) := by omega
              clear hd0'
              obtain ⟨b1, HD1, hd1'⟩ := fig (n % 10) (by omega)
              have hd1 : (n : Int) % 10 + 48 = (b1.toNat : Int) := by omega
              clear hd1'
              have HE : Hid (Sp.expT X = 45 :: [b0, b1]) := by
                show _ = _
                unfold Sp.expT
                rw [HNX.out, if_pos (by have := HXE.out; omega), Sp.dec2 hn100, HD0.out, HD1.out]
              clear HNX HXE
              go_wp2_with (first | (go_at_call 102; refine (lower_x _).mono ?_; rintro e9 w9 ⟨rfl, rfl⟩) | (at_builtin; refine wpList_app _ rfl _ _ 23 rfl base 5 i0 (.int .u8 0) 1 1 Tryz.undB hi hz0 hz1 hz2 rfl (by decide) _ (k) (Sp.u8c (L)) rfl (HN0.out.2.alloc _) ⟨wr.heap.size, 0, none⟩ 1 1 (Sp.u8c [112]) rfl rfl (bytes_new wr [112] rfl rfl) (u8c_one _) (by decide) (by unfold maxLen; omega) (by omega) (by have := HZ0.out; simp; omega) ?_; intro g6 p6 w6 hown hgrow hor; have HB6 : Hid (Below base w w6) := (HB0.out.alloc HZ0.out _).grown hgrow (by have := HZ0.out; simp; omega) (fun q hq => own_ge HN0.out.2 hq); have HN6 : Hid (Byts w6 base (some ⟨g6, 0, none⟩) (k + 1) p6 (L ++ [112])) := ⟨by rw [List.length_append, ← HN0.out.1]; rfl, by rw [u8c_app]; exact hown⟩; have HZ6 : Hid (base ≤ w6.heap.size) := Nat.le_trans hb HB6.out.size; clear hown hgrow hor) | (at_builtin; refine wpList_app _ rfl _ _ 23 rfl base 5 i0 (.int .u8 0) 1 1 Tryz.undB hi hz0 hz1 hz2 rfl (by decide) _ (k + 1) (Sp.u8c (L ++ [112])) rfl (HN6.out.2.alloc _) ⟨w6.heap.size, 0, none⟩ 1 1 (Sp.u8c [45]) rfl rfl (bytes_new w6 [45] rfl rfl) (u8c_one _) (by decide) (by unfold maxLen; omega) (by omega) (by have := HZ6.out; simp; omega) ?_; intro g7 p7 w7 hown hgrow hor; have HB7 : Hid (Below base w w7) := (HB6.out.alloc HZ6.out _).grown hgrow (by have := HZ6.out; simp; omega) (fun q hq => own_ge HN6.out.2 hq); have HN7 : Hid (Byts w7 base (some ⟨g7, 0, none⟩) (k + 1 + 1) p7 (L ++ [112] ++ [45])) := ⟨by rw [List.length_append, ← HN6.out.1]; rfl, by rw [u8c_app]; exact hown⟩; have HZ7 : Hid (base ≤ w7.heap.size) := Nat.le_trans hb HB7.out.size; clear hown hgrow hor) | (at_builtin; refine wpList_app _ rfl _ _ 23 rfl base 5 i0 (.int .u8 0) 1 1 Tryz.undB hi hz0 hz1 hz2 rfl (by decide) _ (k + 1 + 1) (Sp.u8c (L ++ [112] ++ [45])) rfl (HN7.out.2.alloc _) ⟨w7.heap.size, 0, none⟩ 2 2 (Sp.u8c [b0, b1]) rfl rfl (bytes_new w7 [b0, b1] rfl rfl) (u8c_one _) (by decide) (by unfold maxLen; omega) (by omega) (by have := HZ7.out; simp; omega) ?_; intro g8 p8 w8 hown hgrow hor; have HB8 : Hid (Below base w w8) := (HB7.out.alloc HZ7.out _).grown hgrow (by have := HZ7.out; simp; omega) (fun q hq => own_ge HN7.out.2 hq); have HN8 : Hid (Byts w8 base (some ⟨g8, 0, none⟩) (k + 1 + 1 + 2) p8 (L ++ [112] ++ [45] ++ [b0, b1])) := ⟨by rw [List.length_append, ← HN7.out.1]; rfl, by rw [u8c_app]; exact hown⟩; have HZ8 : Hid (base ≤ w8.heap.size) := Nat.le_trans hb HB8.out.size; clear hown hgrow hor))
              go_ret
              have HR8 : Hid (L ++ [112] ++ [45] ++ [b0, b1] = RES) := by show _ = _; rw [HRE.out, HE.out]; simp
              have e8 : k + 1 + 1 + 2 = ([] : List UInt8).length + RES.length := by
                have := HN8.out.1
                rw [HR8.out] at this
                rw [this]; simp
              refine ⟨some ⟨g8, 0, none⟩, p8, ?_, ?_, HB8.out⟩
              · rw [← e8]; rfl
              · rw [← e8, List.nil_append, ← HR8.out]; exact HN8.out
            · by_cases hn1000 : n < 1000
              · obtain ⟨b0, HD0, hd0'⟩ := fig (n / 100) (by omega)
                have hd0 : (n : Int) / 100 + 48 = (b0.toNat : Int) := by omega
                clear hd0'
                obtain ⟨b1, HD1, hd1'⟩ := fig (n / 10 % 10) (by omega)
                have hd1 : (n : Int) / 10 % 10 + 48 = (b1.toNat : Int) := by omega
                clear hd1'
                obtain ⟨b2, HD2, hd2'⟩ := fig (n % 10) (by omega)
                have hd2 : (n : Int) % 10 + 48 = (b2.toNat : Int) := by omega
                clear hd2'
                have HE : Hid (Sp.expT X = 45 :: [b0, b1, b2]) := by
                  show _ = _
                  unfold Sp.expT
                  rw [HNX.out, if_pos (by have := HXE.out; omega), Sp.dec3 hn100 hn1000, HD0.out, HD1.out, HD2.out]
                clear HNX HXE
                go_wp2_with (first | (go_at_call 102; refine (lower_x _).mono ?_; rintro e9 w9 ⟨rfl, rfl⟩) | (at_builtin; refine wpList_app _ rfl _ _ 23 rfl base 5 i0 (.int .u8 0) 1 1 Tryz.undB hi hz0 hz1 hz2 rfl (by decide) _ (k) (Sp.u8c (L)) rfl (HN0.out.2.alloc _) ⟨wr.heap.size, 0, none⟩ 1 1 (Sp.u8c [112]) rfl rfl (bytes_new wr [112] rfl rfl) (u8c_one _) (by decide) (by unfold maxLen; omega) (by omega) (by have := HZ0.out; simp; omega) ?_; intro g6 p6 w6 hown hgrow hor; have HB6 : Hid (Below base w w6) := (HB0.out.alloc HZ0.out _).grown hgrow (by have := HZ0.out; simp; omega) (fun q hq => own_ge HN0.out.2 hq); have HN6 : Hid (Byts w6 base (some ⟨g6, 0, none⟩) (k + 1) p6 (L ++ [112])) := ⟨by rw [List.length_append, ← HN0.out.1]; rfl, by rw [u8c_app]; exact hown⟩; have HZ6 : Hid (base ≤ w6.heap.size) := Nat.le_trans hb HB6.out.size; clear hown hgrow hor) | (at_builtin; refine wpList_app _ rfl _ _ 23 rfl base 5 i0 (.int .u8 0) 1 1 Tryz.undB hi hz0 hz1 hz2 rfl (by decide) _ (k + 1) (Sp.u8c (L ++ [112])) rfl (HN6.out.2.alloc _) ⟨w6.heap.size, 0, none⟩ 1 1 (Sp.u8c [45]) rfl rfl (bytes_new w6 [45] rfl rfl) (u8c_one _) (by decide) (by unfold maxLen; omega) (by omega) (by have := HZ6.out; simp; omega) ?_; intro g7 p7 w7 hown hgrow hor; have HB7 : Hid (Below base w w7) := (HB6.out.alloc HZ6.out _).grown hgrow (by have := HZ6.out; simp; omega) (fun q hq => own_ge HN6.out.2 hq); have HN7 : Hid (Byts w7 base (some ⟨g7, 0, none⟩) (k + 1 + 1) p7 (L ++ [112] ++ [45])) := ⟨by rw [List.length_append, ← HN6.out.1]; rfl, by rw [u8c_app]; exact hown⟩; have HZ7 : Hid (base ≤ w7.heap.size) := Nat.le_trans hb HB7.out.size; clear hown hgrow hor) | (at_builtin; refine wpList_app _ rfl _ _ 23 rfl base 5 i0 (.int .u8 0) 1 1 Tryz.undB hi hz0 hz1 hz2 rfl (by decide) _ (k + 1 + 1) (Sp.u8c (L ++ [112] ++ [45])) rfl (HN7.out.2.alloc _) ⟨w7.heap.size, 0, none⟩ 3 3 (Sp.u8c [b0, b1, b2]) rfl rfl (bytes_new w7 [b0, b1, b2] rfl rfl) (u8c_one _) (by decide) (by unfold maxLen; omega) (by omega) (by have := HZ7.out; simp; omega) ?_; intro g8 p8 w8 hown hgrow hor; have HB8 : Hid (Below base w w8) := (HB7.out.alloc HZ7.out _).grown hgrow (by have := HZ7.out; simp; omega) (fun q hq => own_ge HN7.out.2 hq); have HN8 : Hid (Byts w8 base (some ⟨g8, 0, none⟩) (k + 1 + 1 + 3) p8 (L ++ [112] ++ [45] ++ [b0, b1, b2])) := ⟨by rw [List.length_append, ← HN7.out.1]; rfl, by rw [u8c_app]; exact hown⟩; have HZ8 : Hid (base ≤ w8.heap.size) := Nat.le_trans hb HB8.out.size; clear hown hgrow hor))
                go_ret
                have HR8 : Hid (L ++ [112] ++ [45] ++ [b0, b1, b2] = RES) := by show _ = _; rw [HRE.out, HE.out]; simp
                have e8 : k + 1 + 1 + 3 = ([] : List UInt8).length + RES.length := by
                  have := HN8.out.1
                  rw [HR8.out] at this
                  rw [this]; simp
                refine ⟨some ⟨g8, 0, none⟩, p8, ?_, ?_, HB8.out⟩
                · rw [← e8]; rfl
                · rw [← e8, List.nil_append, ← HR8.out]; exact HN8.out
              · obtain ⟨b0, HD0, hd0'⟩ := fig (n / 1000) (by omega)
                have hd0 : (n : Int) / 1000 + 48 = (b0.toNat : Int) := by omega
                clear hd0'
                obtain ⟨b1, HD1, hd1'⟩ := fig (n / 100 % 10) (by omega)
                have hd1 : (n : Int) / 100 % 10 + 48 = (b1.toNat : Int) := by omega
                clear hd1'
                obtain ⟨b2, HD2, hd2'⟩ := fig (n / 10 % 10) (by omega)
                have hd2 : (n : Int) / 10 % 10 + 48 = (b2.toNat : Int) := by omega
                clear hd2'
                obtain ⟨b3, HD3, hd3'⟩ := fig (n % 10) (by omega)
                have hd3 : (n : Int) % 10 + 48 = (b3.toNat : Int) := by omega
                clear hd3'
                have HE : Hid (Sp.expT X = 45 :: [b0, b1, b2, b3]) := by
                  show _ = _
                  unfold Sp.expT
                  rw [HNX.out, if_pos (by have := HXE.out; omega), Sp.dec4 hn1000 (by omega), HD0.out, HD1.out, HD2.out, HD3.out]
                clear HNX HXE
                go_wp2_with (first | (go_at_call 102; refine (lower_x _).mono ?_; rintro e9 w9 ⟨rfl, rfl⟩) | (at_builtin; refine wpList_app _ rfl _ _ 23 rfl base 5 i0 (.int .u8 0) 1 1 Tryz.undB hi hz0 hz1 hz2 rfl (by decide) _ (k) (Sp.u8c (L)) rfl (HN0.out.2.alloc _) ⟨wr.heap.size, 0, none⟩ 1 1 (Sp.u8c [112]) rfl rfl (bytes_new wr [112] rfl rfl) (u8c_one _) (by decide) (by unfold maxLen; omega) (by omega) (by have := HZ0.out; simp; omega) ?_; intro g6 p6 w6 hown hgrow hor; have HB6 : Hid (Below base w w6) := (HB0.out.alloc HZ0.out _).grown hgrow (by have := HZ0.out; simp; omega) (fun q hq => own_ge HN0.out.2 hq); have HN6 : Hid (Byts w6 base (some ⟨g6, 0, none⟩) (k + 1) p6 (L ++ [112])) := ⟨by rw [List.length_append, ← HN0.out.1]; rfl, by rw [u8c_app]; exact hown⟩; have HZ6 : Hid (base ≤ w6.heap.size) := Nat.le_trans hb HB6.out.size; clear hown hgrow hor) | (at_builtin; refine wpList_app _ rfl _ _ 23 rfl base 5 i0 (.int .u8 0) 1 1 Tryz.undB hi hz0 hz1 hz2 rfl (by decide) _ (k + 1) (Sp.u8c (L ++ [112])) rfl (HN6.out.2.alloc _) ⟨w6.heap.size, 0, none⟩ 1 1 (Sp.u8c [45]) rfl rfl (bytes_new w6 [45] rfl rfl) (u8c_one _) (by decide) (by unfold maxLen; omega) (by omega) (by have := HZ6.out; simp; omega) ?_; intro g7 p7 w7 hown hgrow hor; have HB7 : Hid (Below base w w7) := (HB6.out.alloc HZ6.out _).grown hgrow (by have := HZ6.out; simp; omega) (fun q hq => own_ge HN6.out.2 hq); have HN7 : Hid (Byts w7 base (some ⟨g7, 0, none⟩) (k + 1 + 1) p7 (L ++ [112] ++ [45])) := ⟨by rw [List.length_append, ← HN6.out.1]; rfl, by rw [u8c_app]; exact hown⟩; have HZ7 : Hid (base ≤ w7.heap.size) := Nat.le_trans hb HB7.out.size; clear hown hgrow hor) | (at_builtin; refine wpList_app _ rfl _ _ 23 rfl base 5 i0 (.int .u8 0) 1 1 Tryz.undB hi hz0 hz1 hz2 rfl (by decide) _ (k + 1 + 1) (Sp.u8c (L ++ [112] ++ [45])) rfl (HN7.out.2.alloc _) ⟨w7.heap.size, 0, none⟩ 4 4 (Sp.u8c [b0, b1, b2, b3]) rfl rfl (bytes_new w7 [b0, b1, b2, b3] rfl rfl) (u8c_one _) (by decide) (by unfold maxLen; omega) (by omega) (by have := HZ7.out; simp; omega) ?_; intro g8 p8 w8 hown hgrow hor; have HB8 : Hid (Below base w w8) := (HB7.out.alloc HZ7.out _).grown hgrow (by have := HZ7.out; simp; omega) (fun q hq => own_ge HN7.out.2 hq); have HN8 : Hid (Byts w8 base (some ⟨g8, 0, none⟩) (k + 1 + 1 + 4) p8 (L ++ [112] ++ [45] ++ [b0, b1, b2, b3])) := ⟨by rw [List.length_append, ← HN7.out.1]; rfl, by rw [u8c_app]; exact hown⟩; have HZ8 : Hid (base ≤ w8.heap.size) := Nat.le_trans hb HB8.out.size; clear hown hgrow hor))
                go_ret
                have HR8 : Hid (L ++ [112] ++ [45] ++ [b0, b1, b2, b3] = RES) := by show _ = _; rw [HRE.out, HE.out]; simp
                have e8 : k + 1 + 1 + 4 = ([] : List UInt8).length + RES.length := by
                  have := HN8.out.1
                  rw [HR8.out] at this
                  rw [this]; simp
                refine ⟨some ⟨g8, 0, none⟩, p8, ?_, ?_, HB8.out⟩
                · rw [← e8]; rfl
                · rw [← e8, List.nil_append, ← HR8.out]; exact HN8.out
          · obtain ⟨n, hn⟩ : ∃ n : Nat, e - (c : Int) = (n : Int) := ⟨(e - (c : Int)).natAbs, by omega⟩
            have HNX : Hid (X.natAbs = n) := by show _ = _; have := HXE.out; omega
            have hnM : n ≤ 1200 := by omega
            have HXE : Hid (¬ X < 0) := by show ¬ _; have := HXE.out; omega
            rw [hn]
            clear hn hsg
            by_cases hn100 : n < 100
            · obtain ⟨b0, HD0, hd0'⟩ := fig (n / 10) (by omega)
              have hd0 : (n : Int) / 10 + 48 = (b0.toNat : Int) := by omega
              clear hd0'
              obtain ⟨b1, HD1, hd1'⟩ := fig (n % 10) (by omega)
              have hd1 : (n : Int) % 10 + 48 = (b1.toNat : Int) := by omega
              clear hd1'
              have HE : Hid (Sp.expT X = 43 :: [b0, b1]) := by
                show _ = _
                unfold Sp.expT
                rw [HNX.out, if_neg (by have := HXE.out; omega), Sp.dec2 hn100, HD0.out, HD1.out]
              clear HNX HXE
              go_wp2_with (first | (go_at_call 102; refine (lower_x _).mono ?_; rintro e9 w9 ⟨rfl, rfl⟩) | (at_builtin; refine wpList_app _ rfl _ _ 23 rfl base 5 i0 (.int .u8 0) 1 1 Tryz.undB hi hz0 hz1 hz2 rfl (by decide) _ (k) (Sp.u8c (L)) rfl (HN0.out.2.alloc _) ⟨wr.heap.size, 0, none⟩ 1 1 (Sp.u8c [112]) rfl rfl (bytes_new wr [112] rfl rfl) (u8c_one _) (by decide) (by unfold maxLen; omega) (by omega) (by have := HZ0.out; simp; omega) ?_; intro g6 p6 w6 hown hgrow hor; have HB6 : Hid (Below base w w6) := (HB0.out.alloc HZ0.out _).grown hgrow (by have := HZ0.out; simp; omega) (fun q hq => own_ge HN0.out.2 hq); have HN6 : Hid (Byts w6 base (some ⟨g6, 0, none⟩) (k + 1) p6 (L ++ [112])) := ⟨by rw [List.length_append, ← HN0.out.1]; rfl, by rw [u8c_app]; exact hown⟩; have HZ6 : Hid (base ≤ w6.heap.size) := Nat.le_trans hb HB6.out.size; clear hown hgrow hor) | (at_builtin; refine wpList_app _ rfl _ _ 23 rfl base 5 i0 (.int .u8 0) 1 1 Tryz.undB hi hz0 hz1 hz2 rfl (by decide) _ (k + 1) (Sp.u8c (L ++ [112])) rfl (HN6.out.2.alloc _) ⟨w6.heap.size, 0, none⟩ 1 1 (Sp.u8c [43]) rfl rfl (bytes_new w6 [43] rfl rfl) (u8c_one _) (by decide) (by unfold maxLen; omega) (by omega) (by have := HZ6.out; simp; omega) ?_; intro g7 p7 w7 hown hgrow hor; have HB7 : Hid (Below base w w7) := (HB6.out.alloc HZ6.out _).grown hgrow (by have := HZ6.out; simp; omega) (fun q hq => own_ge HN6.out.2 hq); have HN7 : Hid (Byts w7 base (some ⟨g7, 0, none⟩) (k + 1 + 1) p7 (L ++ [112] ++ [43])) := ⟨by rw [List.length_append, ← HN6.out.1]; rfl, by rw [u8c_app]; exact hown⟩; have HZ7 : Hid (base ≤ w7.heap.size) := Nat.le_trans hb HB7.out.size; clear hown hgrow hor) | (at_builtin; refine wpList_app _ rfl _ _ 23 rfl base 5 i0 (.int .u8 0) 1 1 Tryz.undB hi hz0 hz1 hz2 rfl (by decide) _ (k + 1 + 1) (Sp.u8c (L ++ [112] ++ [43])) rfl (HN7.out.2.alloc _) ⟨w7.heap.size, 0, none⟩ 2 2 (Sp.u8c [b0, b1]) rfl rfl (bytes_new w7 [b0, b1] rfl rfl) (u8c_one _) (by decide) (by unfold maxLen; omega) (by omega) (by have := HZ7.out; simp; omega) ?_; intro g8 p8 w8 hown hgrow hor; have HB8 : Hid (Below base w w8) := (HB7.out.alloc HZ7.out _).grown hgrow (by have := HZ7.out; simp; omega) (fun q hq => own_ge HN7.out.2 hq); have HN8 : Hid (Byts w8 base (some ⟨g8, 0, none⟩) (k + 1 + 1 + 2) p8 (L ++ [112] ++ [43] ++ [b0, b1])) := ⟨by rw [List.length_append, ← HN7.out.1]; rfl, by rw [u8c_app]; exact hown⟩; have HZ8 : Hid (base ≤ w8.heap.size) := Nat.le_trans hb HB8.out.size; clear hown hgrow hor))
              go_ret
              have HR8 : Hid (L ++ [112] ++ [43] ++ [b0, b1] = RES) := by show _ = _; rw [HRE.out, HE.out]; simp
              have e8 : k + 1 + 1 + 2 = ([] : List UInt8).length + RES.length := by
                have := HN8.out.1
                rw [HR8.out] at this
                rw [this]; simp
              refine ⟨some ⟨g8, 0, none⟩, p8, ?_, ?_, HB8.out⟩
              · rw [← e8]; rfl
              · rw [← e8, List.nil_append, ← HR8.out]; exact HN8.out
            · by_cases hn1000 : n < 1000
              · obtain ⟨b0, HD0, hd0'⟩ := fig (n / 100) (by omega)
                have hd0 : (n : Int) / 100 + 48 = (b0.toNat : Int) := by omega
                clear hd0'
                obtain ⟨b1, HD1, hd1'⟩ := fig (n / 10 % 10) (by omega)
                have hd1 : (n : Int) / 10 % 10 + 48 = (b1.toNat : Int) := by omega
                clear hd1'
                obtain ⟨b2, HD2, hd2'⟩ := fig (n % 10) (by omega)
                have hd2 : (n : Int) % 10 + 48 = (b2.toNat : Int) := by omega
                clear hd2'
                have HE : Hid (Sp.expT X = 43 :: [b0, b1, b2]) := by
                  show _ = _
                  unfold Sp.expT
                  rw [HNX.out, if_neg (by have := HXE.out; omega), Sp.dec3 hn100 hn1000, HD0.out, HD1.out, HD2.out]
                clear HNX HXE
                go_wp2_with (first | (go_at_call 102; refine (lower_x _).mono ?_; rintro e9 w9 ⟨rfl, rfl⟩) | (at_builtin; refine wpList_app _ rfl _ _ 23 rfl base 5 i0 (.int .u8 0) 1 1 Tryz.undB hi hz0 hz1 hz2 rfl (by decide) _ (k) (Sp.u8c (L)) rfl (HN0.out.2.alloc _) ⟨wr.heap.size, 0, none⟩ 1 1 (Sp.u8c [112]) rfl rfl (bytes_new wr [112] rfl rfl) (u8c_one _) (by decide) (by unfold maxLen; omega) (by omega) (by have := HZ0.out; simp; omega) ?_; intro g6 p6 w6 hown hgrow hor; have HB6 : Hid (Below base w w6) := (HB0.out.alloc HZ0.out _).grown hgrow (by have := HZ0.out; simp; omega) (fun q hq => own_ge HN0.out.2 hq); have HN6 : Hid (Byts w6 base (some ⟨g6, 0, none⟩) (k + 1) p6 (L ++ [112])) := ⟨by rw [List.length_append, ← HN0.out.1]; rfl, by rw [u8c_app]; exact hown⟩; have HZ6 : Hid (base ≤ w6.heap.size) := Nat.le_trans hb HB6.out.size; clear hown hgrow hor) | (at_builtin; refine wpList_app _ rfl _ _ 23 rfl base 5 i0 (.int .u8 0) 1 1 Tryz.undB hi hz0 hz1 hz2 rfl (by decide) _ (k + 1) (Sp.u8c (L ++ [112])) rfl (HN6.out.2.alloc _) ⟨w6.heap.size, 0, none⟩ 1 1 (Sp.u8c [43]) rfl rfl (bytes_new w6 [43] rfl rfl) (u8c_one _) (by decide) (by unfold maxLen; omega) (by omega) (by have := HZ6.out; simp; omega) ?_; intro g7 p7 w7 hown hgrow hor; have HB7 : Hid (Below base w w7) := (HB6.out.alloc HZ6.out _).grown hgrow (by have := HZ6.out; simp; omega) (fun q hq => own_ge HN6.out.2 hq); have HN7 : Hid (Byts w7 base (some ⟨g7, 0, none⟩) (k + 1 + 1) p7 (L ++ [112] ++ [43])) := ⟨by rw [List.length_append, ← HN6.out.1]; rfl, by rw [u8c_app]; exact hown⟩; have HZ7 : Hid (base ≤ w7.heap.size) := Nat.le_trans hb HB7.out.size; clear hown hgrow hor) | (at_builtin; refine wpList_app _ rfl _ _ 23 rfl base 5 i0 (.int .u8 0) 1 1 Tryz.undB hi hz0 hz1 hz2 rfl (by decide) _ (k + 1 + 1) (Sp.u8c (L ++ [112] ++ [43])) rfl (HN7.out.2.alloc _) ⟨w7.heap.size, 0, none⟩ 3 3 (Sp.u8c [b0, b1, b2]) rfl rfl (bytes_new w7 [b0, b1, b2] rfl rfl) (u8c_one _) (by decide) (by unfold maxLen; omega) (by omega) (by have := HZ7.out; simp; omega) ?_; intro g8 p8 w8 hown hgrow hor; have HB8 : Hid (Below base w w8) := (HB7.out.alloc HZ7.out _).grown hgrow (by have := HZ7.out; simp; omega) (fun q hq => own_ge HN7.out.2 hq); have HN8 : Hid (Byts w8 base (some ⟨g8, 0, none⟩) (k + 1 + 1 + 3) p8 (L ++ [112] ++ [43] ++ [b0, b1, b2])) := ⟨by rw [List.length_append, ← HN7.out.1]; rfl, by rw [u8c_app]; exact hown⟩; have HZ8 : Hid (base ≤ w8.heap.size) := Nat.le_trans hb HB8.out.size; clear hown hgrow hor))
                go_ret
                have HR8 : Hid (L ++ [112] ++ [43] ++ [b0, b1, b2] = RES) := by show _ = _; rw [HRE.out, HE.out]; simp
                have e8 : k + 1 + 1 + 3 = ([] : List UInt8).length + RES.length := by
                  have := HN8.out.1
                  rw [HR8.out] at this
                  rw [this]; simp
                refine ⟨some ⟨g8, 0, none⟩, p8, ?_, ?_, HB8.out⟩
                · rw [← e8]; rfl
                · rw [← e8, List.nil_append, ← HR8.out]; exact HN8.out
              · obtain ⟨b0, HD0, hd0'⟩ := fig (n / 1000) (by omega)
                have hd0 : (n : Int) / 1000 + 48 = (b0.toNat : Int) := by omega
                clear hd0'
                obtain ⟨b1, HD1, hd1'⟩ := fig (n / 100 % 10) (by omega)
                have hd1 : (n : Int) / 100 % 10 + 48 = (b1.toNat : Int) := by omega
                clear hd1'
                obtain ⟨b2, HD2, hd2'⟩ := fig (n / 10 % 10) (by omega)
                have hd2 : (n : Int) / 10 % 10 + 48 = (b2.toNat : Int) := by omega
                clear hd2'
                obtain ⟨b3, HD3, hd3'⟩ := fig (n % 10) (by omega)
                have hd3 : (n : Int) % 10 + 48 = (b3.toNat : Int) := by omega
                clear hd3'
                have HE : Hid (Sp.expT X = 43 :: [b0, b1, b2, b3]) := by
                  show _ = _
                  unfold Sp.expT
                  rw [HNX.out, if_neg (by have := HXE.out; omega), Sp.dec4 hn1000 (by omega), HD0.out, HD1.out, HD2.out, HD3.out]
                clear HNX HXE
                go_wp2_with (first | (go_at_call 102; refine (lower_x _).mono ?_; rintro e9 w9 ⟨rfl, rfl⟩) | (at_builtin; refine wpList_app _ rfl _ _ 23 rfl base 5 i0 (.int .u8 0) 1 1 Tryz.undB hi hz0 hz1 hz2 rfl (by decide) _ (k) (Sp.u8c (L)) rfl (HN0.out.2.alloc _) ⟨wr.heap.size, 0, none⟩ 1 1 (Sp.u8c [112]) rfl rfl (bytes_new wr [112] rfl rfl) (u8c_one _) (by decide) (by unfold maxLen; omega) (by omega) (by have := HZ0.out; simp; omega) ?_; intro g6 p6 w6 hown hgrow hor; have HB6 : Hid (Below base w w6) := (HB0.out.alloc HZ0.out _).grown hgrow (by have := HZ0.out; simp; omega) (fun q hq => own_ge HN0.out.2 hq); have HN6 : Hid (Byts w6 base (some ⟨g6, 0, none⟩) (k + 1) p6 (L ++ [112])) := ⟨by rw [List.length_append, ← HN0.out.1]; rfl, by rw [u8c_app]; exact hown⟩; have HZ6 : Hid (base ≤ w6.heap.size) := Nat.le_trans hb HB6.out.size; clear hown hgrow hor) | (at_builtin; refine wpList_app _ rfl _ _ 23 rfl base 5 i0 (.int .u8 0) 1 1 Tryz.undB hi hz0 hz1 hz2 rfl (by decide) _ (k + 1) (Sp.u8c (L ++ [112])) rfl (HN6.out.2.alloc _) ⟨w6.heap.size, 0, none⟩ 1 1 (Sp.u8c [43]) rfl rfl (bytes_new w6 [43] rfl rfl) (u8c_one _) (by decide) (by unfold maxLen; omega) (by omega) (by have := HZ6.out; simp; omega) ?_; intro g7 p7 w7 hown hgrow hor; have HB7 : Hid (Below base w w7) := (HB6.out.alloc HZ6.out _).grown hgrow (by have := HZ6.out; simp; omega) (fun q hq => own_ge HN6.out.2 hq); have HN7 : Hid (Byts w7 base (some ⟨g7, 0, none⟩) (k + 1 + 1) p7 (L ++ [112] ++ [43])) := ⟨by rw [List.length_append, ← HN6.out.1]; rfl, by rw [u8c_app]; exact hown⟩; have HZ7 : Hid (base ≤ w7.heap.size) := Nat.le_trans hb HB7.out.size; clear hown hgrow hor) | (at_builtin; refine wpList_app _ rfl _ _ 23 rfl base 5 i0 (.int .u8 0) 1 1 Tryz.undB hi hz0 hz1 hz2 rfl (by decide) _ (k + 1 + 1) (Sp.u8c (L ++ [112] ++ [43])) rfl (HN7.out.2.alloc _) ⟨w7.heap.size, 0, none⟩ 4 4 (Sp.u8c [b0, b1, b2, b3]) rfl rfl (bytes_new w7 [b0, b1, b2, b3] rfl rfl) (u8c_one _) (by decide) (by unfold maxLen; omega) (by omega) (by have := HZ7.out; simp; omega) ?_; intro g8 p8 w8 hown hgrow hor; have HB8 : Hid (Below base w w8) := (HB7.out.alloc HZ7.out _).grown hgrow (by have := HZ7.out; simp; omega) (fun q hq => own_ge HN7.out.2 hq); have HN8 : Hid (Byts w8 base (some ⟨g8, 0, none⟩) (k + 1 + 1 + 4) p8 (L ++ [112] ++ [43] ++ [b0, b1, b2, b3])) := ⟨by rw [List.length_append, ← HN7.out.1]; rfl, by rw [u8c_app]; exact hown⟩; have HZ8 : Hid (base ≤ w8.heap.size) := Nat.le_trans hb HB8.out.size; clear hown hgrow hor))
                go_ret
                have HR8 : Hid (L ++ [112] ++ [43] ++ [b0, b1, b2, b3] = RES) := by show _ = _; rw [HRE.out, HE.out]; simp
                have e8 : k + 1 + 1 + 4 = ([] : List UInt8).length + RES.length := by
                  have := HN8.out.1
                  rw [HR8.out] at this
                  rw [this]; simp
                refine ⟨some ⟨g8, 0, none⟩, p8, ?_, ?_, HB8.out⟩
                · rw [← e8]; rfl
                · rw [← e8, List.nil_append, ← HR8.out]; exact HN8.out
        · have hj13 := Sp.rest_13 hx0 hj
          have HX : Hid ((Sp.hexN fr 13).take (j + 1) = (Sp.hexN fr 13).take j ++ [Sp.hexd (fr / 16 ^ (12 - j) % 16)]) := Sp.hexN_take hj13
          have hst := Sp.emit_step fr j HR.out.2 hj13
          have hnx := Sp.emit_next fr j
          have hrl := Sp.rest_lt fr j
          have HJ2 : Hid ((j + 1 = 0 ∧ Sp.rest fr 0 ≠ 0) ∨ (1 ≤ j + 1 ∧ Sp.rest fr (j + 1 - 1) ≠ 0)) := Or.inr ⟨by omega, hx0⟩
          change Sp.rest fr j / 1152921504606846976 = _ at hst
          change Sp.rest fr j * 16 % 18446744073709551616 = Sp.rest fr (j + 1) at hnx
          obtain ⟨d, hd⟩ : ∃ d, fr / 16 ^ (12 - j) % 16 = d := ⟨_, rfl⟩
          have hd16 : d < 16 := by rw [← hd]; exact Nat.mod_lt _ (by decide)
          rw [hd] at hst HX
          obtain ⟨x, hxx⟩ : ∃ x : Int, ((Sp.rest fr j : Nat) : Int) = x := ⟨_, rfl⟩
          have hw : IntKind.u64.wrap (x * 16) = ((Sp.rest fr (j + 1) : Nat) : Int) := by rw [IntKind.wrap_u64, ← hxx, ← hnx]; omega
          have hsr : x / 1152921504606846976 = (d : Int) := by rw [← hxx, ← hst]; omega
          have hix := idx_hex .u64 (bits .and .u64 (d : Int) 15) d (and15w ⟨d, hd16⟩) hd16
          have hxn : (x != 0) = true := by simp; omega
          rw [hxx]
          generalize Sp.hexd d = v at hix HX
          obtain ⟨y, HY⟩ : ∃ y, Hid (Sp.rest fr (j + 1) = y) := ⟨_, show _ = _ from rfl⟩
          rw [HY.out] at hw hnx
          clear hst hnx hrl hxx hx0 hd
          go_wp2_with (at_builtin; refine wpList_app _ rfl _ _ 23 rfl base 5 i0 (.int .u8 0) 1 1 Tryz.undB hi hz0 hz1 hz2 rfl (by decide) _ (4 + j) (Sp.u8c ([] ++ [48, 120, 49] ++ [46] ++ (Sp.hexN fr 13).take j)) rfl (HN.out.2.alloc _) ⟨wr.heap.size, 0, none⟩ 1 1 (Sp.u8c [v]) rfl rfl (bytes_new wr [v] rfl rfl) (u8c_one _) (by decide) (by unfold maxLen; omega) (by omega) (by have := HZ.out; simp; omega) ?_; intro g5 p5 w5 hown hgrow hor; have HB5 : Hid (Below base w w5) := (HB.out.alloc HZ.out _).grown hgrow (by have := HZ.out; simp; omega) (fun q hq => own_ge HN.out.2 hq); have HN5 : Hid (Byts w5 base (some ⟨g5, 0, none⟩) (4 + j + 1) p5 ([] ++ [48, 120, 49] ++ [46] ++ (Sp.hexN fr 13).take j ++ [v])) := ⟨by rw [List.length_append, ← HN.out.1]; rfl, by rw [u8c_app]; exact hown⟩; have HZ5 : Hid (base ≤ w5.heap.size) := Nat.le_trans hb HB5.out.size; clear hown hgrow hor)
          refine ⟨⟨j + 1, some ⟨g5, 0, none⟩, p5, by omega, by rw [HY.out], by rw [show 4 + (j + 1) = 4 + j + 1 by omega], HJ2, ?_, HB5⟩, ?_⟩
          · show Byts _ _ _ _ _ _
            rw [HX.out, ← List.append_assoc, show 4 + (j + 1) = 4 + j + 1 by omega]; exact HN5.out
          · show 20 - (4 + j + 1) < 20 - (4 + j)
            omega
end Go.Proofs.YtnndlffidifddaaGreatDoor

/- internal/strconv.fmtX: one of its cases. -/
namespace Go.Proofs.YtnndlffidifddaaGreatDoor
open Go.RowKit

set_option maxRecDepth 100000 in
set_option maxHeartbeats 2000000 in
theorem fmtX_fm (m p fr : Nat) (e : Int) (a : Option Addr) (cap base : Nat) (w : World) (h : Byts w base a 0 cap []) (hb : base ≤ w.heap.size) (hm : m < 9007199254740992) (hm0 : m ≠ 0) (he0 : -1100 ≤ e) (he1 : e ≤ 1100)
    (hp : p ≤ 52) (hr : m * 2 ^ p = 4503599627370496 + fr) (hfr : fr < 4503599627370496) (hfr0 : fr ≠ 0) (hlow : ∀ c, c < p → m * 2 ^ c < 4503599627370496) (RES : List UInt8) (hres : RES = [45, 48, 120, 49] ++ Sp.fracT fr ++ [112] ++ Sp.expT (e - (p : Int))) :
    Calls Tryz.prog 87 #[.slice a 0 cap, .int .i64 (-1), .int .u8 120, .bool true, .int .u64 (m : Int), .int .i64 e, .int .i64 52] w (AppE base [] RES w) := by
  obtain ⟨i0, hi, hz0, hz1, hz2⟩ := info_parts Tryz.infoB
  have HO : Hid (Byts w base a 0 cap []) := h
  have HR : Hid (m * 2 ^ p = 4503599627370496 + fr ∧ fr < 4503599627370496) := ⟨hr, hfr⟩
  have HLW : Hid (∀ c, c < p → m * 2 ^ c < 4503599627370496) := hlow
  have HPW : Hid (∀ c, m * 2 ^ (c + 1) = m * 2 ^ c * 2) := fun c => by rw [Nat.pow_succ, Nat.mul_assoc]
  have HRS : Hid (RES = [45, 48, 120, 49] ++ Sp.fracT fr ++ [112] ++ Sp.expT (e - (p : Int))) := hres
  clear h hr hfr hlow hres
  have d0 : ((m : Int) == 0) = false := by simp; omega
  have HMM : Hid (0 < m) := by show 0 < m; omega
  clear hm0
  go_enter Tryz.func87, Tryz.ntmps87
  go_wp2_with fail
  clear hm d0
  go_loopw [4, 5] (fun mv ev wr => ∃ c : Nat, c ≤ p ∧ ev = .int .i64 (e - (c : Int)) ∧ mv = .int .u64 ((m * 2 ^ c : Nat) * 256 : Int) ∧ w = wr) (fun _ ev _ => (intOf ev + 2000).toNat)
  case atStart => exact ⟨0, by omega, (by rw [show e - ((0 : Nat) : Int) = e by omega]), (by rw [Nat.pow_zero, Nat.mul_one]), rfl⟩
  case round =>
    obtain ⟨c, hc, rfl, rfl, rfl⟩ := hrel
    have hq0 : 0 < m * 2 ^ c := Nat.mul_pos HMM.out (Nat.two_pow_pos _)
    by_cases hlt : c < p
    · have hq := HLW.out c hlt
      have hnx := HPW.out c
      have HLT : Hid (c + 1 ≤ p) := hlt
      generalize m * 2 ^ c = q0 at hq hnx hq0 ⊢
      have hand := and60 (q0 * 256) (by omega)
      rw [if_neg (by omega)] at hand
      obtain ⟨q, hqq⟩ : ∃ q : Int, (q0 : Int) * 256 = q := ⟨_, rfl⟩
      have hand' : bits BinOp.and IntKind.u64 q 1152921504606846976 = 0 := by rw [← hqq, ← hand]; congr 1
      rw [hqq]
      have HNX : Hid (((m * 2 ^ (c + 1) : Nat) : Int) * 256 = q * 2) := by show _ = _; rw [hnx]; omega
      have hn0 : (q != 0) = true := by simp; omega
      have hqI : q < 1152921504606846976 := by omega
      have hqJ : 0 ≤ q := by omega
      have hc52 : (c : Int) ≤ 52 := by omega
      clear hand hnx hq hlt hc hqq hq0 hp
      go_wp2_with fail
      refine ⟨⟨c + 1, HLT.out, ?_, ?_, trivial⟩, ?_⟩
      · exact congrArg (Value.int .i64) (by omega)
      · rw [HNX.out]
      · simp [intOf]; omega
    · obtain rfl : c = p := by omega
      have hq := HR.out.1
      have hfr := HR.out.2
      generalize m * 2 ^ c = q0 at hq hq0 ⊢
      have hand := and60 (q0 * 256) (by omega)
      rw [if_pos (by omega)] at hand
      obtain ⟨q, hqq⟩ : ∃ q : Int, (q0 : Int) * 256 = q := ⟨_, rfl⟩
      have hand' : bits BinOp.and IntKind.u64 q 1152921504606846976 = 1152921504606846976 := by rw [← hqq, ← hand]; congr 1
      rw [hqq]
      have hn0 : (q != 0) = true := by simp; omega
      have h60 : q / 1152921504606846976 = 1 := by omega
      have hsh : IntKind.u64.wrap (q * 16) = ((Sp.rest fr 0 : Nat) : Int) := by rw [IntKind.wrap_u64, Sp.rest_0 fr hfr]; omega
      have hc52 : (c : Int) ≤ 52 := by omega
      clear hand hq hlt hc hqq hq0 hp hfr
      have ha1 : bits BinOp.and IntKind.u64 1 1 = 1 := by decide +kernel
      have hr0 : ((Sp.rest fr 0 : Nat) : Int) != 0 := by have := Sp.rest_0 fr HR.out.2; simp; omega
      go_wp2_with (first | (at_builtin; refine wpList_app _ rfl _ _ 23 rfl base 5 i0 (.int .u8 0) 1 1 Tryz.undB hi hz0 hz1 hz2 rfl (by decide) _ (0) (Sp.u8c ([])) rfl (HO.out.2.alloc _) ⟨w.heap.size, 0, none⟩ 1 1 (Sp.u8c [45]) rfl rfl (bytes_new w [45] rfl rfl) (u8c_one _) (by decide) (by unfold maxLen; omega) (by omega) (by have := hb; simp; omega) ?_; intro g3 p3 w3 hown hgrow hor; have HB3 : Hid (Below base w w3) := ((Below.refl base w).alloc hb _).grown hgrow (by have := hb; simp; omega) (fun q hq => own_ge HO.out.2 hq); have HN3 : Hid (Byts w3 base (some ⟨g3, 0, none⟩) (0 + 1) p3 ([] ++ [45])) := ⟨by rw [List.length_append, ← HO.out.1]; rfl, by rw [u8c_app]; exact hown⟩; have HZ3 : Hid (base ≤ w3.heap.size) := Nat.le_trans hb HB3.out.size; clear hown hgrow hor) | (at_builtin; refine wpList_app _ rfl _ _ 23 rfl base 5 i0 (.int .u8 0) 1 1 Tryz.undB hi hz0 hz1 hz2 rfl (by decide) _ (0 + 1) (Sp.u8c ([] ++ [45])) rfl (HN3.out.2.alloc _) ⟨w3.heap.size, 0, none⟩ 3 3 (Sp.u8c [48, 120, 49]) rfl rfl (bytes_new w3 [48, 120, 49] rfl rfl) (u8c_one _) (by decide) (by unfold maxLen; omega) (by omega) (by have := HZ3.out; simp; omega) ?_; intro g1 p1 w1 hown hgrow hor; have HB1 : Hid (Below base w w1) := (HB3.out.alloc HZ3.out _).grown hgrow (by have := HZ3.out; simp; omega) (fun q hq => own_ge HN3.out.2 hq); have HN1 : Hid (Byts w1 base (some ⟨g1, 0, none⟩) (0 + 1 + 3) p1 ([] ++ [45] ++ [48, 120, 49])) := ⟨by rw [List.length_append, ← HN3.out.1]; rfl, by rw [u8c_app]; exact hown⟩; have HZ1 : Hid (base ≤ w1.heap.size) := Nat.le_trans hb HB1.out.size; clear hown hgrow hor) | (at_builtin; refine wpList_app _ rfl _ _ 23 rfl base 5 i0 (.int .u8 0) 1 1 Tryz.undB hi hz0 hz1 hz2 rfl (by decide) _ (0 + 1 + 3) (Sp.u8c ([] ++ [45] ++ [48, 120, 49])) rfl (HN1.out.2.alloc _) ⟨w1.heap.size, 0, none⟩ 1 1 (Sp.u8c [46]) rfl rfl (bytes_new w1 [46] rfl rfl) (u8c_one _) (by decide) (by unfold maxLen; omega) (by omega) (by have := HZ1.out; simp; omega) ?_; intro g2 p2 w2 hown hgrow hor; have HB2 : Hid (Below base w w2) := (HB1.out.alloc HZ1.out _).grown hgrow (by have := HZ1.out; simp; omega) (fun q hq => own_ge HN1.out.2 hq); have HN2 : Hid (Byts w2 base (some ⟨g2, 0, none⟩) (0 + 1 + 3 + 1) p2 ([] ++ [45] ++ [48, 120, 49] ++ [46])) := ⟨by rw [List.length_append, ← HN1.out.1]; rfl, by rw [u8c_app]; exact hown⟩; have HZ2 : Hid (base ≤ w2.heap.size) := Nat.le_trans hb HB2.out.size; clear hown hgrow hor))
      clear hsh h60 hand' hn0 hr0 ha1
      go_loopw [0, 4] (fun u mv wr => ∃ (j : Nat) (a' : Option Addr) (p' : Nat), j ≤ 13 ∧ mv = .int .u64 ((Sp.rest fr j : Nat) : Int) ∧ u = .slice a' (5 + j) p' ∧ Hid ((j = 0 ∧ Sp.rest fr 0 ≠ 0) ∨ (1 ≤ j ∧ Sp.rest fr (j - 1) ≠ 0)) ∧ Hid (Byts wr base a' (5 + j) p' ([] ++ [45] ++ [48, 120, 49] ++ [46] ++ (Sp.hexN fr 13).take j)) ∧ Hid (Below base w wr)) (fun u _ _ => 20 - slen u)
      case atStart => exact ⟨0, _, p2, by omega, rfl, rfl, Or.inl ⟨rfl, (by have := Sp.rest_0 fr HR.out.2; omega)⟩, (by show Byts _ _ _ _ _ _; simpa using HN2.out), HB2⟩
      case round =>
        obtain ⟨j, a', p', hj, rfl, rfl, HJ, HN, HB⟩ := hrel
        have HZ : Hid (base ≤ wr.heap.size) := Nat.le_trans hb HB.out.size
        by_cases hx0 : Sp.rest fr j = 0
        · have HTR : Hid (Sp.trim (Sp.hexN fr 13) = (Sp.hexN fr 13).take j) := by
            rcases HJ.out with ⟨rfl, hh⟩ | ⟨h1, hh⟩
            · exact absurd hx0 hh
            · have := Sp.emit_trim (fr := fr) (j := j - 1) HR.out.2 (by rw [show j - 1 + 1 = j by omega]; exact hx0) hh (by omega)
              rw [show j - 1 + 1 = j by omega] at this
              exact this
          obtain ⟨L, HLE⟩ : ∃ L, Hid (L = [45, 48, 120, 49] ++ Sp.fracT fr) := ⟨_, show _ = _ from rfl⟩
          have HN0 : Hid (Byts wr base a' (5 + j) p' L) := by
            show Byts _ _ _ _ _ _
            rw [HLE.out, Sp.fracT, if_neg hfr0, HTR.out]; exact HN.out
          obtain ⟨k, hk⟩ : ∃ k, 5 + j = k := ⟨_, rfl⟩
          rw [hk] at HN0
          have hk40 : k ≤ 40 := by omega
          have HB0 := HB
          have HZ0 := HZ
          rw [hx0, hk]
          clear hk hx0 HN HB HZ HTR HJ
          obtain ⟨X, HXE⟩ : ∃ X : Int, Hid (X = e - (c : Int)) := ⟨_, show _ = _ from rfl⟩
          have HRE : Hid (RES = L ++ [112] ++ Sp.expT X) := by show _ = _; rw [HRS.out, HLE.out, HXE.out]
          clear HLE
          by_cases hsg : e - (c : Int) < 0
          · obtain ⟨n, hn⟩ : ∃ n : Nat, e - (c : Int) = -(n : Int) := ⟨(e - (c : Int)).natAbs, by omega⟩
            have HNX : Hid (X.natAbs = n) := by show _ = _; have := HXE.out; omega
            have hn0 : 0 < n := by omega
            have hnI : -(n : Int) < 0 := by omega
            have hnM : n ≤ 1200 := by omega
            have HXE : Hid (X < 0) := by show _ < _; have := HXE.out; omega
            rw [hn]
            clear hn hsg
            by_cases hn100 : n < 100
            · obtain ⟨b0, HD0, hd0'⟩ := fig (n / 10) (by omega)
              have hd0 : (n : Int) / 10 + 48 = (b0.toNat : Int) := by omega
              clear hd0'
              obtain ⟨b1, HD1, hd1'⟩ := fig (n % 10) (by omega)
              have hd1 : (n : Int) % 10 + 48 = (b1.toNat : Int) := by omega
              clear hd1'
              have HE : Hid (Sp.expT X = 45 :: [b0, b1]) := by
                show _ = _
                unfold Sp.expT
                rw [HNX.out, if_pos (by have := HXE.out; omega), Sp.dec2 hn100, HD0.out, HD1.out]
              clear HNX HXE
              go_wp2_with (first | (go_at_call 102; refine (lower_x _).mono ?_; rintro e9 w9 ⟨rfl, rfl⟩) | (at_builtin; refine wpList_app _ rfl _ _ 23 rfl base 5 i0 (.int .u8 0) 1 1 Tryz.undB hi hz0 hz1 hz2 rfl (by decide) _ (k) (Sp.u8c (L)) rfl (HN0.out.2.alloc _) ⟨wr.heap.size, 0, none⟩ 1 1 (Sp.u8c [112]) rfl rfl (bytes_new wr [112] rfl rfl) (u8c_one _) (by decide) (by unfold maxLen; omega) (by omega) (by have := HZ0.out; simp; omega) ?_; intro g6 p6 w6 hown hgrow hor; have HB6 : Hid (Below base w w6) := (HB0.out.alloc HZ0.out _).grown hgrow (by have := HZ0.out; simp; omega) (fun q hq => own_ge HN0.out.2 hq); have HN6 : Hid (Byts w6 base (some ⟨g6, 0, none⟩) (k + 1) p6 (L ++ [112])) := ⟨by rw [List.length_append, ← HN0.out.1]; rfl, by rw [u8c_app]; exact hown⟩; have HZ6 : Hid (base ≤ w6.heap.size) := Nat.le_trans hb HB6.out.size; clear hown hgrow hor) | (at_builtin; refine wpList_app _ rfl _ _ 23 rfl base 5 i0 (.int .u8 0) 1 1 Tryz.undB hi hz0 hz1 hz2 rfl (by decide) _ (k + 1) (Sp.u8c (L ++ [112])) rfl (HN6.out.2.alloc _) ⟨w6.heap.size, 0, none⟩ 1 1 (Sp.u8c [45]) rfl rfl (bytes_new w6 [45] rfl rfl) (u8c_one _) (by decide) (by unfold maxLen; omega) (by omega) (by have := HZ6.out; simp; omega) ?_; intro g7 p7 w7 hown hgrow hor; have HB7 : Hid (Below base w w7) := (HB6.out.alloc HZ6.out _).grown hgrow (by have := HZ6.out; simp; omega) (fun q hq => own_ge HN6.out.2 hq); have HN7 : Hid (Byts w7 base (some ⟨g7, 0, none⟩) (k + 1 + 1) p7 (L ++ [112] ++ [45])) := ⟨by rw [List.length_append, ← HN6.out.1]; rfl, by rw [u8c_app]; exact hown⟩; have HZ7 : Hid (base ≤ w7.heap.size) := Nat.le_trans hb HB7.out.size; clear hown hgrow hor) | (at_builtin; refine wpList_app _ rfl _ _ 23 rfl base 5 i0 (.int .u8 0) 1 1 Tryz.undB hi hz0 hz1 hz2 rfl (by decide) _ (k + 1 + 1) (Sp.u8c (L ++ [112] ++ [45])) rfl (HN7.out.2.alloc _) ⟨w7.heap.size, 0, none⟩ 2 2 (Sp.u8c [b0, b1]) rfl rfl (bytes_new w7 [b0, b1] rfl rfl) (u8c_one _) (by decide) (by unfold maxLen; omega) (by omega) (by have := HZ7.out; simp; omega) ?_; intro g8 p8 w8 hown hgrow hor; have HB8 : Hid (Below base w w8) := (HB7.out.alloc HZ7.out _).grown hgrow (by have := HZ7.out; simp; omega) (fun q hq => own_ge HN7.out.2 hq); have HN8 : Hid (Byts w8 base (some ⟨g8, 0, none⟩) (k + 1 + 1 + 2) p8 (L ++ [112] ++ [45] ++ [b0, b1])) := ⟨by rw [List.length_append, ← HN7.out.1]; rfl, by rw [u8c_app]; exact hown⟩; have HZ8 : Hid (base ≤ w8.heap.size) := Nat.le_trans hb HB8.out.size; clear hown hgrow hor))
              go_ret
              have HR8 : Hid (L ++ [112] ++ [45] ++ [b0, b1] = RES) := by show _ = _; rw [HRE.out, HE.out]; simp
              have e8 : k + 1 + 1 + 2 = ([] : List UInt8).length + RES.length := by
                have := HN8.out.1
                rw [HR8.out] at this
                rw [this]; simp
              refine ⟨some ⟨g8, 0, none⟩, p8, ?_, ?_, HB8.out⟩
              · rw [← e8]; rfl
              · rw [← e8, List.nil_append, ← HR8.out]; exact HN8.out
            · by_cases hn1000 : n < 1000
              · obtain ⟨b0, HD0, hd0'⟩ := fig (n / 100) (by omega)
                have hd0 : (n : Int) / 100 + 48 = (b0.toNat : Int) := by omega
                clear hd0'
                obtain ⟨b1, HD1, hd1'⟩ := fig (n / 10 % 10) (by omega)
                have hd1 : (n : Int) / 10 % 10 + 48 = (b1.toNat : Int) := by omega
                clear hd1'
                obtain ⟨b2, HD2, hd2'⟩ := fig (n % 10) (by omega)
                have hd2 : (n : Int) % 10 + 48 = (b2.toNat : Int) := by omega
                clear hd2'
                have HE : Hid (Sp.expT X = 45 :: [b0, b1, b2]) := by
                  show _ = _
                  unfold Sp.expT
                  rw [HNX.out, if_pos (by have := HXE.out; omega), Sp.dec3 hn100 hn1000, HD0.out, HD1.out, HD2.out]
                clear HNX HXE
                go_wp2_with (first | (go_at_call 102; refine (lower_x _).mono ?_; rintro e9 w9 ⟨rfl, rfl⟩) | (at_builtin; refine wpList_app _ rfl _ _ 23 rfl base 5 i0 (.int .u8 0) 1 1 Tryz.undB hi hz0 hz1 hz2 rfl (by decide) _ (k) (Sp.u8c (L)) rfl (HN0.out.2.alloc _) ⟨wr.heap.size, 0, none⟩ 1 1 (Sp.u8c [112]) rfl rfl (bytes_new wr [112] rfl rfl) (u8c_one _) (by decide) (by unfold maxLen; omega) (by omega) (by have := HZ0.out; simp; omega) ?_; intro g6 p6 w6 hown hgrow hor; have HB6 : Hid (Below base w w6) := (HB0.out.alloc HZ0.out _).grown hgrow (by have := HZ0.out; simp; omega) (fun q hq => own_ge HN0.out.2 hq); have HN6 : Hid (Byts w6 base (some ⟨g6, 0, none⟩) (k + 1) p6 (L ++ [112])) := ⟨by rw [List.length_append, ← HN0.out.1]; rfl, by rw [u8c_app]; exact hown⟩; have HZ6 : Hid (base ≤ w6.heap.size) := Nat.le_trans hb HB6.out.size; clear hown hgrow hor) | (at_builtin; refine wpList_app _ rfl _ _ 23 rfl base 5 i0 (.int .u8 0) 1 1 Tryz.undB hi hz0 hz1 hz2 rfl (by decide) _ (k + 1) (Sp.u8c (L ++ [112])) rfl (HN6.out.2.alloc _) ⟨w6.heap.size, 0, none⟩ 1 1 (Sp.u8c [45]) rfl rfl (bytes_new w6 [45] rfl rfl) (u8c_one _) (by decide) (by unfold maxLen; omega) (by omega) (by have := HZ6.out; simp; omega) ?_; intro g7 p7 w7 hown hgrow hor; have HB7 : Hid (Below base w w7) := (HB6.out.alloc HZ6.out _).grown hgrow (by have := HZ6.out; simp; omega) (fun q hq => own_ge HN6.out.2 hq); have HN7 : Hid (Byts w7 base (some ⟨g7, 0, none⟩) (k + 1 + 1) p7 (L ++ [112] ++ [45])) := ⟨by rw [List.length_append, ← HN6.out.1]; rfl, by rw [u8c_app]; exact hown⟩; have HZ7 : Hid (base ≤ w7.heap.size) := Nat.le_trans hb HB7.out.size; clear hown hgrow hor) | (at_builtin; refine wpList_app _ rfl _ _ 23 rfl base 5 i0 (.int .u8 0) 1 1 Tryz.undB hi hz0 hz1 hz2 rfl (by decide) _ (k + 1 + 1) (Sp.u8c (L ++ [112] ++ [45])) rfl (HN7.out.2.alloc _) ⟨w7.heap.size, 0, none⟩ 3 3 (Sp.u8c [b0, b1, b2]) rfl rfl (bytes_new w7 [b0, b1, b2] rfl rfl) (u8c_one _) (by decide) (by unfold maxLen; omega) (by omega) (by have := HZ7.out; simp; omega) ?_; intro g8 p8 w8 hown hgrow hor; have HB8 : Hid (Below base w w8) := (HB7.out.alloc HZ7.out _).grown hgrow (by have := HZ7.out; simp; omega) (fun q hq => own_ge HN7.out.2 hq); have HN8 : Hid (Byts w8 base (some ⟨g8, 0, none⟩) (k + 1 + 1 + 3) p8 (L ++ [112] ++ [45] ++ [b0, b1, b2])) := ⟨by rw [List.length_append, ← HN7.out.1]; rfl, by rw [u8c_app]; exact hown⟩; have HZ8 : Hid (base ≤ w8.heap.size) := Nat.le_trans hb HB8.out.size; clear hown hgrow hor))
                go_ret
                have HR8 : Hid (L ++ [112] ++ [45] ++ [b0, b1, b2] = RES) := by show _ = _; rw [HRE.out, HE.out]; simp
                have e8 : k + 1 + 1 + 3 = ([] : List UInt8).length + RES.length := by
                  have := HN8.out.1
                  rw [HR8.out] at this
                  rw [this]; simp
                refine ⟨some ⟨g8, 0, none⟩, p8, ?_, ?_, HB8.out⟩
                · rw [← e8]; rfl
                · rw [← e8, List.nil_append, ← HR8.out]; exact HN8.out
              · obtain ⟨b0, HD0, hd0'⟩ := fig (n / 1000) (by omega)
                have hd0 : (n : Int) / 1000 + 48 = (b0.toNat : Int) := by omega
                clear hd0'
                obtain ⟨b1, HD1, hd1'⟩ := fig (n / 100 % 10) (by omega)
                have hd1 : (n : Int) / 100 % 10 + 48 = (b1.toNat : Int) := by omega
                clear hd1'
                obtain ⟨b2, HD2, hd2'⟩ := fig (n / 10 % 10) (by omega)
                have hd2 : (n : Int) / 10 % 10 + 48 = (b2.toNat : Int) := by omega
                clear hd2'
                obtain ⟨b3, HD3, hd3'⟩ := fig (n % 10) (by omega)
                have hd3 : (n : Int) % 10 + 48 = (b3.toNat : Int) := by omega
                clear hd3'
                have HE : Hid (Sp.expT X = 45 :: [b0, b1, b2, b3]) := by
                  show _ = _
                  unfold Sp.expT
                  rw [HNX.out, if_pos (by have := HXE.out; omega), Sp.dec4 hn1000 (by omega), HD0.out, HD1.out, HD2.out, HD3.out]
                clear HNX HXE
                go_wp2_with (first | (go_at_call 102; refine (lower_x _).mono ?_; rintro e9 w9 ⟨rfl, rfl⟩) | (at_builtin; refine wpList_app _ rfl _ _ 23 rfl base 5 i0 (.int .u8 0) 1 1 Tryz.undB hi hz0 hz1 hz2 rfl (by decide) _ (k) (Sp.u8c (L)) rfl (HN0.out.2.alloc _) ⟨wr.heap.size, 0, none⟩ 1 1 (Sp.u8c [112]) rfl rfl (bytes_new wr [112] rfl rfl) (u8c_one _) (by decide) (by unfold maxLen; omega) (by omega) (by have := HZ0.out; simp; omega) ?_; intro g6 p6 w6 hown hgrow hor; have HB6 : Hid (Below base w w6) := (HB0.out.alloc HZ0.out _).grown hgrow (by have := HZ0.out; simp; omega) (fun q hq => own_ge HN0.out.2 hq); have HN6 : Hid (Byts w6 base (some ⟨g6, 0, none⟩) (k + 1) p6 (L ++ [112])) := ⟨by rw [List.length_append, ← HN0.out.1]; rfl, by rw [u8c_app]; exact hown⟩; have HZ6 : Hid (base ≤ w6.heap.size) := Nat.le_trans hb HB6.out.size; clear hown hgrow hor) | (at_builtin; refine wpList_app _ rfl _ _ 23 rfl base 5 i0 (.int .u8 0) 1 1 Tryz.undB hi hz0 hz1 hz2 rfl (by decide) _ (k + 1) (Sp.u8c (L ++ [112])) rfl (HN6.out.2.alloc _) ⟨w6.heap.size, 0, none⟩ 1 1 (Sp.u8c [45]) rfl rfl (bytes_new w6 [45] rfl rfl) (u8c_one _) (by decide) (by unfold maxLen; omega) (by omega) (by have := HZ6.out; simp; omega) ?_; intro g7 p7 w7 hown hgrow hor; have HB7 : Hid (Below base w w7) := (HB6.out.alloc HZ6.out _).grown hgrow (by have := HZ6.out; simp; omega) (fun q hq => own_ge HN6.out.2 hq); have HN7 : Hid (Byts w7 base (some ⟨g7, 0, none⟩) (k + 1 + 1) p7 (L ++ [112] ++ [45])) := ⟨by rw [List.length_append, ← HN6.out.1]; rfl, by rw [u8c_app]; exact hown⟩; have HZ7 : Hid (base ≤ w7.heap.size) := Nat.le_trans hb HB7.out.size; clear hown hgrow hor) | (at_builtin; refine wpList_app _ rfl _ _ 23 rfl base 5 i0 (.int .u8 0) 1 1 Tryz.undB hi hz0 hz1 hz2 rfl (by decide) _ (k + 1 + 1) (Sp.u8c (L ++ [112] ++ [45])) rfl (HN7.out.2.alloc _) ⟨w7.heap.size, 0, none⟩ 4 4 (Sp.u8c [b0, b1, b2, b3]) rfl rfl (bytes_new w7 [b0, b1, b2, b3] rfl rfl) (u8c_one _) (by decide) (by unfold maxLen; omega) (by omega) (by have := HZ7.out; simp; omega) ?_; intro g8 p8 w8 hown hgrow hor; have HB8 : Hid (Below base w w8) := (HB7.out.alloc HZ7.out _).grown hgrow (by have := HZ7.out; simp; omega) (fun q hq => own_ge HN7.out.2 hq); have HN8 : Hid (Byts w8 base (some ⟨g8, 0, none⟩) (k + 1 + 1 + 4) p8 (L ++ [112] ++ [45] ++ [b0, b1, b2, b3])) := ⟨by rw [List.length_append, ← HN7.out.1]; rfl, by rw [u8c_app]; exact hown⟩; have HZ8 : Hid (base ≤ w8.heap.size) := Nat.le_trans hb HB8.out.size; clear hown hgrow hor))
                go_ret
                have HR8 : Hid (L ++ [112] ++ [45] ++ [b0, b1, b2, b3] = RES) := by show _ = _; rw [HRE.out, HE.out]; simp
                have e8 : k + 1 + 1 + 4 = ([] : List UInt8).length + RES.length := by
                  have := HN8.out.1
                  rw [HR8.out] at this
                  rw [this]; simp
                refine ⟨some ⟨g8, 0, none⟩, p8, ?_, ?_, HB8.out⟩
                · rw [← e8]; rfl
                · rw [← e8, List.nil_append, ← HR8.out]; exact HN8.out
          · obtain ⟨n, hn⟩ : ∃ n : Nat, e - (c : Int) = (n : Int) := ⟨(e - (c : Int)).natAbs, by omega⟩
            have HNX : Hid (X.natAbs = n) := by show _ = _; have := HXE.out; omega
            have hnM : n ≤ 1200 := by omega
            have HXE : Hid (¬ X < 0) := by show ¬ _; have := HXE.out; omega
            rw [hn]
            clear hn hsg
            by_cases hn100 : n < 100
            · obtain ⟨b0, HD0, hd0'⟩ := fig (n / 10) (by omega)
              have hd0 : (n : Int) / 10 + 48 = (b0.toNat : Int) := by omega
              clear hd0'
              obtain ⟨b1, HD1, hd1'⟩ := fig (n % 10) (by omega)
              have hd1 : (n : Int) % 10 + 48 = (b1.toNat : Int) := by omega
              clear hd1'
              have HE : Hid (Sp.expT X = 43 :: [b0, b1]) := by
                show _ = _
                unfold Sp.expT
                rw [HNX.out, if_neg (by have := HXE.out; omega), Sp.dec2 hn100, HD0.out, HD1.out]
              clear HNX HXE
              go_wp2_with (first | (go_at_call 102; refine (lower_x _).mono ?_; rintro e9 w9 ⟨rfl, rfl⟩) | (at_builtin; refine wpList_app _ rfl _ _ 23 rfl base 5 i0 (.int .u8 0) 1 1 Tryz.undB hi hz0 hz1 hz2 rfl (by decide) _ (k) (Sp.u8c (L)) rfl (HN0.out.2.alloc _) ⟨wr.heap.size, 0, none⟩ 1 1 (Sp.u8c [112]) rfl rfl (bytes_new wr [112] rfl rfl) (u8c_one _) (by decide) (by unfold maxLen; omega) (by omega) (by have := HZ0.out; simp; omega) ?_; intro g6 p6 w6 hown hgrow hor; have HB6 : Hid (Below base w w6) := (HB0.out.alloc HZ0.out _).grown hgrow (by have := HZ0.out; simp; omega) (fun q hq => own_ge HN0.out.2 hq); have HN6 : Hid (Byts w6 base (some ⟨g6, 0, none⟩) (k + 1) p6 (L ++ [112])) := ⟨by rw [List.length_append, ← HN0.out.1]; rfl, by rw [u8c_app]; exact hown⟩; have HZ6 : Hid (base ≤ w6.heap.size) := Nat.le_trans hb HB6.out.size; clear hown hgrow hor) | (at_builtin; refine wpList_app _ rfl _ _ 23 rfl base 5 i0 (.int .u8 0) 1 1 Tryz.undB hi hz0 hz1 hz2 rfl (by decide) _ (k + 1) (Sp.u8c (L ++ [112])) rfl (HN6.out.2.alloc _) ⟨w6.heap.size, 0, none⟩ 1 1 (Sp.u8c [43]) rfl rfl (bytes_new w6 [43] rfl rfl) (u8c_one _) (by decide) (by unfold maxLen; omega) (by omega) (by have := HZ6.out; simp; omega) ?_; intro g7 p7 w7 hown hgrow hor; have HB7 : Hid (Below base w w7) := (HB6.out.alloc HZ6.out _).grown hgrow (by have := HZ6.out; simp; omega) (fun q hq => own_ge HN6.out.2 hq); have HN7 : Hid (Byts w7 base (some ⟨g7, 0, none⟩) (k + 1 + 1) p7 (L ++ [112] ++ [43])) := ⟨by rw [List.length_append, ← HN6.out.1]; rfl, by rw [u8c_app]; exact hown⟩; have HZ7 : Hid (base ≤ w7.heap.size) := Nat.le_trans hb HB7.out.size; clear hown hgrow hor) | (at_builtin; refine wpList_app _ rfl _ _ 23 rfl base 5 i0 (.int .u8 0) 1 1 Tryz.undB hi hz0 hz1 hz2 rfl (by decide) _ (k + 1 + 1) (Sp.u8c (L ++ [112] ++ [43])) rfl (HN7.out.2.alloc _) ⟨w7.heap.size, 0, none⟩ 2 2 (Sp.u8c [b0, b1]) rfl rfl (bytes_new w7 [b0, b1] rfl rfl) (u8c_one _) (by decide) (by unfold maxLen; omega) (by omega) (by have := HZ7.out; simp; omega) ?_; intro g8 p8 w8 hown hgrow hor; have HB8 : Hid (Below base w w8) := (HB7.out.alloc HZ7.out _).grown hgrow (by have := HZ7.out; simp; omega) (fun q hq => own_ge HN7.out.2 hq); have HN8 : Hid (Byts w8 base (some ⟨g8, 0, none⟩) (k + 1 + 1 + 2) p8 (L ++ [112] ++ [43] ++ [b0, b1])) := ⟨by rw [List.length_append, ← HN7.out.1]; rfl, by rw [u8c_app]; exact hown⟩; have HZ8 : Hid (base ≤ w8.heap.size) := Nat.le_trans hb HB8.out.size; clear hown hgrow hor))
              go_ret
              have HR8 : Hid (L ++ [112] ++ [43] ++ [b0, b1] = RES) := by show _ = _; rw [HRE.out, HE.out]; simp
              have e8 : k + 1 + 1 + 2 = ([] : List UInt8).length + RES.length := by
                have := HN8.out.1
                rw [HR8.out] at this
                rw [this]; simp
              refine ⟨some ⟨g8, 0, none⟩, p8, ?_, ?_, HB8.out⟩
              · rw [← e8]; rfl
              · rw [← e8, List.nil_append, ← HR8.out]; exact HN8.out
            · by_cases hn1000 : n < 1000
              · obtain ⟨b0, HD0, hd0'⟩ := fig (n / 100) (by omega)
                have hd0 : (n : Int) / 100 + 48 = (b0.toNat : Int) := by omega
                clear hd0'
                obtain ⟨b1, HD1, hd1'⟩ := fig (n / 10 % 10) (by omega)
                have hd1 : (n : Int) / 10 % 10 + 48 = (b1.toNat : Int) := by omega
                clear hd1'
                obtain ⟨b2, HD2, hd2'⟩ := fig (n % 10) (by omega)
                have hd2 : (n : Int) % 10 + 48 = (b2.toNat : Int) := by omega
                clear hd2'
                have HE : Hid (Sp.expT X = 43 :: [b0, b1, b2]) := by
                  show _ = _
                  unfold Sp.expT
                  rw [HNX.out, if_neg (by have := HXE.out; omega), Sp.dec3 hn100 hn1000, HD0.out, HD1.out, HD2.out]
                clear HNX HXE
                go_wp2_with (first | (go_at_call 102; refine (lower_x _).mono ?_; rintro e9 w9 ⟨rfl, rfl⟩) | (at_builtin; refine wpList_app _ rfl _ _ 23 rfl base 5 i0 (.int .u8 0) 1 1 Tryz.undB hi hz0 hz1 hz2 rfl (by decide) _ (k) (Sp.u8c (L)) rfl (HN0.out.2.alloc _) ⟨wr.heap.size, 0, none⟩ 1 1 (Sp.u8c [112]) rfl rfl (bytes_new wr [112] rfl rfl) (u8c_one _) (by decide) (by unfold maxLen; omega) (by omega) (by have := HZ0.out; simp; omega) ?_; intro g6 p6 w6 hown hgrow hor; have HB6 : Hid (Below base w w6) := (HB0.out.alloc HZ0.out _).grown hgrow (by have := HZ0.out; simp; omega) (fun q hq => own_ge HN0.out.2 hq); have HN6 : Hid (Byts w6 base (some ⟨g6, 0, none⟩) (k + 1) p6 (L ++ [112])) := ⟨by rw [List.length_append, ← HN0.out.1]; rfl, by rw [u8c_app]; exact hown⟩; have HZ6 : Hid (base ≤ w6.heap.size) := Nat.le_trans hb HB6.out.size; clear hown hgrow hor) | (at_builtin; refine wpList_app _ rfl _ _ 23 rfl base 5 i0 (.int .u8 0) 1 1 Tryz.undB hi hz0 hz1 hz2 rfl (by decide) _ (k + 1) (Sp.u8c (L ++ [112])) rfl (HN6.out.2.alloc _) ⟨w6.heap.size, 0, none⟩ 1 1 (Sp.u8c [43]) rfl rfl (bytes_new w6 [43] rfl rfl) (u8c_one _) (by decide) (by unfold maxLen; omega) (by omega) (by have := HZ6.out; simp; omega) ?_; intro g7 p7 w7 hown hgrow hor; have HB7 : Hid (Below base w w7) := (HB6.out.alloc HZ6.out _).grown hgrow (by have := HZ6.out; simp; omega) (fun q hq => own_ge HN6.out.2 hq); have HN7 : Hid (Byts w7 base (some ⟨g7, 0, none⟩) (k + 1 + 1) p7 (L ++ [112] ++ [43])) := ⟨by rw [List.length_append, ← HN6.out.1]; rfl, by rw [u8c_app]; exact hown⟩; have HZ7 : Hid (base ≤ w7.heap.size) := Nat.le_trans hb HB7.out.size; clear hown hgrow hor) | (at_builtin; refine wpList_app _ rfl _ _ 23 rfl base 5 i0 (.int .u8 0) 1 1 Tryz.undB hi hz0 hz1 hz2 rfl (by decide) _ (k + 1 + 1) (Sp.u8c (L ++ [112] ++ [43])) rfl (HN7.out.2.alloc _) ⟨w7.heap.size, 0, none⟩ 3 3 (Sp.u8c [b0, b1, b2]) rfl rfl (bytes_new w7 [b0, b1, b2] rfl rfl) (u8c_one _) (by decide) (by unfold maxLen; omega) (by omega) (by have := HZ7.out; simp; omega) ?_; intro g8 p8 w8 hown hgrow hor; have HB8 : Hid (Below base w w8) := (HB7.out.alloc HZ7.out _).grown hgrow (by have := HZ7.out; simp; omega) (fun q hq => own_ge HN7.out.2 hq); have HN8 : Hid (Byts w8 base (some ⟨g8, 0, none⟩) (k + 1 + 1 + 3) p8 (L ++ [112] ++ [43] ++ [b0, b1, b2])) := ⟨by rw [List.length_append, ← HN7.out.1]; rfl, by rw [u8c_app]; exact hown⟩; have HZ8 : Hid (base ≤ w8.heap.size) := Nat.le_trans hb HB8.out.size; clear hown hgrow hor))
                go_ret
                have HR8 : Hid (L ++ [112] ++ [43] ++ [b0, b1, b2] = RES) := by show _ = _; rw [HRE.out, HE.out]; simp
                have e8 : k + 1 + 1 + 3 = ([] : List UInt8).length + RES.length := by
                  have := HN8.out.1
                  rw [HR8.out] at this
                  rw [this]; simp
                refine ⟨some ⟨g8, 0, none⟩, p8, ?_, ?_, HB8.out⟩
                · rw [← e8]; rfl
                · rw [← e8, List.nil_append, ← HR8.out]; exact HN8.out
              · obtain ⟨b0, HD0, hd0'⟩ := fig (n / 1000) (by omega)
                have hd0 : (n : Int) / 1000 + 48 = (b0.toNat : Int) := by omega
                clear hd0'
                obtain ⟨b1, HD1, hd1'⟩ := fig (n / 100 % 10) (by omega)
                have hd1 : (n : Int) / 100 % 10 + 48 = (b1.toNat : Int) := by omega
                clear hd1'
                obtain ⟨b2, HD2, hd2'⟩ := fig (n / 10 % 10) (by omega)
                have hd2 : (n : Int) / 10 % 10 + 48 = (b2.toNat : Int) := by omega
                clear hd2'
                obtain ⟨b3, HD3, hd3'⟩ := fig (n % 10) (by omega)
                have hd3 : (n : Int) % 10 + 48 = (b3.toNat : Int) := by omega
                clear hd3'
                have HE : Hid (Sp.expT X = 43 :: [b0, b1, b2, b3]) := by
                  show _ = _
                  unfold Sp.expT
                  rw [HNX.out, if_neg (by have := HXE.out; omega), Sp.dec4 hn1000 (by omega), HD0.out, HD1.out, HD2.out, HD3.out]
                clear HNX HXE
                go_wp2_with (first | (go_at_call 102; refine (lower_x _).mono ?_; rintro e9 w9 ⟨rfl, rfl⟩) | (at_builtin; refine wpList_app _ rfl _ _ 23 rfl base 5 i0 (.int .u8 0) 1 1 Tryz.undB hi hz0 hz1 hz2 rfl (by decide) _ (k) (Sp.u8c (L)) rfl (HN0.out.2.alloc _) ⟨wr.heap.size, 0, none⟩ 1 1 (Sp.u8c [112]) rfl rfl (bytes_new wr [112] rfl rfl) (u8c_one _) (by decide) (by unfold maxLen; omega) (by omega) (by have := HZ0.out; simp; omega) ?_; intro g6 p6 w6 hown hgrow hor; have HB6 : Hid (Below base w w6) := (HB0.out.alloc HZ0.out _).grown hgrow (by have := HZ0.out; simp; omega) (fun q hq => own_ge HN0.out.2 hq); have HN6 : Hid (Byts w6 base (some ⟨g6, 0, none⟩) (k + 1) p6 (L ++ [112])) := ⟨by rw [List.length_append, ← HN0.out.1]; rfl, by rw [u8c_app]; exact hown⟩; have HZ6 : Hid (base ≤ w6.heap.size) := Nat.le_trans hb HB6.out.size; clear hown hgrow hor) | (at_builtin; refine wpList_app _ rfl _ _ 23 rfl base 5 i0 (.int .u8 0) 1 1 Tryz.undB hi hz0 hz1 hz2 rfl (by decide) _ (k + 1) (Sp.u8c (L ++ [112])) rfl (HN6.out.2.alloc _) ⟨w6.heap.size, 0, none⟩ 1 1 (Sp.u8c [43]) rfl rfl (bytes_new w6 [43] rfl rfl) (u8c_one _) (by decide) (by unfold maxLen; omega) (by omega) (by have := HZ6.out; simp; omega) ?_; intro g7 p7 w7 hown hgrow hor; have HB7 : Hid (Below base w w7) := (HB6.out.alloc HZ6.out _).grown hgrow (by have := HZ6.out; simp; omega) (fun q hq => own_ge HN6.out.2 hq); have HN7 : Hid (Byts w7 base (some ⟨g7, 0, none⟩) (k + 1 + 1) p7 (L ++ [112] ++ [43])) := ⟨by rw [List.length_append, ← HN6.out.1]; rfl, by rw [u8c_app]; exact hown⟩; have HZ7 : Hid (base ≤ w7.heap.size) := Nat.le_trans hb HB7.out.size; clear hown hgrow hor) | (at_builtin; refine wpList_app _ rfl _ _ 23 rfl base 5 i0 (.int .u8 0) 1 1 Tryz.undB hi hz0 hz1 hz2 rfl (by decide) _ (k + 1 + 1) (Sp.u8c (L ++ [112] ++ [43])) rfl (HN7.out.2.alloc _) ⟨w7.heap.size, 0, none⟩ 4 4 (Sp.u8c [b0, b1, b2, b3]) rfl rfl (bytes_new w7 [b0, b1, b2, b3] rfl rfl) (u8c_one _) (by decide) (by unfold maxLen; omega) (by omega) (by have := HZ7.out; simp; omega) ?_; intro g8 p8 w8 hown hgrow hor; have HB8 : Hid (Below base w w8) := (HB7.out.alloc HZ7.out _).grown hgrow (by have := HZ7.out; simp; omega) (fun q hq => own_ge HN7.out.2 hq); have HN8 : Hid (Byts w8 base (some ⟨g8, 0, none⟩) (k + 1 + 1 + 4) p8 (L ++ [112] ++ [43] ++ [b0, b1, b2, b3])) := ⟨by rw [List.length_append, ← HN7.out.1]; rfl, by rw [u8c_app]; exact hown⟩; have HZ8 : Hid (base ≤ w8.heap.size) := Nat.le_trans hb HB8.out.size; clear hown hgrow hor))
                go_ret
                have HR8 : Hid (L ++ [112] ++ [43] ++ [b0, b1, b2, b3] = RES) := by show _ = _; rw [HRE.out, HE.out]; simp
                have e8 : k + 1 + 1 + 4 = ([] : List UInt8).length + RES.length := by
                  have := HN8.out.1
                  rw [HR8.out] at this
                  rw [this]; simp
                refine ⟨some ⟨g8, 0, none⟩, p8, ?_, ?_, HB8.out⟩
                · rw [← e8]; rfl
                · rw [← e8, List.nil_append, ← HR8.out]; exact HN8.out
        · have hj13 := Sp.rest_13 hx0 hj
          have HX : Hid ((Sp.hexN fr 13).take (j + 1) = (Sp.hexN fr 13).take j ++ [Sp.hexd (fr / 16 ^ (12 - j) % 16)]) := Sp.hexN_take hj13
          have hst := Sp.emit_step fr j HR.out.2 hj13
          have hnx := Sp.emit_next fr j
          have hrl := Sp.rest_lt fr j
          have HJ2 : Hid ((j + 1 = 0 ∧ Sp.rest fr 0 ≠ 0) ∨ (1 ≤ j + 1 ∧ Sp.rest fr (j + 1 - 1) ≠ 0)) := Or.inr ⟨by omega, hx0⟩
          change Sp.rest fr j / 1152921504606846976 = _ at hst
          change Sp.rest fr j * 16 % 18446744073709551616 = Sp.rest fr (j + 1) at hnx
          obtain ⟨d, hd⟩ : ∃ d, fr / 16 ^ (12 - j) % 16 = d := ⟨_, rfl⟩
          have hd16 : d < 16 := by rw [← hd]; exact Nat.mod_lt _ (by decide)
          rw [hd] at hst HX
          obtain ⟨x, hxx⟩ : ∃ x : Int, ((Sp.rest fr j : Nat) : Int) = x := ⟨_, rfl⟩
          have hw : IntKind.u64.wrap (x * 16) = ((Sp.rest fr (j + 1) : Nat) : Int) := by rw [IntKind.wrap_u64, ← hxx, ← hnx]; omega
          have hsr : x / 1152921504606846976 = (d : Int) := by rw [← hxx, ← hst]; omega
          have hix := idx_hex .u64 (bits .and .u64 (d : Int) 15) d (and15w ⟨d, hd16⟩) hd16
          have hxn : (x != 0) = true := by simp; omega
          rw [hxx]
          generalize Sp.hexd d = v at hix HX
          obtain ⟨y, HY⟩ : ∃ y, Hid (Sp.rest fr (j + 1) = y) := ⟨_, show _ = _ from rfl⟩
          rw [HY.out] at hw hnx
          clear hst hnx hrl hxx hx0 hd
          go_wp2_with (at_builtin; refine wpList_app _ rfl _ _ 23 rfl base 5 i0 (.int .u8 0) 1 1 Tryz.undB hi hz0 hz1 hz2 rfl (by decide) _ (5 + j) (Sp.u8c ([] ++ [45] ++ [48, 120, 49] ++ [46] ++ (Sp.hexN fr 13).take j)) rfl (HN.out.2.alloc _) ⟨wr.heap.size, 0, none⟩ 1 1 (Sp.u8c [v]) rfl rfl (bytes_new wr [v] rfl rfl) (u8c_one _) (by decide) (by unfold maxLen; omega) (by omega) (by have := HZ.out; simp; omega) ?_; intro g5 p5 w5 hown hgrow hor; have HB5 : Hid (Below base w w5) := (HB.out.alloc HZ.out _).grown hgrow (by have := HZ.out; simp; omega) (fun q hq => own_ge HN.out.2 hq); have HN5 : Hid (Byts w5 base (some ⟨g5, 0, none⟩) (5 + j + 1) p5 ([] ++ [45] ++ [48, 120, 49] ++ [46] ++ (Sp.hexN fr 13).take j ++ [v])) := ⟨by rw [List.length_append, ← HN.out.1]; rfl, by rw [u8c_app]; exact hown⟩; have HZ5 : Hid (base ≤ w5.heap.size) := Nat.le_trans hb HB5.out.size; clear hown hgrow hor)
          refine ⟨⟨j + 1, some ⟨g5, 0, none⟩, p5, by omega, by rw [HY.out], by rw [show 5 + (j + 1) = 5 + j + 1 by omega], HJ2, ?_, HB5⟩, ?_⟩
          · show Byts _ _ _ _ _ _
            rw [HX.out, ← List.append_assoc, show 5 + (j + 1) = 5 + j + 1 by omega]; exact HN5.out
          · show 20 - (5 + j + 1) < 20 - (5 + j)
            omega
end Go.Proofs.YtnndlffidifddaaGreatDoor

/- internal/strconv.fmtX: one of its cases. -/
namespace Go.Proofs.YtnndlffidifddaaGreatDoor
open Go.RowKit

set_option maxRecDepth 100000 in
set_option maxHeartbeats 2000000 in
theorem fmtX_ip (m p fr : Nat) (e : Int) (a : Option Addr) (cap base : Nat) (w : World) (h : Byts w base a 0 cap []) (hb : base ≤ w.heap.size) (hm : m < 9007199254740992) (hm0 : m ≠ 0) (he0 : -1100 ≤ e) (he1 : e ≤ 1100)
    (hp : p ≤ 52) (hr : m * 2 ^ p = 4503599627370496 + fr) (hfr : fr < 4503599627370496) (hfr0 : fr = 0) (hlow : ∀ c, c < p → m * 2 ^ c < 4503599627370496) (RES : List UInt8) (hres : RES = [48, 120, 49] ++ Sp.fracT fr ++ [112] ++ Sp.expT (e - (p : Int))) :
    Calls Tryz.prog 87 #[.slice a 0 cap, .int .i64 (-1), .int .u8 120, .bool false, .int .u64 (m : Int), .int .i64 e, .int .i64 52] w (AppE base [] RES w) := by
  obtain ⟨i0, hi, hz0, hz1, hz2⟩ := info_parts Tryz.infoB
  have HO : Hid (Byts w base a 0 cap []) := h
  have HR : Hid (m * 2 ^ p = 4503599627370496 + fr ∧ fr < 4503599627370496) := ⟨hr, hfr⟩
  have HLW : Hid (∀ c, c < p → m * 2 ^ c < 4503599627370496) := hlow
  have HPW : Hid (∀ c, m * 2 ^ (c + 1) = m * 2 ^ c * 2) := fun c => by rw [Nat.pow_succ, Nat.mul_assoc]
  have HRS : Hid (RES = [48, 120, 49] ++ Sp.fracT fr ++ [112] ++ Sp.expT (e - (p : Int))) := hres
  clear h hr hfr hlow hres
  have d0 : ((m : Int) == 0) = false := by simp; omega
  have HMM : Hid (0 < m) := by show 0 < m; omega
  clear hm0
  go_enter Tryz.func87, Tryz.ntmps87
  go_wp2_with fail
  clear hm d0
  go_loopw [4, 5] (fun mv ev wr => ∃ c : Nat, c ≤ p ∧ ev = .int .i64 (e - (c : Int)) ∧ mv = .int .u64 ((m * 2 ^ c : Nat) * 256 : Int) ∧ w = wr) (fun _ ev _ => (intOf ev + 2000).toNat)
  case atStart => exact ⟨0, by omega, (by rw [show e - ((0 : Nat) : Int) = e by omega]), (by rw [Nat.pow_zero, Nat.mul_one]), rfl⟩
  case round =>
    obtain ⟨c, hc, rfl, rfl, rfl⟩ := hrel
    have hq0 : 0 < m * 2 ^ c := Nat.mul_pos HMM.out (Nat.two_pow_pos _)
    by_cases hlt : c < p
    · have hq := HLW.out c hlt
      have hnx := HPW.out c
      have HLT : Hid (c + 1 ≤ p) := hlt
      generalize m * 2 ^ c = q0 at hq hnx hq0 ⊢
      have hand := and60 (q0 * 256) (by omega)
      rw [if_neg (by omega)] at hand
      obtain ⟨q, hqq⟩ : ∃ q : Int, (q0 : Int) * 256 = q := ⟨_, rfl⟩
      have hand' : bits BinOp.and IntKind.u64 q 1152921504606846976 = 0 := by rw [← hqq, ← hand]; congr 1
      rw [hqq]
      have HNX : Hid (((m * 2 ^ (c + 1) : Nat) : Int) * 256 = q * 2) := by show _ = _; rw [hnx]; omega
      have hn0 : (q != 0) = true := by simp; omega
      have hqI : q < 1152921504606846976 := by omega
      have hqJ : 0 ≤ q := by omega
      have hc52 : (c : Int) ≤ 52 := by omega
      clear hand hnx hq hlt hc hqq hq0 hp
      go_wp2_with fail
      refine ⟨⟨c + 1, HLT.out, ?_, ?_, trivial⟩, ?_⟩
      · exact congrArg (Value.int .i64) (by omega)
      · rw [HNX.out]
      · simp [intOf]; omega
    · obtain rfl : c = p := by omega
      have hq := HR.out.1
      have hfr := HR.out.2
      generalize m * 2 ^ c = q0 at hq hq0 ⊢
      have hand := and60 (q0 * 256) (by omega)
      rw [if_pos (by omega)] at hand
      obtain ⟨q, hqq⟩ : ∃ q : Int, (q0 : Int) * 256 = q := ⟨_, rfl⟩
      have hand' : bits BinOp.and IntKind.u64 q 1152921504606846976 = 1152921504606846976 := by rw [← hqq, ← hand]; congr 1
      rw [hqq]
      have hn0 : (q != 0) = true := by simp; omega
      have h60 : q / 1152921504606846976 = 1 := by omega
      have hsh : IntKind.u64.wrap (q * 16) = ((Sp.rest fr 0 : Nat) : Int) := by rw [IntKind.wrap_u64, Sp.rest_0 fr hfr]; omega
      have hc52 : (c : Int) ≤ 52 := by omega
      clear hand hq hlt hc hqq hq0 hp hfr
      have ha1 : bits BinOp.and IntKind.u64 1 1 = 1 := by decide +kernel
      have hr0 : ((Sp.rest fr 0 : Nat) : Int) = 0 := by have := Sp.rest_0 fr HR.out.2; omega
      obtain ⟨L, HLE⟩ : ∃ L, Hid (L = [48, 120, 49] ++ Sp.fracT fr) := ⟨_, show _ = _ from rfl⟩
      have HLE0 : Hid (L = [] ++ [48, 120, 49]) := by show _ = _; rw [HLE.out, Sp.fracT, if_pos hfr0]; simp
      clear hfr0
      obtain ⟨X, HXE⟩ : ∃ X : Int, Hid (X = e - (c : Int)) := ⟨_, show _ = _ from rfl⟩
      have HRE : Hid (RES = L ++ [112] ++ Sp.expT X) := by show _ = _; rw [HRS.out, HLE.out, HXE.out]
      clear HLE
      by_cases hsg : e - (c : Int) < 0
      · obtain ⟨n, hn⟩ : ∃ n : Nat, e - (c : Int) = -(n : Int) := ⟨(e - (c : Int)).natAbs, by omega⟩
        have HNX : Hid (X.natAbs = n) := by show _ = _; have := HXE.out; omega
        have hn0 : 0 < n := by omega
        have hnI : -(n : Int) < 0 := by omega
        have hnM : n ≤ 1200 := by omega
        have HXE : Hid (X < 0) := by show _ < _; have := HXE.out; omega
        rw [hn]
        clear hn hsg
        by_cases hn100 : n < 100
        · obtain ⟨b0, HD0, hd0'⟩ := fig (n / 10) (by omega)
          have hd0 : (n : Int) / 10 + 48 = (b0.toNat : Int) := by omega
          clear hd0'
          obtain ⟨b1, HD1, hd1'⟩ := fig (n % 10) (by omega)
          have hd1 : (n : Int) % 10 + 48 = (b1.toNat : Int) := by omega
          clear hd1'
          have HE : Hid (Sp.expT X = 45 :: [b0, b1]) := by
            show _ = _
            unfold Sp.expT
            rw [HNX.out, if_pos (by have := HXE.out; omega), Sp.dec2 hn100, HD0.out, HD1.out]
          clear HNX HXE
          go_wp2_with (first | (at_builtin; refine wpList_app _ rfl _ _ 23 rfl base 5 i0 (.int .u8 0) 1 1 Tryz.undB hi hz0 hz1 hz2 rfl (by decide) _ (0) (Sp.u8c ([])) rfl (HO.out.2.alloc _) ⟨w.heap.size, 0, none⟩ 3 3 (Sp.u8c [48, 120, 49]) rfl rfl (bytes_new w [48, 120, 49] rfl rfl) (u8c_one _) (by decide) (by unfold maxLen; omega) (by omega) (by have := hb; simp; omega) ?_; intro g1 p1 w1 hown hgrow hor; have HB1 : Hid (Below base w w1) := ((Below.refl base w).alloc hb _).grown hgrow (by have := hb; simp; omega) (fun q hq => own_ge HO.out.2 hq); have HN1 : Hid (Byts w1 base (some ⟨g1, 0, none⟩) (0 + 3) p1 ([] ++ [48, 120, 49])) := ⟨by rw [List.length_append, ← HO.out.1]; rfl, by rw [u8c_app]; exact hown⟩; have HZ1 : Hid (base ≤ w1.heap.size) := Nat.le_trans hb HB1.out.size; clear hown hgrow hor; have HN0 : Hid (Byts w1 base (some ⟨g1, 0, none⟩) (0 + 3) p1 L) := (by show Byts _ _ _ _ _ _; rw [HLE0.out]; exact HN1.out); have HB0 := HB1; have HZ0 := HZ1) | (go_at_call 102; refine (lower_x _).mono ?_; rintro e9 w9 ⟨rfl, rfl⟩) | (at_builtin; refine wpList_app _ rfl _ _ 23 rfl base 5 i0 (.int .u8 0) 1 1 Tryz.undB hi hz0 hz1 hz2 rfl (by decide) _ (0 + 3) (Sp.u8c (L)) rfl (HN0.out.2.alloc _) ⟨w1.heap.size, 0, none⟩ 1 1 (Sp.u8c [112]) rfl rfl (bytes_new w1 [112] rfl rfl) (u8c_one _) (by decide) (by unfold maxLen; omega) (by omega) (by have := HZ0.out; simp; omega) ?_; intro g6 p6 w6 hown hgrow hor; have HB6 : Hid (Below base w w6) := (HB0.out.alloc HZ0.out _).grown hgrow (by have := HZ0.out; simp; omega) (fun q hq => own_ge HN0.out.2 hq); have HN6 : Hid (Byts w6 base (some ⟨g6, 0, none⟩) (0 + 3 + 1) p6 (L ++ [112])) := ⟨by rw [List.length_append, ← HN0.out.1]; rfl, by rw [u8c_app]; exact hown⟩; have HZ6 : Hid (base ≤ w6.heap.size) := Nat.le_trans hb HB6.out.size; clear hown hgrow hor) | (at_builtin; refine wpList_app _ rfl _ _ 23 rfl base 5 i0 (.int .u8 0) 1 1 Tryz.undB hi hz0 hz1 hz2 rfl (by decide) _ (0 + 3 + 1) (Sp.u8c (L ++ [112])) rfl (HN6.out.2.alloc _) ⟨w6.heap.size, 0, none⟩ 1 1 (Sp.u8c [45]) rfl rfl (bytes_new w6 [45] rfl rfl) (u8c_one _) (by decide) (by unfold maxLen; omega) (by omega) (by have := HZ6.out; simp; omega) ?_; intro g7 p7 w7 hown hgrow hor; have HB7 : Hid (Below base w w7) := (HB6.out.alloc HZ6.out _).grown hgrow (by have := HZ6.out; simp; omega) (fun q hq => own_ge HN6.out.2 hq); have HN7 : Hid (Byts w7 base (some ⟨g7, 0, none⟩) (0 + 3 + 1 + 1) p7 (L ++ [112] ++ [45])) := ⟨by rw [List.length_append, ← HN6.out.1]; rfl, by rw [u8c_app]; exact hown⟩; have HZ7 : Hid (base ≤ w7.heap.size) := Nat.le_trans hb HB7.out.size; clear hown hgrow hor) | (at_builtin; refine wpList_app _ rfl _ _ 23 rfl base 5 i0 (.int .u8 0) 1 1 Tryz.undB hi hz0 hz1 hz2 rfl (by decide) _ (0 + 3 + 1 + 1) (Sp.u8c (L ++ [112] ++ [45])) rfl (HN7.out.2.alloc _) ⟨w7.heap.size, 0, none⟩ 2 2 (Sp.u8c [b0, b1]) rfl rfl (bytes_new w7 [b0, b1] rfl rfl) (u8c_one _) (by decide) (by unfold maxLen; omega) (by omega) (by have := HZ7.out; simp; omega) ?_; intro g8 p8 w8 hown hgrow hor; have HB8 : Hid (Below base w w8) := (HB7.out.alloc HZ7.out _).grown hgrow (by have := HZ7.out; simp; omega) (fun q hq => own_ge HN7.out.2 hq); have HN8 : Hid (Byts w8 base (some ⟨g8, 0, none⟩) (0 + 3 + 1 + 1 + 2) p8 (L ++ [112] ++ [45] ++ [b0, b1])) := ⟨by rw [List.length_append, ← HN7.out.1]; rfl, by rw [u8c_app]; exact hown⟩; have HZ8 : Hid (base ≤ w8.heap.size) := Nat.le_trans hb HB8.out.size; clear hown hgrow hor))
          go_ret
          have HR8 : Hid (L ++ [112] ++ [45] ++ [b0, b1] = RES) := by show _ = _; rw [HRE.out, HE.out]; simp
          have e8 : 0 + 3 + 1 + 1 + 2 = ([] : List UInt8).length + RES.length := by
            have := HN8.out.1
            rw [HR8.out] at this
            rw [this]; simp
          refine ⟨some ⟨g8, 0, none⟩, p8, ?_, ?_, HB8.out⟩
          · rw [← e8]; rfl
          · rw [← e8, List.nil_append, ← HR8.out]; exact HN8.out
        · by_cases hn1000 : n < 1000
          · obtain ⟨b0, HD0, hd0'⟩ := fig (n / 100) (by omega)
            have hd0 : (n : Int) / 100 + 48 = (b0.toNat : Int) := by omega
            clear hd0'
            obtain ⟨b1, HD1, hd1'⟩ := fig (n / 10 % 10) (by omega)
            have hd1 : (n : Int) / 10 % 10 + 48 = (b1.toNat : Int) := by omega
            clear hd1'
            obtain ⟨b2, HD2, hd2'⟩ := fig (n % 10) (by omega)
            have hd2 : (n : Int) % 10 + 48 = (b2.toNat : Int) := by omega
            clear hd2'
            have HE : Hid (Sp.expT X = 45 :: [b0, b1, b2]) := by
              show _ = _
              unfold Sp.expT
              rw [HNX.out, if_pos (by have := HXE.out; omega), Sp.dec3 hn100 hn1000, HD0.out, HD1.out, HD2.out]
            clear HNX HXE
            go_wp2_with (first | (at_builtin; refine wpList_app _ rfl _ _ 23 rfl base 5 i0 (.int .u8 0) 1 1 Tryz.undB hi hz0 hz1 hz2 rfl (by decide) _ (0) (Sp.u8c ([])) rfl (HO.out.2.alloc _) ⟨w.heap.size, 0, none⟩ 3 3 (Sp.u8c [48, 120, 49]) rfl rfl (bytes_new w [48, 120, 49] rfl rfl) (u8c_one _) (by decide) (by unfold maxLen; omega) (by omega) (by have := hb; simp; omega) ?_; intro g1 p1 w1 hown hgrow hor; have HB1 : Hid (Below base w w1) := ((Below.refl base w).alloc hb _).grown hgrow (by have := hb; simp; omega) (fun q hq => own_ge HO.out.2 hq); have HN1 : Hid (Byts w1 base (some ⟨g1, 0, none⟩) (0 + 3) p1 ([] ++ [48, 120, 49])) := ⟨by rw [List.length_append, ← HO.out.1]; rfl, by rw [u8c_app]; exact hown⟩; have HZ1 : Hid (base ≤ w1.heap.size) := Nat.le_trans hb HB1.out.size; clear hown hgrow hor; have HN0 : Hid (Byts w1 base (some ⟨g1, 0, none⟩) (0 + 3) p1 L) := (by show Byts _ _ _ _ _ _; rw [HLE0.out]; exact HN1.out); have HB0 := HB1; have HZ0 := HZ1) | (go_at_call 102; refine (lower_x _).mono ?_; rintro e9 w9 ⟨rfl, rfl⟩) | (at_builtin; refine wpList_app _ rfl _ _ 23 rfl base 5 i0 (.int .u8 0) 1 1 Tryz.undB hi hz0 hz1 hz2 rfl (by decide) _ (0 + 3) (Sp.u8c (L)) rfl (HN0.out.2.alloc _) ⟨w1.heap.size, 0, none⟩ 1 1 (Sp.u8c [112]) rfl rfl (bytes_new w1 [112] rfl rfl) (u8c_one _) (by decide) (by unfold maxLen; omega) (by omega) (by have := HZ0.out; simp; omega) ?_; intro g6 p6 w6 hown hgrow hor; have HB6 : Hid (Below base w w6) := (HB0.out.alloc HZ0.out _).grown hgrow (by have := HZ0.out; simp; omega) (fun q hq => own_ge HN0.out.2 hq); have HN6 : Hid (Byts w6 base (some ⟨g6, 0, none⟩) (0 + 3 + 1) p6 (L ++ [112])) := ⟨by rw [List.length_append, ← HN0.out.1]; rfl, by rw [u8c_app]; exact hown⟩; have HZ6 : Hid (base ≤ w6.heap.size) := Nat.le_trans hb HB6.out.size; clear hown hgrow hor) | (at_builtin; refine wpList_app _ rfl _ _ 23 rfl base 5 i0 (.int .u8 0) 1 1 Tryz.undB hi hz0 hz1 hz2 rfl (by decide) _ (0 + 3 + 1) (Sp.u8c (L ++ [112])) rfl (HN6.out.2.alloc _) ⟨w6.heap.size, 0, none⟩ 1 1 (Sp.u8c [45]) rfl rfl (bytes_new w6 [45] rfl rfl) (u8c_one _) (by decide) (by unfold maxLen; omega) (by omega) (by have := HZ6.out; simp; omega) ?_; intro g7 p7 w7 hown hgrow hor; have HB7 : Hid (Below base w w7) := (HB6.out.alloc HZ6.out _).grown hgrow (by have := HZ6.out; simp; omega) (fun q hq => own_ge HN6.out.2 hq); have HN7 : Hid (Byts w7 base (some ⟨g7, 0, none⟩) (0 + 3 + 1 + 1) p7 (L ++ [112] ++ [45])) := ⟨by rw [List.length_append, ← HN6.out.1]; rfl, by rw [u8c_app]; exact hown⟩; have HZ7 : Hid (base ≤ w7.heap.size) := Nat.le_trans hb HB7.out.size; clear hown hgrow hor) | (at_builtin; refine wpList_app _ rfl _ _ 23 rfl base 5 i0 (.int .u8 0) 1 1 Tryz.undB hi hz0 hz1 hz2 rfl (by decide) _ (0 + 3 + 1 + 1) (Sp.u8c (L ++ [112] ++ [45])) rfl (HN7.out.2.alloc _) ⟨w7.heap.size, 0, none⟩ 3 3 (Sp.u8c [b0, b1, b2]) rfl rfl (bytes_new w7 [b0, b1, b2] rfl rfl) (u8c_one _) (by decide) (by unfold maxLen; omega) (by omega) (by have := HZ7.out; simp; omega) ?_; intro g8 p8 w8 hown hgrow hor; have HB8 : Hid (Below base w w8) := (HB7.out.alloc HZ7.out _).grown hgrow (by have := HZ7.out; simp; omega) (fun q hq => own_ge HN7.out.2 hq); have HN8 : Hid (Byts w8 base (some ⟨g8, 0, none⟩) (0 + 3 + 1 + 1 + 3) p8 (L ++ [112] ++ [45] ++ [b0, b1, b2])) := ⟨by rw [List.length_append, ← HN7.out.1]; rfl, by rw [u8c_app]; exact hown⟩; have HZ8 : Hid (base ≤ w8.heap.size) := Nat.le_trans hb HB8.out.size; clear hown hgrow hor))
            go_ret
            have HR8 : Hid (L ++ [112] ++ [45] ++ [b0, b1, b2] = RES) := by show _ = _; rw [HRE.out, HE.out]; simp
            have e8 : 0 + 3 + 1 + 1 + 3 = ([] : List UInt8).length + RES.length := by
              have := HN8.out.1
              rw [HR8.out] at this
              rw [this]; simp
            refine ⟨some ⟨g8, 0, none⟩, p8, ?_, ?_, HB8.out⟩
            · rw [← e8]; rfl
            · rw [← e8, List.nil_append, ← HR8.out]; exact HN8.out
          · obtain ⟨b0, HD0, hd0'⟩ := fig (n / 1000) (by omega)
            have hd0 : (n : Int) / 1000 + 48 = (b0.toNat : Int) := by omega
            clear hd0'
            obtain ⟨b1, HD1, hd1'⟩ := fig (n / 100 % 10) (by omega)
            have hd1 : (n : Int) / 100 % 10 + 48 = (b1.toNat : Int) := by omega
            clear hd1'
            obtain ⟨b2, HD2, hd2'⟩ := fig (n / 10 % 10) (by omega)
            have hd2 : (n : Int) / 10 % 10 + 48 = (b2.toNat : Int) := by omega
            clear hd2'
            obtain ⟨b3, HD3, hd3'⟩ := fig (n % 10) (by omega)
            have hd3 : (n : Int) % 10 + 48 = (b3.toNat : Int) := by omega
            clear hd3'
            have HE : Hid (Sp.expT X = 45 :: [b0, b1, b2, b3]) := by
              show _ = _
              unfold Sp.expT
              rw [HNX.out, if_pos (by have := HXE.out; omega), Sp.dec4 hn1000 (by omega), HD0.out, HD1.out, HD2.out, HD3.out]
            clear HNX HXE
            go_wp2_with (first | (at_builtin; refine wpList_app _ rfl _ _ 23 rfl base 5 i0 (.int .u8 0) 1 1 Tryz.undB hi hz0 hz1 hz2 rfl (by decide) _ (0) (Sp.u8c ([])) rfl (HO.out.2.alloc _) ⟨w.heap.size, 0, none⟩ 3 3 (Sp.u8c [48, 120, 49]) rfl rfl (bytes_new w [48, 120, 49] rfl rfl) (u8c_one _) (by decide) (by unfold maxLen; omega) (by omega) (by have := hb; simp; omega) ?_; intro g1 p1 w1 hown hgrow hor; have HB1 : Hid (Below base w w1) := ((Below.refl base w).alloc hb _).grown hgrow (by have := hb; simp; omega) (fun q hq => own_ge HO.out.2 hq); have HN1 : Hid (Byts w1 base (some ⟨g1, 0, none⟩) (0 + 3) p1 ([] ++ [48, 120, 49])) := ⟨by rw [List.length_append, ← HO.out.1]; rfl, by rw [u8c_app]; exact hown⟩; have HZ1 : Hid (base ≤ w1.heap.size) := Nat.le_trans hb HB1.out.size; clear hown hgrow hor; have HN0 : Hid (Byts w1 base (some ⟨g1, 0, none⟩) (0 + 3) p1 L) := (by show Byts _ _ _ _ _ _; rw [HLE0.out]; exact HN1.out); have HB0 := HB1; have HZ0 := HZ1) | (go_at_call 102; refine (lower_x _).mono ?_; rintro e9 w9 ⟨rfl, rfl⟩) | (at_builtin; refine wpList_app _ rfl _ _ 23 rfl base 5 i0 (.int .u8 0) 1 1 Tryz.undB hi hz0 hz1 hz2 rfl (by decide) _ (0 + 3) (Sp.u8c (L)) rfl (HN0.out.2.alloc _) ⟨w1.heap.size, 0, none⟩ 1 1 (Sp.u8c [112]) rfl rfl (bytes_new w1 [112] rfl rfl) (u8c_one _) (by decide) (by unfold maxLen; omega) (by omega) (by have := HZ0.out; simp; omega) ?_; intro g6 p6 w6 hown hgrow hor; have HB6 : Hid (Below base w w6) := (HB0.out.alloc HZ0.out _).grown hgrow (by have := HZ0.out; simp; omega) (fun q hq => own_ge HN0.out.2 hq); have HN6 : Hid (Byts w6 base (some ⟨g6, 0, none⟩) (0 + 3 + 1) p6 (L ++ [112])) := ⟨by rw [List.length_append, ← HN0.out.1]; rfl, by rw [u8c_app]; exact hown⟩; have HZ6 : Hid (base ≤ w6.heap.size) := Nat.le_trans hb HB6.out.size; clear hown hgrow hor) | (at_builtin; refine wpList_app _ rfl _ _ 23 rfl base 5 i0 (.int .u8 0) 1 1 Tryz.undB hi hz0 hz1 hz2 rfl (by decide) _ (0 + 3 + 1) (Sp.u8c (L ++ [112])) rfl (HN6.out.2.alloc _) ⟨w6.heap.size, 0, none⟩ 1 1 (Sp.u8c [45]) rfl rfl (bytes_new w6 [45] rfl rfl) (u8c_one _) (by decide) (by unfold maxLen; omega) (by omega) (by have := HZ6.out; simp; omega) ?_; intro g7 p7 w7 hown hgrow hor; have HB7 : Hid (Below base w w7) := (HB6.out.alloc HZ6.out _).grown hgrow (by have := HZ6.out; simp; omega) (fun q hq => own_ge HN6.out.2 hq); have HN7 : Hid (Byts w7 base (some ⟨g7, 0, none⟩) (0 + 3 + 1 + 1) p7 (L ++ [112] ++ [45])) := ⟨by rw [List.length_append, ← HN6.out.1]; rfl, by rw [u8c_app]; exact hown⟩; have HZ7 : Hid (base ≤ w7.heap.size) := Nat.le_trans hb HB7.out.size; clear hown hgrow hor) | (at_builtin; refine wpList_app _ rfl _ _ 23 rfl base 5 i0 (.int .u8 0) 1 1 Tryz.undB hi hz0 hz1 hz2 rfl (by decide) _ (0 + 3 + 1 + 1) (Sp.u8c (L ++ [112] ++ [45])) rfl (HN7.out.2.alloc _) ⟨w7.heap.size, 0, none⟩ 4 4 (Sp.u8c [b0, b1, b2, b3]) rfl rfl (bytes_new w7 [b0, b1, b2, b3] rfl rfl) (u8c_one _) (by decide) (by unfold maxLen; omega) (by omega) (by have := HZ7.out; simp; omega) ?_; intro g8 p8 w8 hown hgrow hor; have HB8 : Hid (Below base w w8) := (HB7.out.alloc HZ7.out _).grown hgrow (by have := HZ7.out; simp; omega) (fun q hq => own_ge HN7.out.2 hq); have HN8 : Hid (Byts w8 base (some ⟨g8, 0, none⟩) (0 + 3 + 1 + 1 + 4) p8 (L ++ [112] ++ [45] ++ [b0, b1, b2, b3])) := ⟨by rw [List.length_append, ← HN7.out.1]; rfl, by rw [u8c_app]; exact hown⟩; have HZ8 : Hid (base ≤ w8.heap.size) := Nat.le_trans hb HB8.out.size; clear hown hgrow hor))
            go_ret
            have HR8 : Hid (L ++ [112] ++ [45] ++ [b0, b1, b2, b3] = RES) := by show _ = _; rw [HRE.out, HE.out]; simp
            have e8 : 0 + 3 + 1 + 1 + 4 = ([] : List UInt8).length + RES.length := by
              have := HN8.out.1
              rw [HR8.out] at this
              rw [this]; simp
            refine ⟨some ⟨g8, 0, none⟩, p8, ?_, ?_, HB8.out⟩
            · rw [← e8]; rfl
            · rw [← e8, List.nil_append, ← HR8.out]; exact HN8.out
      · obtain ⟨n, hn⟩ : ∃ n : Nat, e - (c : Int) = (n : Int) := ⟨(e - (c : Int)).natAbs, by omega⟩
        have HNX : Hid (X.natAbs = n) := by show _ = _; have := HXE.out; omega
        have hnM : n ≤ 1200 := by omega
        have HXE : Hid (¬ X < 0) := by show ¬ _; have := HXE.out; omega
        rw [hn]
        clear hn hsg
        by_cases hn100 : n < 100
        · obtain ⟨b0, HD0, hd0'⟩ := fig (n / 10) (by omega)
          have hd0 : (n : Int) / 10 + 48 = (b0.toNat : Int) := by omega
          clear hd0'
          obtain ⟨b1, HD1, hd1'⟩ := fig (n % 10) (by omega)
          have hd1 : (n : Int) % 10 + 48 = (b1.toNat : Int) := by omega
          clear hd1'
          have HE : Hid (Sp.expT X = 43 :: [b0, b1]) := by
            show _ = _
            unfold Sp.expT
            rw [HNX.out, if_neg (by have := HXE.out; omega), Sp.dec2 hn100, HD0.out, HD1.out]
          clear HNX HXE
          go_wp2_with (first | (at_builtin; refine wpList_app _ rfl _ _ 23 rfl base 5 i0 (.int .u8 0) 1 1 Tryz.undB hi hz0 hz1 hz2 rfl (by decide) _ (0) (Sp.u8c ([])) rfl (HO.out.2.alloc _) ⟨w.heap.size, 0, none⟩ 3 3 (Sp.u8c [48, 120, 49]) rfl rfl (bytes_new w [48, 120, 49] rfl rfl) (u8c_one _) (by decide) (by unfold maxLen; omega) (by omega) (by have := hb; simp; omega) ?_; intro g1 p1 w1 hown hgrow hor; have HB1 : Hid (Below base w w1) := ((Below.refl base w).alloc hb _).grown hgrow (by have := hb; simp; omega) (fun q hq => own_ge HO.out.2 hq); have HN1 : Hid (Byts w1 base (some ⟨g1, 0, none⟩) (0 + 3) p1 ([] ++ [48, 120, 49])) := ⟨by rw [List.length_append, ← HO.out.1]; rfl, by rw [u8c_app]; exact hown⟩; have HZ1 : Hid (base ≤ w1.heap.size) := Nat.le_trans hb HB1.out.size; clear hown hgrow hor; have HN0 : Hid (Byts w1 base (some ⟨g1, 0, none⟩) (0 + 3) p1 L) := (by show Byts _ _ _ _ _ _; rw [HLE0.out]; exact HN1.out); have HB0 := HB1; have HZ0 := HZ1) | (go_at_call 102; refine (lower_x _).mono ?_; rintro e9 w9 ⟨rfl, rfl⟩) | (at_builtin; refine wpList_app _ rfl _ _ 23 rfl base 5 i0 (.int .u8 0) 1 1 Tryz.undB hi hz0 hz1 hz2 rfl (by decide) _ (0 + 3) (Sp.u8c (L)) rfl (HN0.out.2.alloc _) ⟨w1.heap.size, 0, none⟩ 1 1 (Sp.u8c [112]) rfl rfl (bytes_new w1 [112] rfl rfl) (u8c_one _) (by decide) (by unfold maxLen; omega) (by omega) (by have := HZ0.out; simp; omega) ?_; intro g6 p6 w6 hown hgrow hor; have HB6 : Hid (Below base w w6) := (HB0.out.alloc HZ0.out _).grown hgrow (by have := HZ0.out; simp; omega) (fun q hq => own_ge HN0.out.2 hq); have HN6 : Hid (Byts w6 base (some ⟨g6, 0, none⟩) (0 + 3 + 1) p6 (L ++ [112])) := ⟨by rw [List.length_append, ← HN0.out.1]; rfl, by rw [u8c_app]; exact hown⟩; have HZ6 : Hid (base ≤ w6.heap.size) := Nat.le_trans hb HB6.out.size; clear hown hgrow hor) | (at_builtin; refine wpList_app _ rfl _ _ 23 rfl base 5 i0 (.int .u8 0) 1 1 Tryz.undB hi hz0 hz1 hz2 rfl (by decide) _ (0 + 3 + 1) (Sp.u8c (L ++ [112])) rfl (HN6.out.2.alloc _) ⟨w6.heap.size, 0, none⟩ 1 1 (Sp.u8c [43]) rfl rfl (bytes_new w6 [43] rfl rfl) (u8c_one _) (by decide) (by unfold maxLen; omega) (by omega) (by have := HZ6.out; simp; omega) ?_; intro g7 p7 w7 hown hgrow hor; have HB7 : Hid (Below base w w7) := (HB6.out.alloc HZ6.out _).grown hgrow (by have := HZ6.out; simp; omega) (fun q hq => own_ge HN6.out.2 hq); have HN7 : Hid (Byts w7 base (some ⟨g7, 0, none⟩) (0 + 3 + 1 + 1) p7 (L ++ [112] ++ [43])) := ⟨by rw [List.length_append, ← HN6.out.1]; rfl, by rw [u8c_app]; exact hown⟩; have HZ7 : Hid (base ≤ w7.heap.size) := Nat.le_trans hb HB7.out.size; clear hown hgrow hor) | (at_builtin; refine wpList_app _ rfl _ _ 23 rfl base 5 i0 (.int .u8 0) 1 1 Tryz.undB hi hz0 hz1 hz2 rfl (by decide) _ (0 + 3 + 1 + 1) (Sp.u8c (L ++ [112] ++ [43])) rfl (HN7.out.2.alloc _) ⟨w7.heap.size, 0, none⟩ 2 2 (Sp.u8c [b0, b1]) rfl rfl (bytes_new w7 [b0, b1] rfl rfl) (u8c_one _) (by decide) (by unfold maxLen; omega) (by omega) (by have := HZ7.out; simp; omega) ?_; intro g8 p8 w8 hown hgrow hor; have HB8 : Hid (Below base w w8) := (HB7.out.alloc HZ7.out _).grown hgrow (by have := HZ7.out; simp; omega) (fun q hq => own_ge HN7.out.2 hq); have HN8 : Hid (Byts w8 base (some ⟨g8, 0, none⟩) (0 + 3 + 1 + 1 + 2) p8 (L ++ [112] ++ [43] ++ [b0, b1])) := ⟨by rw [List.length_append, ← HN7.out.1]; rfl, by rw [u8c_app]; exact hown⟩; have HZ8 : Hid (base ≤ w8.heap.size) := Nat.le_trans hb HB8.out.size; clear hown hgrow hor))
          go_ret
          have HR8 : Hid (L ++ [112] ++ [43] ++ [b0, b1] = RES) := by show _ = _; rw [HRE.out, HE.out]; simp
          have e8 : 0 + 3 + 1 + 1 + 2 = ([] : List UInt8).length + RES.length := by
            have := HN8.out.1
            rw [HR8.out] at this
            rw [this]; simp
          refine ⟨some ⟨g8, 0, none⟩, p8, ?_, ?_, HB8.out⟩
          · rw [← e8]; rfl
          · rw [← e8, List.nil_append, ← HR8.out]; exact HN8.out
        · by_cases hn1000 : n < 1000
          · obtain ⟨b0, HD0, hd0'⟩ := fig (n / 100) (by omega)
            have hd0 : (n : Int) / 100 + 48 = (b0.toNat : Int) := by omega
            clear hd0'
            obtain ⟨b1, HD1, hd1'⟩ := fig (n / 10 % 10) (by omega)
            have hd1 : (n : Int) / 10 % 10 + 48 = (b1.toNat : Int) := by omega
            clear hd1'
            obtain ⟨b2, HD2, hd2'⟩ := fig (n % 10) (by omega)
            have hd2 : (n : Int) % 10 + 48 = (b2.toNat : Int) := by omega
            clear hd2'
            have HE : Hid (Sp.expT X = 43 :: [b0, b1, b2]) := by
              show _ = _
              unfold Sp.expT
              rw [HNX.out, if_neg (by have := HXE.out; omega), Sp.dec3 hn100 hn1000, HD0.out, HD1.out, HD2.out]
            clear HNX HXE
            go_wp2_with (first | (at_builtin; refine wpList_app _ rfl _ _ 23 rfl base 5 i0 (.int .u8 0) 1 1 Tryz.undB hi hz0 hz1 hz2 rfl (by decide) _ (0) (Sp.u8c ([])) rfl (HO.out.2.alloc _) ⟨w.heap.size, 0, none⟩ 3 3 (Sp.u8c [48, 120, 49]) rfl rfl (bytes_new w [48, 120, 49] rfl rfl) (u8c_one _) (by decide) (by unfold maxLen; omega) (by omega) (by have := hb; simp; omega) ?_; intro g1 p1 w1 hown hgrow hor; have HB1 : Hid (Below base w w1) := ((Below.refl base w).alloc hb _).grown hgrow (by have := hb; simp; omega) (fun q hq => own_ge HO.out.2 hq); have HN1 : Hid (Byts w1 base (some ⟨g1, 0, none⟩) (0 + 3) p1 ([] ++ [48, 120, 49])) := ⟨by rw [List.length_append, ← HO.out.1]; rfl, by rw [u8c_app]; exact hown⟩; have HZ1 : Hid (base ≤ w1.heap.size) := Nat.le_trans hb HB1.out.size; clear hown hgrow hor; have HN0 : Hid (Byts w1 base (some ⟨g1, 0, none⟩) (0 + 3) p1 L) := (by show Byts _ _ _ _ _ _; rw [HLE0.out]; exact HN1.out); have HB0 := HB1; have HZ0 := HZ1) | (go_at_call 102; refine (lower_x _).mono ?_; rintro e9 w9 ⟨rfl, rfl⟩) | (at_builtin; refine wpList_app _ rfl _ _ 23 rfl base 5 i0 (.int .u8 0) 1 1 Tryz.undB hi hz0 hz1 hz2 rfl (by decide) _ (0 + 3) (Sp.u8c (L)) rfl (HN0.out.2.alloc _) ⟨w1.heap.size, 0, none⟩ 1 1 (Sp.u8c [112]) rfl rfl (bytes_new w1 [112] rfl rfl) (u8c_one _) (by decide) (by unfold maxLen; omega) (by omega) (by have := HZ0.out; simp; omega) ?_; intro g6 p6 w6 hown hgrow hor; have HB6 : Hid (Below base w w6) := (HB0.out.alloc HZ0.out _).grown hgrow (by have := HZ0.out; simp; omega) (fun q hq => own_ge HN0.out.2 hq); have HN6 : Hid (Byts w6 base (some ⟨g6, 0, none⟩) (0 + 3 + 1) p6 (L ++ [112])) := ⟨by rw [List.length_append, ← HN0.out.1]; rfl, by rw [u8c_app]; exact hown⟩; have HZ6 : Hid (base ≤ w6.heap.size) := Nat.le_trans hb HB6.out.size; clear hown hgrow hor) | (at_builtin; refine wpList_app _ rfl _ _ 23 rfl base 5 i0 (.int .u8 0) 1 1 Tryz.undB hi hz0 hz1 hz2 rfl (by decide) _ (0 + 3 + 1) (Sp.u8c (L ++ [112])) rfl (HN6.out.2.alloc _) ⟨w6.heap.size, 0, none⟩ 1 1 (Sp.u8c [43]) rfl rfl (bytes_new w6 [43] rfl rfl) (u8c_one _) (by decide) (by unfold maxLen; omega) (by omega) (by have := HZ6.out; simp; omega) ?_; intro g7 p7 w7 hown hgrow hor; have HB7 : Hid (Below base w w7) := (HB6.out.alloc HZ6.out _).grown hgrow (by have := HZ6.out; simp; omega) (fun q hq => own_ge HN6.out.2 hq); have HN7 : Hid (Byts w7 base (some ⟨g7, 0, none⟩) (0 + 3 + 1 + 1) p7 (L ++ [112] ++ [43])) := ⟨by rw [List.length_append, ← HN6.out.1]; rfl, by rw [u8c_app]; exact hown⟩; have HZ7 : Hid (base ≤ w7.heap.size) := Nat.le_trans hb HB7.out.size; clear hown hgrow hor) | (at_builtin; refine wpList_app _ rfl _ _ 23 rfl base 5 i0 (.int .u8 0) 1 1 Tryz.undB hi hz0 hz1 hz2 rfl (by decide) _ (0 + 3 + 1 + 1) (Sp.u8c (L ++ [112] ++ [43])) rfl (HN7.out.2.alloc _) ⟨w7.heap.size, 0, none⟩ 3 3 (Sp.u8c [b0, b1, b2]) rfl rfl (bytes_new w7 [b0, b1, b2] rfl rfl) (u8c_one _) (by decide) (by unfold maxLen; omega) (by omega) (by have := HZ7.out; simp; omega) ?_; intro g8 p8 w8 hown hgrow hor; have HB8 : Hid (Below base w w8) := (HB7.out.alloc HZ7.out _).grown hgrow (by have := HZ7.out; simp; omega) (fun q hq => own_ge HN7.out.2 hq); have HN8 : Hid (Byts w8 base (some ⟨g8, 0, none⟩) (0 + 3 + 1 + 1 + 3) p8 (L ++ [112] ++ [43] ++ [b0, b1, b2])) := ⟨by rw [List.length_append, ← HN7.out.1]; rfl, by rw [u8c_app]; exact hown⟩; have HZ8 : Hid (base ≤ w8.heap.size) := Nat.le_trans hb HB8.out.size; clear hown hgrow hor))
            go_ret
            have HR8 : Hid (L ++ [112] ++ [43] ++ [b0, b1, b2] = RES) := by show _ = _; rw [HRE.out, HE.out]; simp
            have e8 : 0 + 3 + 1 + 1 + 3 = ([] : List UInt8).length + RES.length := by
              have := HN8.out.1
              rw [HR8.out] at this
              rw [this]; simp
            refine ⟨some ⟨g8, 0, none⟩, p8, ?_, ?_, HB8.out⟩
            · rw [← e8]; rfl
            · rw [← e8, List.nil_append, ← HR8.out]; exact HN8.out
          · obtain ⟨b0, HD0, hd0'⟩ := fig (n / 1000) (by omega)
            have hd0 : (n : Int) / 1000 + 48 = (b0.toNat : Int) := by omega
            clear hd0'
            obtain ⟨b1, HD1, hd1'⟩ := fig (n / 100 % 10) (by omega)
            have hd1 : (n : Int) / 100 % 10 + 48 = (b1.toNat : Int) := by omega
            clear hd1'
            obtain ⟨b2, HD2, hd2'⟩ := fig (n / 10 % 10) (by omega)
            have hd2 : (n : Int) / 10 % 10 + 48 = (b2.toNat : Int) := by omega
            clear hd2'
            obtain ⟨b3, HD3, hd3'⟩ := fig (n % 10) (by omega)
            have hd3 : (n : Int) % 10 + 48 = (b3.toNat : Int) := by omega
            clear hd3'
            have HE : Hid (Sp.expT X = 43 :: [b0, b1, b2, b3]) := by
              show _ = _
              unfold Sp.expT
              rw [HNX.out, if_neg (by have := HXE.out; omega), Sp.dec4 hn1000 (by omega), HD0.out, HD1.out, HD2.out, HD3.out]
            clear HNX HXE
            go_wp2_with (first | (at_builtin; refine wpList_app _ rfl _ _ 23 rfl base 5 i0 (.int .u8 0) 1 1 Tryz.undB hi hz0 hz1 hz2 rfl (by decide) _ (0) (Sp.u8c ([])) rfl (HO.out.2.alloc _) ⟨w.heap.size, 0, none⟩ 3 3 (Sp.u8c [48, 120, 49]) rfl rfl (bytes_new w [48, 120, 49] rfl rfl) (u8c_one _) (by decide) (by unfold maxLen; omega) (by omega) (by have := hb; simp; omega) ?_; intro g1 p1 w1 hown hgrow hor; have HB1 : Hid (Below base w w1) := ((Below.refl base w).alloc hb _).grown hgrow (by have := hb; simp; omega) (fun q hq => own_ge HO.out.2 hq); have HN1 : Hid (Byts w1 base (some ⟨g1, 0, none⟩) (0 + 3) p1 ([] ++ [48, 120, 49])) := ⟨by rw [List.length_append, ← HO.out.1]; rfl, by rw [u8c_app]; exact hown⟩; have HZ1 : Hid (base ≤ w1.heap.size) := Nat.le_trans hb HB1.out.size; clear hown hgrow hor; have HN0 : Hid (Byts w1 base (some ⟨g1, 0, none⟩) (0 + 3) p1 L) := (by show Byts _ _ _ _ _ _; rw [HLE0.out]; exact HN1.out); have HB0 := HB1; have HZ0 := HZ1) | (go_at_call 102; refine (lower_x _).mono ?_; rintro e9 w9 ⟨rfl, rfl⟩) | (at_builtin; refine wpList_app _ rfl _ _ 23 rfl base 5 i0 (.int .u8 0) 1 1 Tryz.undB hi hz0 hz1 hz2 rfl (by decide) _ (0 + 3) (Sp.u8c (L)) rfl (HN0.out.2.alloc _) ⟨w1.heap.size, 0, none⟩ 1 1 (Sp.u8c [112]) rfl rfl (bytes_new w1 [112] rfl rfl) (u8c_one _) (by decide) (by unfold maxLen; omega) (by omega) (by have := HZ0.out; simp; omega) ?_; intro g6 p6 w6 hown hgrow hor; have HB6 : Hid (Below base w w6) := (HB0.out.alloc HZ0.out _).grown hgrow (by have := HZ0.out; simp; omega) (fun q hq => own_ge HN0.out.2 hq); have HN6 : Hid (Byts w6 base (some ⟨g6, 0, none⟩) (0 + 3 + 1) p6 (L ++ [112])) := ⟨by rw [List.length_append, ← HN0.out.1]; rfl, by rw [u8c_app]; exact hown⟩; have HZ6 : Hid (base ≤ w6.heap.size) := Nat.le_trans hb HB6.out.size; clear hown hgrow hor) | (at_builtin; refine wpList_app _ rfl _ _ 23 rfl base 5 i0 (.int .u8 0) 1 1 Tryz.undB hi hz0 hz1 hz2 rfl (by decide) _ (0 + 3 + 1) (Sp.u8c (L ++ [112])) rfl (HN6.out.2.alloc _) ⟨w6.heap.size, 0, none⟩ 1 1 (Sp.u8c [43]) rfl rfl (bytes_new w6 [43] rfl rfl) (u8c_one _) (by decide) (by unfold maxLen; omega) (by omega) (by have := HZ6.out; simp; omega) ?_; intro g7 p7 w7 hown hgrow hor; have HB7 : Hid (Below base w w7) := (HB6.out.alloc HZ6.out _).grown hgrow (by have := HZ6.out; simp; omega) (fun q hq => own_ge HN6.out.2 hq); have HN7 : Hid (Byts w7 base (some ⟨g7, 0, none⟩) (0 + 3 + 1 + 1) p7 (L ++ [112] ++ [43])) := ⟨by rw [List.length_append, ← HN6.out.1]; rfl, by rw [u8c_app]; exact hown⟩; have HZ7 : Hid (base ≤ w7.heap.size) := Nat.le_trans hb HB7.out.size; clear hown hgrow hor) | (at_builtin; refine wpList_app _ rfl _ _ 23 rfl base 5 i0 (.int .u8 0) 1 1 Tryz.undB hi hz0 hz1 hz2 rfl (by decide) _ (0 + 3 + 1 + 1) (Sp.u8c (L ++ [112] ++ [43])) rfl (HN7.out.2.alloc _) ⟨w7.heap.size, 0, none⟩ 4 4 (Sp.u8c [b0, b1, b2, b3]) rfl rfl (bytes_new w7 [b0, b1, b2, b3] rfl rfl) (u8c_one _) (by decide) (by unfold maxLen; omega) (by omega) (by have := HZ7.out; simp; omega) ?_; intro g8 p8 w8 hown hgrow hor; have HB8 : Hid (Below base w w8) := (HB7.out.alloc HZ7.out _).grown hgrow (by have := HZ7.out; simp; omega) (fun q hq => own_ge HN7.out.2 hq); have HN8 : Hid (Byts w8 base (some ⟨g8, 0, none⟩) (0 + 3 + 1 + 1 + 4) p8 (L ++ [112] ++ [43] ++ [b0, b1, b2, b3])) := ⟨by rw [List.length_append, ← HN7.out.1]; rfl, by rw [u8c_app]; exact hown⟩; have HZ8 : Hid (base ≤ w8.heap.size) := Nat.le_trans hb HB8.out.size; clear hown hgrow hor))
            go_ret
            have HR8 : Hid (L ++ [112] ++ [43] ++ [b0, b1, b2, b3] = RES) := by show _ = _; rw [HRE.out, HE.out]; simp
            have e8 : 0 + 3 + 1 + 1 + 4 = ([] : List UInt8).length + RES.length := by
              have := HN8.out.1
              rw [HR8.out] at this
              rw [this]; simp
            refine ⟨some ⟨g8, 0, none⟩, p8, ?_, ?_, HB8.out⟩
            · rw [← e8]; rfl
            · rw [← e8, List.nil_append, ← HR8.out]; exact HN8.out
end Go.Proofs.YtnndlffidifddaaGreatDoor

/- internal/strconv.fmtX: one of its cases. -/
namespace Go.Proofs.YtnndlffidifddaaGreatDoor
open Go.RowKit

set_option maxRecDepth 100000 in
set_option maxHeartbeats 2000000 in
theorem fmtX_im (m p fr : Nat) (e : Int) (a : Option Addr) (cap base : Nat) (w : World) (h : Byts w base a 0 cap []) (hb : base ≤ w.heap.size) (hm : m < 9007199254740992) (hm0 : m ≠ 0) (he0 : -1100 ≤ e) (he1 : e ≤ 1100)
    (hp : p ≤ 52) (hr : m * 2 ^ p = 4503599627370496 + fr) (hfr : fr < 4503599627370496) (hfr0 : fr = 0) (hlow : ∀ c, c < p → m * 2 ^ c < 4503599627370496) (RES : List UInt8) (hres : RES = [45, 48, 120, 49] ++ Sp.fracT fr ++ [112] ++ Sp.expT (e - (p : Int))) :
    Calls Tryz.prog 87 #[.slice a 0 cap, .int .i64 (-1), .int .u8 120, .bool true, .int .u64 (m : Int), .int .i64 e, .int .i64 52] w (AppE base [] RES w) := by
  obtain ⟨i0, hi, hz0, hz1, hz2⟩ := info_parts Tryz.infoB
  have HO : Hid (Byts w base a 0 cap []) := h
  have HR : Hid (m * 2 ^ p = 4503599627370496 + fr ∧ fr < 4503599627370496) := ⟨hr, hfr⟩
  have HLW : Hid (∀ c, c < p → m * 2 ^ c < 4503599627370496) := hlow
  have HPW : Hid (∀ c, m * 2 ^ (c + 1) = m * 2 ^ c * 2) := fun c => by rw [Nat.pow_succ, Nat.mul_assoc]
  have HRS : Hid (RES = [45, 48, 120, 49] ++ Sp.fracT fr ++ [112] ++ Sp.expT (e - (p : Int))) := hres
  clear h hr hfr hlow hres
  have d0 : ((m : Int) == 0) = false := by simp; omega
  have HMM : Hid (0 < m) := by show 0 < m; omega
  clear hm0
  go_enter Tryz.func87, Tryz.ntmps87
  go_wp2_with fail
  clear hm d0
  go_loopw [4, 5] (fun mv ev wr => ∃ c : Nat, c ≤ p ∧ ev = .int .i64 (e - (c : Int)) ∧ mv = .int .u64 ((m * 2 ^ c : Nat) * 256 : Int) ∧ w = wr) (fun _ ev _ => (intOf ev + 2000).toNat)
  case atStart => exact ⟨0, by omega, (by rw [show e - ((0 : Nat) : Int) = e by omega]), (by rw [Nat.pow_zero, Nat.mul_one]), rfl⟩
  case round =>
    obtain ⟨c, hc, rfl, rfl, rfl⟩ := hrel
    have hq0 : 0 < m * 2 ^ c := Nat.mul_pos HMM.out (Nat.two_pow_pos _)
    by_cases hlt : c < p
    · have hq := HLW.out c hlt
      have hnx := HPW.out c
      have HLT : Hid (c + 1 ≤ p) := hlt
      generalize m * 2 ^ c = q0 at hq hnx hq0 ⊢
      have hand := and60 (q0 * 256) (by omega)
      rw [if_neg (by omega)] at hand
      obtain ⟨q, hqq⟩ : ∃ q : Int, (q0 : Int) * 256 = q := ⟨_, rfl⟩
      have hand' : bits BinOp.and IntKind.u64 q 1152921504606846976 = 0 := by rw [← hqq, ← hand]; congr 1
      rw [hqq]
      have HNX : Hid (((m * 2 ^ (c + 1) : Nat) : Int) * 256 = q * 2) := by show _ = _; rw [hnx]; omega
      have hn0 : (q != 0) = true := by simp; omega
      have hqI : q < 1152921504606846976 := by omega
      have hqJ : 0 ≤ q := by omega
      have hc52 : (c : Int) ≤ 52 := by omega
      clear hand hnx hq hlt hc hqq hq0 hp
      go_wp2_with fail
      refine ⟨⟨c + 1, HLT.out, ?_, ?_, trivial⟩, ?_⟩
      · exact congrArg (Value.int .i64) (by omega)
      · rw [HNX.out]
      · simp [intOf]; omega
    · obtain rfl : c = p := by omega
      have hq := HR.out.1
      have hfr := HR.out.2
      generalize m * 2 ^ c = q0 at hq hq0 ⊢
      have hand := and60 (q0 * 256) (by omega)
      rw [if_pos (by omega)] at hand
      obtain ⟨q, hqq⟩ : ∃ q : Int, (q0 : Int) * 256 = q := ⟨_, rfl⟩
      have hand' : bits BinOp.and IntKind.u64 q 1152921504606846976 = 1152921504606846976 := by rw [← hqq, ← hand]; congr 1
      rw [hqq]
      have hn0 : (q != 0) = true := by simp; omega
      have h60 : q / 1152921504606846976 = 1 := by omega
      have hsh : IntKind.u64.wrap (q * 16) = ((Sp.rest fr 0 : Nat) : Int) := by rw [IntKind.wrap_u64, Sp.rest_0 fr hfr]; omega
      have hc52 : (c : Int) ≤ 52 := by omega
      clear hand hq hlt hc hqq hq0 hp hfr
      have ha1 : bits BinOp.and IntKind.u64 1 1 = 1 := by decide +kernel
      have hr0 : ((Sp.rest fr 0 : Nat) : Int) = 0 := by have := Sp.rest_0 fr HR.out.2; omega
      obtain ⟨L, HLE⟩ : ∃ L, Hid (L = [45, 48, 120, 49] ++ Sp.fracT fr) := ⟨_, show _ = _ from rfl⟩
      have HLE0 : Hid (L = [] ++ [45] ++ [48, 120, 49]) := by show _ = _; rw [HLE.out, Sp.fracT, if_pos hfr0]; simp
      clear hfr0
      obtain ⟨X, HXE⟩ : ∃ X : Int, Hid (X = e - (c : Int)) := ⟨_, show _ = _ from rfl⟩
      have HRE : Hid (RES = L ++ [112] ++ Sp.expT X) := by show _ = _; rw [HRS.out, HLE.out, HXE.out]
      clear HLE
      by_cases hsg : e - (c : Int) < 0
      · obtain ⟨n, hn⟩ : ∃ n : Nat, e - (c : Int) = -(n : Int) := ⟨(e - (c : Int)).natAbs, by omega⟩
        have HNX : Hid (X.natAbs = n) := by show _ = _; have := HXE.out; omega
        have hn0 : 0 < n := by omega
        have hnI : -(n : Int) < 0 := by omega
        have hnM : n ≤ 1200 := by omega
        have HXE : Hid (X < 0) := by show _ < _; have := HXE.out; omega
        rw [hn]
        clear hn hsg
        by_cases hn100 : n < 100
        · obtain ⟨b0, HD0, hd0'⟩ := fig (n / 10) (by omega)
          have hd0 : (n : Int) / 10 + 48 = (b0.toNat : Int) := by omega
          clear hd0'
          obtain ⟨b1, HD1, hd1'⟩ := fig (n % 10) (by omega)
          have hd1 : (n : Int) % 10 + 48 = (b1.toNat : Int) := by omega
          clear hd1'
          have HE : Hid (Sp.expT X = 45 :: [b0, b1]) := by
            show _ = _
            unfold Sp.expT
            rw [HNX.out, if_pos (by have := HXE.out; omega), Sp.dec2 hn100, HD0.out, HD1.out]
          clear HNX HXE
          go_wp2_with (first | (at_builtin; refine wpList_app _ rfl _ _ 23 rfl base 5 i0 (.int .u8 0) 1 1 Tryz.undB hi hz0 hz1 hz2 rfl (by decide) _ (0) (Sp.u8c ([])) rfl (HO.out.2.alloc _) ⟨w.heap.size, 0, none⟩ 1 1 (Sp.u8c [45]) rfl rfl (bytes_new w [45] rfl rfl) (u8c_one _) (by decide) (by unfold maxLen; omega) (by omega) (by have := hb; simp; omega) ?_; intro g3 p3 w3 hown hgrow hor; have HB3 : Hid (Below base w w3) := ((Below.refl base w).alloc hb _).grown hgrow (by have := hb; simp; omega) (fun q hq => own_ge HO.out.2 hq); have HN3 : Hid (Byts w3 base (some ⟨g3, 0, none⟩) (0 + 1) p3 ([] ++ [45])) := ⟨by rw [List.length_append, ← HO.out.1]; rfl, by rw [u8c_app]; exact hown⟩; have HZ3 : Hid (base ≤ w3.heap.size) := Nat.le_trans hb HB3.out.size; clear hown hgrow hor) | (at_builtin; refine wpList_app _ rfl _ _ 23 rfl base 5 i0 (.int .u8 0) 1 1 Tryz.undB hi hz0 hz1 hz2 rfl (by decide) _ (0 + 1) (Sp.u8c ([] ++ [45])) rfl (HN3.out.2.alloc _) ⟨w3.heap.size, 0, none⟩ 3 3 (Sp.u8c [48, 120, 49]) rfl rfl (bytes_new w3 [48, 120, 49] rfl rfl) (u8c_one _) (by decide) (by unfold maxLen; omega) (by omega) (by have := HZ3.out; simp; omega) ?_; intro g1 p1 w1 hown hgrow hor; have HB1 : Hid (Below base w w1) := (HB3.out.alloc HZ3.out _).grown hgrow (by have := HZ3.out; simp; omega) (fun q hq => own_ge HN3.out.2 hq); have HN1 : Hid (Byts w1 base (some ⟨g1, 0, none⟩) (0 + 1 + 3) p1 ([] ++ [45] ++ [48, 120, 49])) := ⟨by rw [List.length_append, ← HN3.out.1]; rfl, by rw [u8c_app]; exact hown⟩; have HZ1 : Hid (base ≤ w1.heap.size) := Nat.le_trans hb HB1.out.size; clear hown hgrow hor; have HN0 : Hid (Byts w1 base (some ⟨g1, 0, none⟩) (0 + 1 + 3) p1 L) := (by show Byts _ _ _ _ _ _; rw [HLE0.out]; exact HN1.out); have HB0 := HB1; have HZ0 := HZ1) | (go_at_call 102; refine (lower_x _).mono ?_; rintro e9 w9 ⟨rfl, rfl⟩) | (at_builtin; refine wpList_app _ rfl _ _ 23 rfl base 5 i0 (.int .u8 0) 1 1 Tryz.undB hi hz0 hz1 hz2 rfl (by decide) _ (0 + 1 + 3) (Sp.u8c (L)) rfl (HN0.out.2.alloc _) ⟨w1.heap.size, 0, none⟩ 1 1 (Sp.u8c [112]) rfl rfl (bytes_new w1 [112] rfl rfl) (u8c_one _) (by decide) (by unfold maxLen; omega) (by omega) (by have := HZ0.out; simp; omega) ?_; intro g6 p6 w6 hown hgrow hor; have HB6 : Hid (Below base w w6) := (HB0.out.alloc HZ0.out _).grown hgrow (by have := HZ0.out; simp; omega) (fun q hq => own_ge HN0.out.2 hq); have HN6 : Hid (Byts w6 base (some ⟨g6, 0, none⟩) (0 + 1 + 3 + 1) p6 (L ++ [112])) := ⟨by rw [List.length_append, ← HN0.out.1]; rfl, by rw [u8c_app]; exact hown⟩; have HZ6 : Hid (base ≤ w6.heap.size) := Nat.le_trans hb HB6.out.size; clear hown hgrow hor) | (at_builtin; refine wpList_app _ rfl _ _ 23 rfl base 5 i0 (.int .u8 0) 1 1 Tryz.undB hi hz0 hz1 hz2 rfl (by decide) _ (0 + 1 + 3 + 1) (Sp.u8c (L ++ [112])) rfl (HN6.out.2.alloc _) ⟨w6.heap.size, 0, none⟩ 1 1 (Sp.u8c [45]) rfl rfl (bytes_new w6 [45] rfl rfl) (u8c_one _) (by decide) (by unfold maxLen; omega) (by omega) (by have := HZ6.out; simp; omega) ?_; intro g7 p7 w7 hown hgrow hor; have HB7 : Hid (Below base w w7) := (HB6.out.alloc HZ6.out _).grown hgrow (by have := HZ6.out; simp; omega) (fun q hq => own_ge HN6.out.2 hq); have HN7 : Hid (Byts w7 base (some ⟨g7, 0, none⟩) (0 + 1 + 3 + 1 + 1) p7 (L ++ [112] ++ [45])) := ⟨by rw [List.length_append, ← HN6.out.1]; rfl, by rw [u8c_app]; exact hown⟩; have HZ7 : Hid (base ≤ w7.heap.size) := Nat.le_trans hb HB7.out.size; clear hown hgrow hor) | (at_builtin; refine wpList_app _ rfl _ _ 23 rfl base 5 i0 (.int .u8 0) 1 1 Tryz.undB hi hz0 hz1 hz2 rfl (by decide) _ (0 + 1 + 3 + 1 + 1) (Sp.u8c (L ++ [112] ++ [45])) rfl (HN7.out.2.alloc _) ⟨w7.heap.size, 0, none⟩ 2 2 (Sp.u8c [b0, b1]) rfl rfl (bytes_new w7 [b0, b1] rfl rfl) (u8c_one _) (by decide) (by unfold maxLen; omega) (by omega) (by have := HZ7.out; simp; omega) ?_; intro g8 p8 w8 hown hgrow hor; have HB8 : Hid (Below base w w8) := (HB7.out.alloc HZ7.out _).grown hgrow (by have := HZ7.out; simp; omega) (fun q hq => own_ge HN7.out.2 hq); have HN8 : Hid (Byts w8 base (some ⟨g8, 0, none⟩) (0 + 1 + 3 + 1 + 1 + 2) p8 (L ++ [112] ++ [45] ++ [b0, b1])) := ⟨by rw [List.length_append, ← HN7.out.1]; rfl, by rw [u8c_app]; exact hown⟩; have HZ8 : Hid (base ≤ w8.heap.size) := Nat.le_trans hb HB8.out.size; clear hown hgrow hor))
          go_ret
          have HR8 : Hid (L ++ [112] ++ [45] ++ [b0, b1] = RES) := by show _ = _; rw [HRE.out, HE.out]; simp
          have e8 : 0 + 1 + 3 + 1 + 1 + 2 = ([] : List UInt8).length + RES.length := by
            have := HN8.out.1
            rw [HR8.out] at this
            rw [this]; simp
          refine ⟨some ⟨g8, 0, none⟩, p8, ?_, ?_, HB8.out⟩
          · rw [← e8]; rfl
          · rw [← e8, List.nil_append, ← HR8.out]; exact HN8.out
        · by_cases hn1000 : n < 1000
          · obtain ⟨b0, HD0, hd0'⟩ := fig (n / 100) (by omega)
            have hd0 : (n : Int) / 100 + 48 = (b0.toNat : Int) := by omega
            clear hd0'
            obtain ⟨b1, HD1, hd1'⟩ := fig (n / 10 % 10) (by omega)
            have hd1 : (n : Int) / 10 % 10 + 48 = (b1.toNat : Int) := by omega
            clear hd1'
            obtain ⟨b2, HD2, hd2'⟩ := fig (n % 10) (by omega)
            have hd2 : (n : Int) % 10 + 48 = (b2.toNat : Int) := by omega
            clear hd2'
            have HE : Hid (Sp.expT X = 45 :: [b0, b1, b2]) := by
              show _ = _
              unfold Sp.expT
              rw [HNX.out, if_pos (by have := HXE.out; omega), Sp.dec3 hn100 hn1000, HD0.out, HD1.out, HD2.out]
            clear HNX HXE
            go_wp2_with (first | (at_builtin; refine wpList_app _ rfl _ _ 23 rfl base 5 i0 (.int .u8 0) 1 1 Tryz.undB hi hz0 hz1 hz2 rfl (by decide) _ (0) (Sp.u8c ([])) rfl (HO.out.2.alloc _) ⟨w.heap.size, 0, none⟩ 1 1 (Sp.u8c [45]) rfl rfl (bytes_new w [45] rfl rfl) (u8c_one _) (by decide) (by unfold maxLen; omega) (by omega) (by have := hb; simp; omega) ?_; intro g3 p3 w3 hown hgrow hor; have HB3 : Hid (Below base w w3) := ((Below.refl base w).alloc hb _).grown hgrow (by have := hb; simp; omega) (fun q hq => own_ge HO.out.2 hq); have HN3 : Hid (Byts w3 base (some ⟨g3, 0, none⟩) (0 + 1) p3 ([] ++ [45])) := ⟨by rw [List.length_append, ← HO.out.1]; rfl, by rw [u8c_app]; exact hown⟩; have HZ3 : Hid (base ≤ w3.heap.size) := Nat.le_trans hb HB3.out.size; clear hown hgrow hor) | (at_builtin; refine wpList_app _ rfl _ _ 23 rfl base 5 i0 (.int .u8 0) 1 1 Tryz.undB hi hz0 hz1 hz2 rfl (by decide) _ (0 + 1) (Sp.u8c ([] ++ [45])) rfl (HN3.out.2.alloc _) ⟨w3.heap.size, 0, none⟩ 3 3 (Sp.u8c [48, 120, 49]) rfl rfl (bytes_new w3 [48, 120, 49] rfl rfl) (u8c_one _) (by decide) (by unfold maxLen; omega) (by omega) (by have := HZ3.out; simp; omega) ?_; intro g1 p1 w1 hown hgrow hor; have HB1 : Hid (Below base w w1) := (HB3.out.alloc HZ3.out _).grown hgrow (by have := HZ3.out; simp; omega) (fun q hq => own_ge HN3.out.2 hq); have HN1 : Hid (Byts w1 base (some ⟨g1, 0, none⟩) (0 + 1 + 3) p1 ([] ++ [45] ++ [48, 120, 49])) := ⟨by rw [List.length_append, ← HN3.out.1]; rfl, by rw [u8c_app]; exact hown⟩; have HZ1 : Hid (base ≤ w1.heap.size) := Nat.le_trans hb HB1.out.size; clear hown hgrow hor; have HN0 : Hid (Byts w1 base (some ⟨g1, 0, none⟩) (0 + 1 + 3) p1 L) := (by show Byts _ _ _ _ _ _; rw [HLE0.out]; exact HN1.out); have HB0 := HB1; have HZ0 := HZ1) | (go_at_call 102; refine (lower_x _).mono ?_; rintro e9 w9 ⟨rfl, rfl⟩) | (at_builtin; refine wpList_app _ rfl _ _ 23 rfl base 5 i0 (.int .u8 0) 1 1 Tryz.undB hi hz0 hz1 hz2 rfl (by decide) _ (0 + 1 + 3) (Sp.u8c (L)) rfl (HN0.out.2.alloc _) ⟨w1.heap.size, 0, none⟩ 1 1 (Sp.u8c [112]) rfl rfl (bytes_new w1 [112] rfl rfl) (u8c_one _) (by decide) (by unfold maxLen; omega) (by omega) (by have := HZ0.out; simp; omega) ?_; intro g6 p6 w6 hown hgrow hor; have HB6 : Hid (Below base w w6) := (HB0.out.alloc HZ0.out _).grown hgrow (by have := HZ0.out; simp; omega) (fun q hq => own_ge HN0.out.2 hq); have HN6 : Hid (Byts w6 base (some ⟨g6, 0, none⟩) (0 + 1 + 3 + 1) p6 (L ++ [112])) := ⟨by rw [List.length_append, ← HN0.out.1]; rfl, by rw [u8c_app]; exact hown⟩; have HZ6 : Hid (base ≤ w6.heap.size) := Nat.le_trans hb HB6.out.size; clear hown hgrow hor) | (at_builtin; refine wpList_app _ rfl _ _ 23 rfl base 5 i0 (.int .u8 0) 1 1 Tryz.undB hi hz0 hz1 hz2 rfl (by decide) _ (0 + 1 + 3 + 1) (Sp.u8c (L ++ [112])) rfl (HN6.out.2.alloc _) ⟨w6.heap.size, 0, none⟩ 1 1 (Sp.u8c [45]) rfl rfl (bytes_new w6 [45] rfl rfl) (u8c_one _) (by decide) (by unfold maxLen; omega) (by omega) (by have := HZ6.out; simp; omega) ?_; intro g7 p7 w7 hown hgrow hor; have HB7 : Hid (Below base w w7) := (HB6.out.alloc HZ6.out _).grown hgrow (by have := HZ6.out; simp; omega) (fun q hq => own_ge HN6.out.2 hq); have HN7 : Hid (Byts w7 base (some ⟨g7, 0, none⟩) (0 + 1 + 3 + 1 + 1) p7 (L ++ [112] ++ [45])) := ⟨by rw [List.length_append, ← HN6.out.1]; rfl, by rw [u8c_app]; exact hown⟩; have HZ7 : Hid (base ≤ w7.heap.size) := Nat.le_trans hb HB7.out.size; clear hown hgrow hor) | (at_builtin; refine wpList_app _ rfl _ _ 23 rfl base 5 i0 (.int .u8 0) 1 1 Tryz.undB hi hz0 hz1 hz2 rfl (by decide) _ (0 + 1 + 3 + 1 + 1) (Sp.u8c (L ++ [112] ++ [45])) rfl (HN7.out.2.alloc _) ⟨w7.heap.size, 0, none⟩ 3 3 (Sp.u8c [b0, b1, b2]) rfl rfl (bytes_new w7 [b0, b1, b2] rfl rfl) (u8c_one _) (by decide) (by unfold maxLen; omega) (by omega) (by have := HZ7.out; simp; omega) ?_; intro g8 p8 w8 hown hgrow hor; have HB8 : Hid (Below base w w8) := (HB7.out.alloc HZ7.out _).grown hgrow (by have := HZ7.out; simp; omega) (fun q hq => own_ge HN7.out.2 hq); have HN8 : Hid (Byts w8 base (some ⟨g8, 0, none⟩) (0 + 1 + 3 + 1 + 1 + 3) p8 (L ++ [112] ++ [45] ++ [b0, b1, b2])) := ⟨by rw [List.length_append, ← HN7.out.1]; rfl, by rw [u8c_app]; exact hown⟩; have HZ8 : Hid (base ≤ w8.heap.size) := Nat.le_trans hb HB8.out.size; clear hown hgrow hor))
            go_ret
            have HR8 : Hid (L ++ [112] ++ [45] ++ [b0, b1, b2] = RES) := by show _ = _; rw [HRE.out, HE.out]; simp
            have e8 : 0 + 1 + 3 + 1 + 1 + 3 = ([] : List UInt8).length + RES.length := by
              have := HN8.out.1
              rw [HR8.out] at this
              rw [this]; simp
            refine ⟨some ⟨g8, 0, none⟩, p8, ?_, ?_, HB8.out⟩
            · rw [← e8]; rfl
            · rw [← e8, List.nil_append, ← HR8.out]; exact HN8.out
          · obtain ⟨b0, HD0, hd0'⟩ := fig (n / 1000) (by omega)
            have hd0 : (n : Int) / 1000 + 48 = (b0.toNat : Int) := by omega
            clear hd0'
            obtain ⟨b1, HD1, hd1'⟩ := fig (n / 100 % 10) (by omega)
            have hd1 : (n : Int) / 100 % 10 + 48 = (b1.toNat : Int) := by omega
            clear hd1'
            obtain ⟨b2, HD2, hd2'⟩ := fig (n / 10 % 10) (by omega)
            have hd2 : (n : Int) / 10 % 10 + 48 = (b2.toNat : Int) := by omega
            clear hd2'
            obtain ⟨b3, HD3, hd3'⟩ := fig (n % 10) (by omega)
            have hd3 : (n : Int) % 10 + 48 = (b3.toNat : Int) := by omega
            clear hd3'
            have HE : Hid (Sp.expT X = 45 :: [b0, b1, b2, b3]) := by
              show _ = _
              unfold Sp.expT
              rw [HNX.out, if_pos (by have := HXE.out; omega), Sp.dec4 hn1000 (by omega), HD0.out, HD1.out, HD2.out, HD3.out]
            clear HNX HXE
            go_wp2_with (first | (at_builtin; refine wpList_app _ rfl _ _ 23 rfl base 5 i0 (.int .u8 0) 1 1 Tryz.undB hi hz0 hz1 hz2 rfl (by decide) _ (0) (Sp.u8c ([])) rfl (HO.out.2.alloc _) ⟨w.heap.size, 0, none⟩ 1 1 (Sp.u8c [45]) rfl rfl (bytes_new w [45] rfl rfl) (u8c_one _) (by decide) (by unfold maxLen; omega) (by omega) (by have := hb; simp; omega) ?_; intro g3 p3 w3 hown hgrow hor; have HB3 : Hid (Below base w w3) := ((Below.refl base w).alloc hb _).grown hgrow (by have := hb; simp; omega) (fun q hq => own_ge HO.out.2 hq); have HN3 : Hid (Byts w3 base (some ⟨g3, 0, none⟩) (0 + 1) p3 ([] ++ [45])) := ⟨by rw [List.length_append, ← HO.out.1]; rfl, by rw [u8c_app]; exact hown⟩; have HZ3 : Hid (base ≤ w3.heap.size) := Nat.le_trans hb HB3.out.size; clear hown hgrow hor) | (at_builtin; refine wpList_app _ rfl _ _ 23 rfl base 5 i0 (.int .u8 0) 1 1 Tryz.undB hi hz0 hz1 hz2 rfl (by decide) _ (0 + 1) (Sp.u8c ([] ++ [45])) rfl (HN3.out.2.alloc _) ⟨w3.heap.size, 0, none⟩ 3 3 (Sp.u8c [48, 120, 49]) rfl rfl (bytes_new w3 [48, 120, 49] rfl rfl) (u8c_one _) (by decide) (by unfold maxLen; omega) (by omega) (by have := HZ3.out; simp; omega) ?_; intro g1 p1 w1 hown hgrow hor; have HB1 : Hid (Below base w w1) := (HB3.out.alloc HZ3.out _).grown hgrow (by have := HZ3.out; simp; omega) (fun q hq => own_ge HN3.out.2 hq); have HN1 : Hid (Byts w1 base (some ⟨g1, 0, none⟩) (0 + 1 + 3) p1 ([] ++ [45] ++ [48, 120, 49])) := ⟨by rw [List.length_append, ← HN3.out.1]; rfl, by rw [u8c_app]; exact hown⟩; have HZ1 : Hid (base ≤ w1.heap.size) := Nat.le_trans hb HB1.out.size; clear hown hgrow hor; have HN0 : Hid (Byts w1 base (some ⟨g1, 0, none⟩) (0 + 1 + 3) p1 L) := (by show Byts _ _ _ _ _ _; rw [HLE0.out]; exact HN1.out); have HB0 := HB1; have HZ0 := HZ1) | (go_at_call 102; refine (lower_x _).mono ?_; rintro e9 w9 ⟨rfl, rfl⟩) | (at_builtin; refine wpList_app _ rfl _ _ 23 rfl base 5 i0 (.int .u8 0) 1 1 Tryz.undB hi hz0 hz1 hz2 rfl (by decide) _ (0 + 1 + 3) (Sp.u8c (L)) rfl (HN0.out.2.alloc _) ⟨w1.heap.size, 0, none⟩ 1 1 (Sp.u8c [112]) rfl rfl (bytes_new w1 [112] rfl rfl) (u8c_one _) (by decide) (by unfold maxLen; omega) (by omega) (by have := HZ0.out; simp; omega) ?_; intro g6 p6 w6 hown hgrow hor; have HB6 : Hid (Below base w w6) := (HB0.out.alloc HZ0.out _).grown hgrow (by have := HZ0.out; simp; omega) (fun q hq => own_ge HN0.out.2 hq); have HN6 : Hid (Byts w6 base (some ⟨g6, 0, none⟩) (0 + 1 + 3 + 1) p6 (L ++ [112])) := ⟨by rw [List.length_append, ← HN0.out.1]; rfl, by rw [u8c_app]; exact hown⟩; have HZ6 : Hid (base ≤ w6.heap.size) := Nat.le_trans hb HB6.out.size; clear hown hgrow hor) | (at_builtin; refine wpList_app _ rfl _ _ 23 rfl base 5 i0 (.int .u8 0) 1 1 Tryz.undB hi hz0 hz1 hz2 rfl (by decide) _ (0 + 1 + 3 + 1) (Sp.u8c (L ++ [112])) rfl (HN6.out.2.alloc _) ⟨w6.heap.size, 0, none⟩ 1 1 (Sp.u8c [45]) rfl rfl (bytes_new w6 [45] rfl rfl) (u8c_one _) (by decide) (by unfold maxLen; omega) (by omega) (by have := HZ6.out; simp; omega) ?_; intro g7 p7 w7 hown hgrow hor; have HB7 : Hid (Below base w w7) := (HB6.out.alloc HZ6.out _).grown hgrow (by have := HZ6.out; simp; omega) (fun q hq => own_ge HN6.out.2 hq); have HN7 : Hid (Byts w7 base (some ⟨g7, 0, none⟩) (0 + 1 + 3 + 1 + 1) p7 (L ++ [112] ++ [45])) := ⟨by rw [List.length_append, ← HN6.out.1]; rfl, by rw [u8c_app]; exact hown⟩; have HZ7 : Hid (base ≤ w7.heap.size) := Nat.le_trans hb HB7.out.size; clear hown hgrow hor) | (at_builtin; refine wpList_app _ rfl _ _ 23 rfl base 5 i0 (.int .u8 0) 1 1 Tryz.undB hi hz0 hz1 hz2 rfl (by decide) _ (0 + 1 + 3 + 1 + 1) (Sp.u8c (L ++ [112] ++ [45])) rfl (HN7.out.2.alloc _) ⟨w7.heap.size, 0, none⟩ 4 4 (Sp.u8c [b0, b1, b2, b3]) rfl rfl (bytes_new w7 [b0, b1, b2, b3] rfl rfl) (u8c_one _) (by decide) (by unfold maxLen; omega) (by omega) (by have := HZ7.out; simp; omega) ?_; intro g8 p8 w8 hown hgrow hor; have HB8 : Hid (Below base w w8) := (HB7.out.alloc HZ7.out _).grown hgrow (by have := HZ7.out; simp; omega) (fun q hq => own_ge HN7.out.2 hq); have HN8 : Hid (Byts w8 base (some ⟨g8, 0, none⟩) (0 + 1 + 3 + 1 + 1 + 4) p8 (L ++ [112] ++ [45] ++ [b0, b1, b2, b3])) := ⟨by rw [List.length_append, ← HN7.out.1]; rfl, by rw [u8c_app]; exact hown⟩; have HZ8 : Hid (base ≤ w8.heap.size) := Nat.le_trans hb HB8.out.size; clear hown hgrow hor))
            go_ret
            have HR8 : Hid (L ++ [112] ++ [45] ++ [b0, b1, b2, b3] = RES) := by show _ = _; rw [HRE.out, HE.out]; simp
            have e8 : 0 + 1 + 3 + 1 + 1 + 4 = ([] : List UInt8).length + RES.length := by
              have := HN8.out.1
              rw [HR8.out] at this
              rw [this]; simp
            refine ⟨some ⟨g8, 0, none⟩, p8, ?_, ?_, HB8.out⟩
            · rw [← e8]; rfl
            · rw [← e8, List.nil_append, ← HR8.out]; exact HN8.out
      · obtain ⟨n, hn⟩ : ∃ n : Nat, e - (c : Int) = (n : Int) := ⟨(e - (c : Int)).natAbs, by omega⟩
        have HNX : Hid (X.natAbs = n) := by show _ = _; have := HXE.out; omega
        have hnM : n ≤ 1200 := by omega
        have HXE : Hid (¬ X < 0) := by show ¬ _; have := HXE.out; omega
        rw [hn]
        clear hn hsg
        by_cases hn100 : n < 100
        · obtain ⟨b0, HD0, hd0'⟩ := fig (n / 10) (by omega)
          have hd0 : (n : Int) / 10 + 48 = (b0.toNat : Int) := by omega
          clear hd0'
          obtain ⟨b1, HD1, hd1'⟩ := fig (n % 10) (by omega)
          have hd1 : (n : Int) % 10 + 48 = (b1.toNat : Int) := by omega
          clear hd1'
          have HE : Hid (Sp.expT X = 43 :: [b0, b1]) := by
            show _ = _
            unfold Sp.expT
            rw [HNX.out, if_neg (by have := HXE.out; omega), Sp.dec2 hn100, HD0.out, HD1.out]
          clear HNX HXE
          go_wp2_with (first | (at_builtin; refine wpList_app _ rfl _ _ 23 rfl base 5 i0 (.int .u8 0) 1 1 Tryz.undB hi hz0 hz1 hz2 rfl (by decide) _ (0) (Sp.u8c ([])) rfl (HO.out.2.alloc _) ⟨w.heap.size, 0, none⟩ 1 1 (Sp.u8c [45]) rfl rfl (bytes_new w [45] rfl rfl) (u8c_one _) (by decide) (by unfold maxLen; omega) (by omega) (by have := hb; simp; omega) ?_; intro g3 p3 w3 hown hgrow hor; have HB3 : Hid (Below base w w3) := ((Below.refl base w).alloc hb _).grown hgrow (by have := hb; simp; omega) (fun q hq => own_ge HO.out.2 hq); have HN3 : Hid (Byts w3 base (some ⟨g3, 0, none⟩) (0 + 1) p3 ([] ++ [45])) := ⟨by rw [List.length_append, ← HO.out.1]; rfl, by rw [u8c_app]; exact hown⟩; have HZ3 : Hid (base ≤ w3.heap.size) := Nat.le_trans hb HB3.out.size; clear hown hgrow hor) | (at_builtin; refine wpList_app _ rfl _ _ 23 rfl base 5 i0 (.int .u8 0) 1 1 Tryz.undB hi hz0 hz1 hz2 rfl (by decide) _ (0 + 1) (Sp.u8c ([] ++ [45])) rfl (HN3.out.2.alloc _) ⟨w3.heap.size, 0, none⟩ 3 3 (Sp.u8c [48, 120, 49]) rfl rfl (bytes_new w3 [48, 120, 49] rfl rfl) (u8c_one _) (by decide) (by unfold maxLen; omega) (by omega) (by have := HZ3.out; simp; omega) ?_; intro g1 p1 w1 hown hgrow hor; have HB1 : Hid (Below base w w1) := (HB3.out.alloc HZ3.out _).grown hgrow (by have := HZ3.out; simp; omega) (fun q hq => own_ge HN3.out.2 hq); have HN1 : Hid (Byts w1 base (some ⟨g1, 0, none⟩) (0 + 1 + 3) p1 ([] ++ [45] ++ [48, 120, 49])) := ⟨by rw [List.length_append, ← HN3.out.1]; rfl, by rw [u8c_app]; exact hown⟩; have HZ1 : Hid (base ≤ w1.heap.size) := Nat.le_trans hb HB1.out.size; clear hown hgrow hor; have HN0 : Hid (Byts w1 base (some ⟨g1, 0, none⟩) (0 + 1 + 3) p1 L) := (by show Byts _ _ _ _ _ _; rw [HLE0.out]; exact HN1.out); have HB0 := HB1; have HZ0 := HZ1) | (go_at_call 102; refine (lower_x _).mono ?_; rintro e9 w9 ⟨rfl, rfl⟩) | (at_builtin; refine wpList_app _ rfl _ _ 23 rfl base 5 i0 (.int .u8 0) 1 1 Tryz.undB hi hz0 hz1 hz2 rfl (by decide) _ (0 + 1 + 3) (Sp.u8c (L)) rfl (HN0.out.2.alloc _) ⟨w1.heap.size, 0, none⟩ 1 1 (Sp.u8c [112]) rfl rfl (bytes_new w1 [112] rfl rfl) (u8c_one _) (by decide) (by unfold maxLen; omega) (by omega) (by have := HZ0.out; simp; omega) ?_; intro g6 p6 w6 hown hgrow hor; have HB6 : Hid (Below base w w6) := (HB0.out.alloc HZ0.out _).grown hgrow (by have := HZ0.out; simp; omega) (fun q hq => own_ge HN0.out.2 hq); have HN6 : Hid (Byts w6 base (some ⟨g6, 0, none⟩) (0 + 1 + 3 + 1) p6 (L ++ [112])) := ⟨by rw [List.length_append, ← HN0.out.1]; rfl, by rw [u8c_app]; exact hown⟩; have HZ6 : Hid (base ≤ w6.heap.size) := Nat.le_trans hb HB6.out.size; clear hown hgrow hor) | (at_builtin; refine wpList_app _ rfl _ _ 23 rfl base 5 i0 (.int .u8 0) 1 1 Tryz.undB hi hz0 hz1 hz2 rfl (by decide) _ (0 + 1 + 3 + 1) (Sp.u8c (L ++ [112])) rfl (HN6.out.2.alloc _) ⟨w6.heap.size, 0, none⟩ 1 1 (Sp.u8c [43]) rfl rfl (bytes_new w6 [43] rfl rfl) (u8c_one _) (by decide) (by unfold maxLen; omega) (by omega) (by have := HZ6.out; simp; omega) ?_; intro g7 p7 w7 hown hgrow hor; have HB7 : Hid (Below base w w7) := (HB6.out.alloc HZ6.out _).grown hgrow (by have := HZ6.out; simp; omega) (fun q hq => own_ge HN6.out.2 hq); have HN7 : Hid (Byts w7 base (some ⟨g7, 0, none⟩) (0 + 1 + 3 + 1 + 1) p7 (L ++ [112] ++ [43])) := ⟨by rw [List.length_append, ← HN6.out.1]; rfl, by rw [u8c_app]; exact hown⟩; have HZ7 : Hid (base ≤ w7.heap.size) := Nat.le_trans hb HB7.out.size; clear hown hgrow hor) | (at_builtin; refine wpList_app _ rfl _ _ 23 rfl base 5 i0 (.int .u8 0) 1 1 Tryz.undB hi hz0 hz1 hz2 rfl (by decide) _ (0 + 1 + 3 + 1 + 1) (Sp.u8c (L ++ [112] ++ [43])) rfl (HN7.out.2.alloc _) ⟨w7.heap.size, 0, none⟩ 2 2 (Sp.u8c [b0, b1]) rfl rfl (bytes_new w7 [b0, b1] rfl rfl) (u8c_one _) (by decide) (by unfold maxLen; omega) (by omega) (by have := HZ7.out; simp; omega) ?_; intro g8 p8 w8 hown hgrow hor; have HB8 : Hid (Below base w w8) := (HB7.out.alloc HZ7.out _).grown hgrow (by have := HZ7.out; simp; omega) (fun q hq => own_ge HN7.out.2 hq); have HN8 : Hid (Byts w8 base (some ⟨g8, 0, none⟩) (0 + 1 + 3 + 1 + 1 + 2) p8 (L ++ [112] ++ [43] ++ [b0, b1])) := ⟨by rw [List.length_append, ← HN7.out.1]; rfl, by rw [u8c_app]; exact hown⟩; have HZ8 : Hid (base ≤ w8.heap.size) := Nat.le_trans hb HB8.out.size; clear hown hgrow hor))
          go_ret
          have HR8 : Hid (L ++ [112] ++ [43] ++ [b0, b1] = RES) := by show _ = _; rw [HRE.out, HE.out]; simp
          have e8 : 0 + 1 + 3 + 1 + 1 + 2 = ([] : List UInt8).length + RES.length := by
            have := HN8.out.1
            rw [HR8.out] at this
            rw [this]; simp
          refine ⟨some ⟨g8, 0, none⟩, p8, ?_, ?_, HB8.out⟩
          · rw [← e8]; rfl
          · rw [← e8, List.nil_append, ← HR8.out]; exact HN8.out
        · by_cases hn1000 : n < 1000
          · obtain ⟨b0, HD0, hd0'⟩ := fig (n / 100) (by omega)
            have hd0 : (n : Int) / 100 + 48 = (b0.toNat : Int) := by omega
            clear hd0'
            obtain ⟨b1, HD1, hd1'⟩ := fig (n / 10 % 10) (by omega)
            have hd1 : (n : Int) / 10 % 10 + 48 = (b1.toNat : Int) := by omega
            clear hd1'
            obtain ⟨b2, HD2, hd2'⟩ := fig (n % 10) (by omega)
            have hd2 : (n : Int) % 10 + 48 = (b2.toNat : Int) := by omega
            clear hd2'
            have HE : Hid (Sp.expT X = 43 :: [b0, b1, b2]) := by
              show _ = _
              unfold Sp.expT
              rw [HNX.out, if_neg (by have := HXE.out; omega), Sp.dec3 hn100 hn1000, HD0.out, HD1.out, HD2.out]
            clear HNX HXE
            go_wp2_with (first | (at_builtin; refine wpList_app _ rfl _ _ 23 rfl base 5 i0 (.int .u8 0) 1 1 Tryz.undB hi hz0 hz1 hz2 rfl (by decide) _ (0) (Sp.u8c ([])) rfl (HO.out.2.alloc _) ⟨w.heap.size, 0, none⟩ 1 1 (Sp.u8c [45]) rfl rfl (bytes_new w [45] rfl rfl) (u8c_one _) (by decide) (by unfold maxLen; omega) (by omega) (by have := hb; simp; omega) ?_; intro g3 p3 w3 hown hgrow hor; have HB3 : Hid (Below base w w3) := ((Below.refl base w).alloc hb _).grown hgrow (by have := hb; simp; omega) (fun q hq => own_ge HO.out.2 hq); have HN3 : Hid (Byts w3 base (some ⟨g3, 0, none⟩) (0 + 1) p3 ([] ++ [45])) := ⟨by rw [List.length_append, ← HO.out.1]; rfl, by rw [u8c_app]; exact hown⟩; have HZ3 : Hid (base ≤ w3.heap.size) := Nat.le_trans hb HB3.out.size; clear hown hgrow hor) | (at_builtin; refine wpList_app _ rfl _ _ 23 rfl base 5 i0 (.int .u8 0) 1 1 Tryz.undB hi hz0 hz1 hz2 rfl (by decide) _ (0 + 1) (Sp.u8c ([] ++ [45])) rfl (HN3.out.2.alloc _) ⟨w3.heap.size, 0, none⟩ 3 3 (Sp.u8c [48, 120, 49]) rfl rfl (bytes_new w3 [48, 120, 49] rfl rfl) (u8c_one _) (by decide) (by unfold maxLen; omega) (by omega) (by have := HZ3.out; simp; omega) ?_; intro g1 p1 w1 hown hgrow hor; have HB1 : Hid (Below base w w1) := (HB3.out.alloc HZ3.out _).grown hgrow (by have := HZ3.out; simp; omega) (fun q hq => own_ge HN3.out.2 hq); have HN1 : Hid (Byts w1 base (some ⟨g1, 0, none⟩) (0 + 1 + 3) p1 ([] ++ [45] ++ [48, 120, 49])) := ⟨by rw [List.length_append, ← HN3.out.1]; rfl, by rw [u8c_app]; exact hown⟩; have HZ1 : Hid (base ≤ w1.heap.size) := Nat.le_trans hb HB1.out.size; clear hown hgrow hor; have HN0 : Hid (Byts w1 base (some ⟨g1, 0, none⟩) (0 + 1 + 3) p1 L) := (by show Byts _ _ _ _ _ _; rw [HLE0.out]; exact HN1.out); have HB0 := HB1; have HZ0 := HZ1) | (go_at_call 102; refine (lower_x _).mono ?_; rintro e9 w9 ⟨rfl, rfl⟩) | (at_builtin; refine wpList_app _ rfl _ _ 23 rfl base 5 i0 (.int .u8 0) 1 1 Tryz.undB hi hz0 hz1 hz2 rfl (by decide) _ (0 + 1 + 3) (Sp.u8c (L)) rfl (HN0.out.2.alloc _) ⟨w1.heap.size, 0, none⟩ 1 1 (Sp.u8c [112]) rfl rfl (bytes_new w1 [112] rfl rfl) (u8c_one _) (by decide) (by unfold maxLen; omega) (by omega) (by have := HZ0.out; simp; omega) ?_; intro g6 p6 w6 hown hgrow hor; have HB6 : Hid (Below base w w6) := (HB0.out.alloc HZ0.out _).grown hgrow (by have := HZ0.out; simp; omega) (fun q hq => own_ge HN0.out.2 hq); have HN6 : Hid (Byts w6 base (some ⟨g6, 0, none⟩) (0 + 1 + 3 + 1) p6 (L ++ [112])) := ⟨by rw [List.length_append, ← HN0.out.1]; rfl, by rw [u8c_app]; exact hown⟩; have HZ6 : Hid (base ≤ w6.heap.size) := Nat.le_trans hb HB6.out.size; clear hown hgrow hor) | (at_builtin; refine wpList_app _ rfl _ _ 23 rfl base 5 i0 (.int .u8 0) 1 1 Tryz.undB hi hz0 hz1 hz2 rfl (by decide) _ (0 + 1 + 3 + 1) (Sp.u8c (L ++ [112])) rfl (HN6.out.2.alloc _) ⟨w6.heap.size, 0, none⟩ 1 1 (Sp.u8c [43]) rfl rfl (bytes_new w6 [43] rfl rfl) (u8c_one _) (by decide) (by unfold maxLen; omega) (by omega) (by have := HZ6.out; simp; omega) ?_; intro g7 p7 w7 hown hgrow hor; have HB7 : Hid (Below base w w7) := (HB6.out.alloc HZ6.out _).grown hgrow (by have := HZ6.out; simp; omega) (fun q hq => own_ge HN6.out.2 hq); have HN7 : Hid (Byts w7 base (some ⟨g7, 0, none⟩) (0 + 1 + 3 + 1 + 1) p7 (L ++ [112] ++ [43])) := ⟨by rw [List.length_append, ← HN6.out.1]; rfl, by rw [u8c_app]; exact hown⟩; have HZ7 : Hid (base ≤ w7.heap.size) := Nat.le_trans hb HB7.out.size; clear hown hgrow hor) | (at_builtin; refine wpList_app _ rfl _ _ 23 rfl base 5 i0 (.int .u8 0) 1 1 Tryz.undB hi hz0 hz1 hz2 rfl (by decide) _ (0 + 1 + 3 + 1 + 1) (Sp.u8c (L ++ [112] ++ [43])) rfl (HN7.out.2.alloc _) ⟨w7.heap.size, 0, none⟩ 3 3 (Sp.u8c [b0, b1, b2]) rfl rfl (bytes_new w7 [b0, b1, b2] rfl rfl) (u8c_one _) (by decide) (by unfold maxLen; omega) (by omega) (by have := HZ7.out; simp; omega) ?_; intro g8 p8 w8 hown hgrow hor; have HB8 : Hid (Below base w w8) := (HB7.out.alloc HZ7.out _).grown hgrow (by have := HZ7.out; simp; omega) (fun q hq => own_ge HN7.out.2 hq); have HN8 : Hid (Byts w8 base (some ⟨g8, 0, none⟩) (0 + 1 + 3 + 1 + 1 + 3) p8 (L ++ [112] ++ [43] ++ [b0, b1, b2])) := ⟨by rw [List.length_append, ← HN7.out.1]; rfl, by rw [u8c_app]; exact hown⟩; have HZ8 : Hid (base ≤ w8.heap.size) := Nat.le_trans hb HB8.out.size; clear hown hgrow hor))
            go_ret
            have HR8 : Hid (L ++ [112] ++ [43] ++ [b0, b1, b2] = RES) := by show _ = _; rw [HRE.out, HE.out]; simp
            have e8 : 0 + 1 + 3 + 1 + 1 + 3 = ([] : List UInt8).length + RES.length := by
              have := HN8.out.1
              rw [HR8.out] at this
              rw [this]; simp
            refine ⟨some ⟨g8, 0, none⟩, p8, ?_, ?_, HB8.out⟩
            · rw [← e8]; rfl
            · rw [← e8, List.nil_append, ← HR8.out]; exact HN8.out
          · obtain ⟨b0, HD0, hd0'⟩ := fig (n / 1000) (by omega)
            have hd0 : (n : Int) / 1000 + 48 = (b0.toNat : Int) := by omega
            clear hd0'
            obtain ⟨b1, HD1, hd1'⟩ := fig (n / 100 % 10) (by omega)
            have hd1 : (n : Int) / 100 % 10 + 48 = (b1.toNat : Int) := by omega
            clear hd1'
            obtain ⟨b2, HD2, hd2'⟩ := fig (n / 10 % 10) (by omega)
            have hd2 : (n : Int) / 10 % 10 + 48 = (b2.toNat : Int) := by omega
            clear hd2'
            obtain ⟨b3, HD3, hd3'⟩ := fig (n % 10) (by omega)
            have hd3 : (n : Int) % 10 + 48 = (b3.toNat : Int) := by omega
            clear hd3'
            have HE : Hid (Sp.expT X = 43 :: [b0, b1, b2, b3]) := by
              show _ = _
              unfold Sp.expT
              rw [HNX.out, if_neg (by have := HXE.out; omega), Sp.dec4 hn1000 (by omega), HD0.out, HD1.out, HD2.out, HD3.out]
            clear HNX HXE
            go_wp2_with (first | (at_builtin; refine wpList_app _ rfl _ _ 23 rfl base 5 i0 (.int .u8 0) 1 1 Tryz.undB hi hz0 hz1 hz2 rfl (by decide) _ (0) (Sp.u8c ([])) rfl (HO.out.2.alloc _) ⟨w.heap.size, 0, none⟩ 1 1 (Sp.u8c [45]) rfl rfl (bytes_new w [45] rfl rfl) (u8c_one _) (by decide) (by unfold maxLen; omega) (by omega) (by have := hb; simp; omega) ?_; intro g3 p3 w3 hown hgrow hor; have HB3 : Hid (Below base w w3) := ((Below.refl base w).alloc hb _).grown hgrow (by have := hb; simp; omega) (fun q hq => own_ge HO.out.2 hq); have HN3 : Hid (Byts w3 base (some ⟨g3, 0, none⟩) (0 + 1) p3 ([] ++ [45])) := ⟨by rw [List.length_append, ← HO.out.1]; rfl, by rw [u8c_app]; exact hown⟩; have HZ3 : Hid (base ≤ w3.heap.size) := Nat.le_trans hb HB3.out.size; clear hown hgrow hor) | (at_builtin; refine wpList_app _ rfl _ _ 23 rfl base 5 i0 (.int .u8 0) 1 1 Tryz.undB hi hz0 hz1 hz2 rfl (by decide) _ (0 + 1) (Sp.u8c ([] ++ [45])) rfl (HN3.out.2.alloc _) ⟨w3.heap.size, 0, none⟩ 3 3 (Sp.u8c [48, 120, 49]) rfl rfl (bytes_new w3 [48, 120, 49] rfl rfl) (u8c_one _) (by decide) (by unfold maxLen; omega) (by omega) (by have := HZ3.out; simp; omega) ?_; intro g1 p1 w1 hown hgrow hor; have HB1 : Hid (Below base w w1) := (HB3.out.alloc HZ3.out _).grown hgrow (by have := HZ3.out; simp; omega) (fun q hq => own_ge HN3.out.2 hq); have HN1 : Hid (Byts w1 base (some ⟨g1, 0, none⟩) (0 + 1 + 3) p1 ([] ++ [45] ++ [48, 120, 49])) := ⟨by rw [List.length_append, ← HN3.out.1]; rfl, by rw [u8c_app]; exact hown⟩; have HZ1 : Hid (base ≤ w1.heap.size) := Nat.le_trans hb HB1.out.size; clear hown hgrow hor; have HN0 : Hid (Byts w1 base (some ⟨g1, 0, none⟩) (0 + 1 + 3) p1 L) := (by show Byts _ _ _ _ _ _; rw [HLE0.out]; exact HN1.out); have HB0 := HB1; have HZ0 := HZ1) | (go_at_call 102; refine (lower_x _).mono ?_; rintro e9 w9 ⟨rfl, rfl⟩) | (at_builtin; refine wpList_app _ rfl _ _ 23 rfl base 5 i0 (.int .u8 0) 1 1 Tryz.undB hi hz0 hz1 hz2 rfl (by decide) _ (0 + 1 + 3) (Sp.u8c (L)) rfl (HN0.out.2.alloc _) ⟨w1.heap.size, 0, none⟩ 1 1 (Sp.u8c [112]) rfl rfl (bytes_new w1 [112] rfl rfl) (u8c_one _) (by decide) (by unfold maxLen; omega) (by omega) (by have := HZ0.out; simp; omega) ?_; intro g6 p6 w6 hown hgrow hor; have HB6 : Hid (Below base w w6) := (HB0.out.alloc HZ0.out _).grown hgrow (by have := HZ0.out; simp; omega) (fun q hq => own_ge HN0.out.2 hq); have HN6 : Hid (Byts w6 base (some ⟨g6, 0, none⟩) (0 + 1 + 3 + 1) p6 (L ++ [112])) := ⟨by rw [List.length_append, ← HN0.out.1]; rfl, by rw [u8c_app]; exact hown⟩; have HZ6 : Hid (base ≤ w6.heap.size) := Nat.le_trans hb HB6.out.size; clear hown hgrow hor) | (at_builtin; refine wpList_app _ rfl _ _ 23 rfl base 5 i0 (.int .u8 0) 1 1 Tryz.undB hi hz0 hz1 hz2 rfl (by decide) _ (0 + 1 + 3 + 1) (Sp.u8c (L ++ [112])) rfl (HN6.out.2.alloc _) ⟨w6.heap.size, 0, none⟩ 1 1 (Sp.u8c [43]) rfl rfl (bytes_new w6 [43] rfl rfl) (u8c_one _) (by decide) (by unfold maxLen; omega) (by omega) (by have := HZ6.out; simp; omega) ?_; intro g7 p7 w7 hown hgrow hor; have HB7 : Hid (Below base w w7) := (HB6.out.alloc HZ6.out _).grown hgrow (by have := HZ6.out; simp; omega) (fun q hq => own_ge HN6.out.2 hq); have HN7 : Hid (Byts w7 base (some ⟨g7, 0, none⟩) (0 + 1 + 3 + 1 + 1) p7 (L ++ [112] ++ [43])) := ⟨by rw [List.length_append, ← HN6.out.1]; rfl, by rw [u8c_app]; exact hown⟩; have HZ7 : Hid (base ≤ w7.heap.size) := Nat.le_trans hb HB7.out.size; clear hown hgrow hor) | (at_builtin; refine wpList_app _ rfl _ _ 23 rfl base 5 i0 (.int .u8 0) 1 1 Tryz.undB hi hz0 hz1 hz2 rfl (by decide) _ (0 + 1 + 3 + 1 + 1) (Sp.u8c (L ++ [112] ++ [43])) rfl (HN7.out.2.alloc _) ⟨w7.heap.size, 0, none⟩ 4 4 (Sp.u8c [b0, b1, b2, b3]) rfl rfl (bytes_new w7 [b0, b1, b2, b3] rfl rfl) (u8c_one _) (by decide) (by unfold maxLen; omega) (by omega) (by have := HZ7.out; simp; omega) ?_; intro g8 p8 w8 hown hgrow hor; have HB8 : Hid (Below base w w8) := (HB7.out.alloc HZ7.out _).grown hgrow (by have := HZ7.out; simp; omega) (fun q hq => own_ge HN7.out.2 hq); have HN8 : Hid (Byts w8 base (some ⟨g8, 0, none⟩) (0 + 1 + 3 + 1 + 1 + 4) p8 (L ++ [112] ++ [43] ++ [b0, b1, b2, b3])) := ⟨by rw [List.length_append, ← HN7.out.1]; rfl, by rw [u8c_app]; exact hown⟩; have HZ8 : Hid (base ≤ w8.heap.size) := Nat.le_trans hb HB8.out.size; clear hown hgrow hor))
            go_ret
            have HR8 : Hid (L ++ [112] ++ [43] ++ [b0, b1, b2, b3] = RES) := by show _ = _; rw [HRE.out, HE.out]; simp
            have e8 : 0 + 1 + 3 + 1 + 1 + 4 = ([] : List UInt8).length + RES.length := by
              have := HN8.out.1
              rw [HR8.out] at this
              rw [this]; simp
            refine ⟨some ⟨g8, 0, none⟩, p8, ?_, ?_, HB8.out⟩
            · rw [← e8]; rfl
            · rw [← e8, List.nil_append, ← HR8.out]; exact HN8.out
end Go.Proofs.YtnndlffidifddaaGreatDoor

/- internal/strconv.fmtX: one of its cases. -/
namespace Go.Proofs.YtnndlffidifddaaGreatDoor
open Go.RowKit


set_option maxRecDepth 100000 in
set_option maxHeartbeats 2000000 in
theorem fmtX_zp (e : Int) (a : Option Addr) (cap base : Nat) (w : World) (h : Byts w base a 0 cap []) (hb : base ≤ w.heap.size) :
    Calls Tryz.prog 87 #[.slice a 0 cap, .int .i64 (-1), .int .u8 120, .bool false, .int .u64 0, .int .i64 e, .int .i64 52] w (AppE base [] [48, 120, 48, 112, 43, 48, 48] w) := by
  obtain ⟨i0, hi, hz0, hz1, hz2⟩ := info_parts Tryz.infoB
  have HO : Hid (Byts w base a 0 cap []) := h
  clear h
  have ha0 : bits BinOp.and IntKind.u64 0 1 = 0 := by decide +kernel
  go_enter Tryz.func87, Tryz.ntmps87
  go_wp2_with fail
  go_loopw [4, 5] (fun mv ev wr => mv = .int .u64 0 ∧ ev = .int .i64 0 ∧ w = wr) (fun _ _ _ => 0)
  case atStart => exact ⟨rfl, rfl, rfl⟩
  case round =>
    obtain ⟨rfl, rfl, rfl⟩ := hrel
    go_wp2_with (first | (go_at_call 102; refine (lower_x _).mono ?_; rintro e9 w9 ⟨rfl, rfl⟩) | (at_builtin; refine wpList_app _ rfl _ _ 23 rfl base 5 i0 (.int .u8 0) 1 1 Tryz.undB hi hz0 hz1 hz2 rfl (by decide) _ (0) (Sp.u8c ([])) rfl (HO.out.2.alloc _) ⟨w.heap.size, 0, none⟩ 3 3 (Sp.u8c [48, 120, 48]) rfl rfl (bytes_new w [48, 120, 48] rfl rfl) (u8c_one _) (by decide) (by unfold maxLen; omega) (by omega) (by have := hb; simp; omega) ?_; intro g1 p1 w1 hown hgrow hor; have HB1 : Hid (Below base w w1) := ((Below.refl base w).alloc hb _).grown hgrow (by have := hb; simp; omega) (fun q hq => own_ge HO.out.2 hq); have HN1 : Hid (Byts w1 base (some ⟨g1, 0, none⟩) (0 + 3) p1 ([] ++ [48, 120, 48])) := ⟨by rw [List.length_append, ← HO.out.1]; rfl, by rw [u8c_app]; exact hown⟩; have HZ1 : Hid (base ≤ w1.heap.size) := Nat.le_trans hb HB1.out.size; clear hown hgrow hor) | (at_builtin; refine wpList_app _ rfl _ _ 23 rfl base 5 i0 (.int .u8 0) 1 1 Tryz.undB hi hz0 hz1 hz2 rfl (by decide) _ (0 + 3) (Sp.u8c ([] ++ [48, 120, 48])) rfl (HN1.out.2.alloc _) ⟨w1.heap.size, 0, none⟩ 1 1 (Sp.u8c [112]) rfl rfl (bytes_new w1 [112] rfl rfl) (u8c_one _) (by decide) (by unfold maxLen; omega) (by omega) (by have := HZ1.out; simp; omega) ?_; intro g6 p6 w6 hown hgrow hor; have HB6 : Hid (Below base w w6) := (HB1.out.alloc HZ1.out _).grown hgrow (by have := HZ1.out; simp; omega) (fun q hq => own_ge HN1.out.2 hq); have HN6 : Hid (Byts w6 base (some ⟨g6, 0, none⟩) (0 + 3 + 1) p6 ([] ++ [48, 120, 48] ++ [112])) := ⟨by rw [List.length_append, ← HN1.out.1]; rfl, by rw [u8c_app]; exact hown⟩; have HZ6 : Hid (base ≤ w6.heap.size) := Nat.le_trans hb HB6.out.size; clear hown hgrow hor) | (at_builtin; refine wpList_app _ rfl _ _ 23 rfl base 5 i0 (.int .u8 0) 1 1 Tryz.undB hi hz0 hz1 hz2 rfl (by decide) _ (0 + 3 + 1) (Sp.u8c ([] ++ [48, 120, 48] ++ [112])) rfl (HN6.out.2.alloc _) ⟨w6.heap.size, 0, none⟩ 1 1 (Sp.u8c [43]) rfl rfl (bytes_new w6 [43] rfl rfl) (u8c_one _) (by decide) (by unfold maxLen; omega) (by omega) (by have := HZ6.out; simp; omega) ?_; intro g7 p7 w7 hown hgrow hor; have HB7 : Hid (Below base w w7) := (HB6.out.alloc HZ6.out _).grown hgrow (by have := HZ6.out; simp; omega) (fun q hq => own_ge HN6.out.2 hq); have HN7 : Hid (Byts w7 base (some ⟨g7, 0, none⟩) (0 + 3 + 1 + 1) p7 ([] ++ [48, 120, 48] ++ [112] ++ [43])) := ⟨by rw [List.length_append, ← HN6.out.1]; rfl, by rw [u8c_app]; exact hown⟩; have HZ7 : Hid (base ≤ w7.heap.size) := Nat.le_trans hb HB7.out.size; clear hown hgrow hor) | (at_builtin; refine wpList_app _ rfl _ _ 23 rfl base 5 i0 (.int .u8 0) 1 1 Tryz.undB hi hz0 hz1 hz2 rfl (by decide) _ (0 + 3 + 1 + 1) (Sp.u8c ([] ++ [48, 120, 48] ++ [112] ++ [43])) rfl (HN7.out.2.alloc _) ⟨w7.heap.size, 0, none⟩ 2 2 (Sp.u8c [48, 48]) rfl rfl (bytes_new w7 [48, 48] rfl rfl) (u8c_one _) (by decide) (by unfold maxLen; omega) (by omega) (by have := HZ7.out; simp; omega) ?_; intro g8 p8 w8 hown hgrow hor; have HB8 : Hid (Below base w w8) := (HB7.out.alloc HZ7.out _).grown hgrow (by have := HZ7.out; simp; omega) (fun q hq => own_ge HN7.out.2 hq); have HN8 : Hid (Byts w8 base (some ⟨g8, 0, none⟩) (0 + 3 + 1 + 1 + 2) p8 ([] ++ [48, 120, 48] ++ [112] ++ [43] ++ [48, 48])) := ⟨by rw [List.length_append, ← HN7.out.1]; rfl, by rw [u8c_app]; exact hown⟩; have HZ8 : Hid (base ≤ w8.heap.size) := Nat.le_trans hb HB8.out.size; clear hown hgrow hor))
    go_ret
    exact ⟨_, p8, rfl, HN8.out, HB8.out⟩

set_option maxRecDepth 100000 in
set_option maxHeartbeats 2000000 in
theorem fmtX_zm (e : Int) (a : Option Addr) (cap base : Nat) (w : World) (h : Byts w base a 0 cap []) (hb : base ≤ w.heap.size) :
    Calls Tryz.prog 87 #[.slice a 0 cap, .int .i64 (-1), .int .u8 120, .bool true, .int .u64 0, .int .i64 e, .int .i64 52] w (AppE base [] [45, 48, 120, 48, 112, 43, 48, 48] w) := by
  obtain ⟨i0, hi, hz0, hz1, hz2⟩ := info_parts Tryz.infoB
  have HO : Hid (Byts w base a 0 cap []) := h
  clear h
  have ha0 : bits BinOp.and IntKind.u64 0 1 = 0 := by decide +kernel
  go_enter Tryz.func87, Tryz.ntmps87
  go_wp2_with fail
  go_loopw [4, 5] (fun mv ev wr => mv = .int .u64 0 ∧ ev = .int .i64 0 ∧ w = wr) (fun _ _ _ => 0)
  case atStart => exact ⟨rfl, rfl, rfl⟩
  case round =>
    obtain ⟨rfl, rfl, rfl⟩ := hrel
    go_wp2_with (first | (go_at_call 102; refine (lower_x _).mono ?_; rintro e9 w9 ⟨rfl, rfl⟩) | (at_builtin; refine wpList_app _ rfl _ _ 23 rfl base 5 i0 (.int .u8 0) 1 1 Tryz.undB hi hz0 hz1 hz2 rfl (by decide) _ (0) (Sp.u8c ([])) rfl (HO.out.2.alloc _) ⟨w.heap.size, 0, none⟩ 1 1 (Sp.u8c [45]) rfl rfl (bytes_new w [45] rfl rfl) (u8c_one _) (by decide) (by unfold maxLen; omega) (by omega) (by have := hb; simp; omega) ?_; intro g3 p3 w3 hown hgrow hor; have HB3 : Hid (Below base w w3) := ((Below.refl base w).alloc hb _).grown hgrow (by have := hb; simp; omega) (fun q hq => own_ge HO.out.2 hq); have HN3 : Hid (Byts w3 base (some ⟨g3, 0, none⟩) (0 + 1) p3 ([] ++ [45])) := ⟨by rw [List.length_append, ← HO.out.1]; rfl, by rw [u8c_app]; exact hown⟩; have HZ3 : Hid (base ≤ w3.heap.size) := Nat.le_trans hb HB3.out.size; clear hown hgrow hor) | (at_builtin; refine wpList_app _ rfl _ _ 23 rfl base 5 i0 (.int .u8 0) 1 1 Tryz.undB hi hz0 hz1 hz2 rfl (by decide) _ (0 + 1) (Sp.u8c ([] ++ [45])) rfl (HN3.out.2.alloc _) ⟨w3.heap.size, 0, none⟩ 3 3 (Sp.u8c [48, 120, 48]) rfl rfl (bytes_new w3 [48, 120, 48] rfl rfl) (u8c_one _) (by decide) (by unfold maxLen; omega) (by omega) (by have := HZ3.out; simp; omega) ?_; intro g1 p1 w1 hown hgrow hor; have HB1 : Hid (Below base w w1) := (HB3.out.alloc HZ3.out _).grown hgrow (by have := HZ3.out; simp; omega) (fun q hq => own_ge HN3.out.2 hq); have HN1 : Hid (Byts w1 base (some ⟨g1, 0, none⟩) (0 + 1 + 3) p1 ([] ++ [45] ++ [48, 120, 48])) := ⟨by rw [List.length_append, ← HN3.out.1]; rfl, by rw [u8c_app]; exact hown⟩; have HZ1 : Hid (base ≤ w1.heap.size) := Nat.le_trans hb HB1.out.size; clear hown hgrow hor) | (at_builtin; refine wpList_app _ rfl _ _ 23 rfl base 5 i0 (.int .u8 0) 1 1 Tryz.undB hi hz0 hz1 hz2 rfl (by decide) _ (0 + 1 + 3) (Sp.u8c ([] ++ [45] ++ [48, 120, 48])) rfl (HN1.out.2.alloc _) ⟨w1.heap.size, 0, none⟩ 1 1 (Sp.u8c [112]) rfl rfl (bytes_new w1 [112] rfl rfl) (u8c_one _) (by decide) (by unfold maxLen; omega) (by omega) (by have := HZ1.out; simp; omega) ?_; intro g6 p6 w6 hown hgrow hor; have HB6 : Hid (Below base w w6) := (HB1.out.alloc HZ1.out _).grown hgrow (by have := HZ1.out; simp; omega) (fun q hq => own_ge HN1.out.2 hq); have HN6 : Hid (Byts w6 base (some ⟨g6, 0, none⟩) (0 + 1 + 3 + 1) p6 ([] ++ [45] ++ [48, 120, 48] ++ [112])) := ⟨by rw [List.length_append, ← HN1.out.1]; rfl, by rw [u8c_app]; exact hown⟩; have HZ6 : Hid (base ≤ w6.heap.size) := Nat.le_trans hb HB6.out.size; clear hown hgrow hor) | (at_builtin; refine wpList_app _ rfl _ _ 23 rfl base 5 i0 (.int .u8 0) 1 1 Tryz.undB hi hz0 hz1 hz2 rfl (by decide) _ (0 + 1 + 3 + 1) (Sp.u8c ([] ++ [45] ++ [48, 120, 48] ++ [112])) rfl (HN6.out.2.alloc _) ⟨w6.heap.size, 0, none⟩ 1 1 (Sp.u8c [43]) rfl rfl (bytes_new w6 [43] rfl rfl) (u8c_one _) (by decide) (by unfold maxLen; omega) (by omega) (by have := HZ6.out; simp; omega) ?_; intro g7 p7 w7 hown hgrow hor; have HB7 : Hid (Below base w w7) := (HB6.out.alloc HZ6.out _).grown hgrow (by have := HZ6.out; simp; omega) (fun q hq => own_ge HN6.out.2 hq); have HN7 : Hid (Byts w7 base (some ⟨g7, 0, none⟩) (0 + 1 + 3 + 1 + 1) p7 ([] ++ [45] ++ [48, 120, 48] ++ [112] ++ [43])) := ⟨by rw [List.length_append, ← HN6.out.1]; rfl, by rw [u8c_app]; exact hown⟩; have HZ7 : Hid (base ≤ w7.heap.size) := Nat.le_trans hb HB7.out.size; clear hown hgrow hor) | (at_builtin; refine wpList_app _ rfl _ _ 23 rfl base 5 i0 (.int .u8 0) 1 1 Tryz.undB hi hz0 hz1 hz2 rfl (by decide) _ (0 + 1 + 3 + 1 + 1) (Sp.u8c ([] ++ [45] ++ [48, 120, 48] ++ [112] ++ [43])) rfl (HN7.out.2.alloc _) ⟨w7.heap.size, 0, none⟩ 2 2 (Sp.u8c [48, 48]) rfl rfl (bytes_new w7 [48, 48] rfl rfl) (u8c_one _) (by decide) (by unfold maxLen; omega) (by omega) (by have := HZ7.out; simp; omega) ?_; intro g8 p8 w8 hown hgrow hor; have HB8 : Hid (Below base w w8) := (HB7.out.alloc HZ7.out _).grown hgrow (by have := HZ7.out; simp; omega) (fun q hq => own_ge HN7.out.2 hq); have HN8 : Hid (Byts w8 base (some ⟨g8, 0, none⟩) (0 + 1 + 3 + 1 + 1 + 2) p8 ([] ++ [45] ++ [48, 120, 48] ++ [112] ++ [43] ++ [48, 48])) := ⟨by rw [List.length_append, ← HN7.out.1]; rfl, by rw [u8c_app]; exact hown⟩; have HZ8 : Hid (base ≤ w8.heap.size) := Nat.le_trans hb HB8.out.size; clear hown hgrow hor))
    go_ret
    exact ⟨_, p8, rfl, HN8.out, HB8.out⟩
end Go.Proofs.YtnndlffidifddaaGreatDoor

/- internal/strconv.ftoa64, at 'x', -1, 64. -/
namespace Go.Proofs.YtnndlffidifddaaGreatDoor
open Go.RowKit

theorem bitsI_run (f : Nat) (w : World) : (callFunc 85 #[.float .f64 f]).run Tryz.prog w = .ok (.value (.int .u64 f)) w := by
  rw [run_callFunc_extern Tryz.func85 (by kernel_rfl) (by kernel_rfl) (by kernel_rfl) (e := Extern.MathFloatBits.float64bits) (by kernel_rfl)]
  rfl
theorem i64_and2047 (n : Int) : bits .and .i64 n 2047 = n % 2048 := by
  have h1 : (BitVec.ofInt 64 2047).toNat = 2 ^ 11 - 1 := by decide
  have key : (BitVec.ofInt 64 n &&& BitVec.ofInt 64 2047).toNat = (n % ((2 ^ 64 : Nat) : Int)).toNat % 2 ^ 11 := by
    rw [BitVec.toNat_and, BitVec.toNat_ofInt, h1, Nat.and_two_pow_sub_one_eq_mod]
  show IntKind.i64.wrap ((BitVec.ofInt 64 n &&& BitVec.ofInt 64 2047).toNat : Nat) = n % 2048
  rw [key, IntKind.wrap_i64]
  omega
theorem u64_and52 (f : Nat) (hf : f < 18446744073709551616) : bits .and .u64 (f : Int) 4503599627370495 = (f : Int) % 4503599627370496 := by
  have h := bits_and_u64_nat f 4503599627370495 hf (by decide)
  have h' : bits BinOp.and IntKind.u64 (f : Int) 4503599627370495 = ((f &&& 4503599627370495 : Nat) : Int) := h
  have e := Nat.and_two_pow_sub_one_eq_mod f 52
  rw [show (2 : Nat) ^ 52 - 1 = 4503599627370495 by decide, show (2 : Nat) ^ 52 = 4503599627370496 by decide] at e
  rw [h', e]; omega
theorem u64_or52 (m : Nat) (hm : m < 4503599627370496) : bits .or .u64 (m : Int) 4503599627370496 = ((m + 4503599627370496 : Nat) : Int) := by
  have h := bits_or_u64_nat m 4503599627370496 (by omega) (by decide)
  have h' : bits BinOp.or IntKind.u64 (m : Int) 4503599627370496 = ((m ||| 4503599627370496 : Nat) : Int) := h
  rw [h', nat_join52' 4503599627370496 m (by decide) hm, Nat.add_comm]

/-- fmtX, of numbers that are not nought -/
theorem fmtX_nz (neg : Bool) (m p fr : Nat) (e : Int) (a : Option Addr) (cap base : Nat) (w : World) (h : Byts w base a 0 cap []) (hb : base ≤ w.heap.size) (hm : m < 9007199254740992) (hm0 : m ≠ 0) (he0 : -1100 ≤ e) (he1 : e ≤ 1100)
    (hp : p ≤ 52) (hr : m * 2 ^ p = 4503599627370496 + fr) (hfr : fr < 4503599627370496) (hlow : ∀ c, c < p → m * 2 ^ c < 4503599627370496) :
    Calls Tryz.prog 87 #[.slice a 0 cap, .int .i64 (-1), .int .u8 120, .bool neg, .int .u64 (m : Int), .int .i64 e, .int .i64 52] w (AppE base [] ((if neg then [45] else []) ++ [48, 120, 49] ++ Sp.fracT fr ++ [112] ++ Sp.expT (e - (p : Int))) w) := by
  cases neg with
  | true =>
    by_cases h0 : fr = 0
    · exact fmtX_im m p fr e a cap base w h hb hm hm0 he0 he1 hp hr hfr h0 hlow _ rfl
    · exact fmtX_fm m p fr e a cap base w h hb hm hm0 he0 he1 hp hr hfr h0 hlow _ rfl
  | false =>
    by_cases h0 : fr = 0
    · exact fmtX_ip m p fr e a cap base w h hb hm hm0 he0 he1 hp hr hfr h0 hlow _ rfl
    · exact fmtX_fp m p fr e a cap base w h hb hm hm0 he0 he1 hp hr hfr h0 hlow _ rfl

set_option maxRecDepth 100000 in
set_option maxHeartbeats 2000000 in
theorem ftoa_norm (f : Nat) (a : Option Addr) (cap base : Nat) (w : World) (h : Byts w base a 0 cap []) (hb : base ≤ w.heap.size) (hf : f < 18446744073709551616) (h1 : Sp.fexp f ≠ 2047) (h2 : Sp.fexp f ≠ 0) (RES : List UInt8) (hres : RES = Sp.floatT f) :
    Calls Tryz.prog 65 #[.slice a 0 cap, .float .f64 f, .int .u8 120, .int .i64 (-1)] w (AppE base [] RES w) := by
  obtain ⟨hE, hM, hG⟩ := Sp.fparts f hf
  have HO : Hid (Byts w base a 0 cap []) := h
  clear h
  have hbi := bitsI_run f
  have ha1 : bits BinOp.and IntKind.i64 ((f : Int) / 4503599627370496) 2047 = (Sp.fexp f : Int) := by rw [i64_and2047, hE]
  have ha2 : bits BinOp.and IntKind.u64 (f : Int) 4503599627370495 = (Sp.fman f : Int) := by rw [u64_and52 f hf, hM]
  have hs : ((f : Int) / 9223372036854775808 != 0) = Sp.fneg f := by rw [hG]; cases Sp.fneg f <;> rfl
  have hmlt := Sp.fman_lt f
  have hlt := Sp.fexp_lt f
  have ho := u64_or52 (Sp.fman f) hmlt
  obtain ⟨M, hMM⟩ : ∃ M : Nat, Sp.fman f + 4503599627370496 = M := ⟨_, rfl⟩
  rw [hMM] at ho
  have HC : Hid (∀ W : World, Byts W base a 0 cap [] → base ≤ W.heap.size → Calls Tryz.prog 87 #[.slice a 0 cap, .int .i64 (-1), .int .u8 120, .bool (Sp.fneg f), .int .u64 (M : Int), .int .i64 ((Sp.fexp f : Int) - 1023), .int .i64 52] W (AppE base [] RES W)) := fun W hW hbW => by
    have := fmtX_nz (Sp.fneg f) M 0 (Sp.fman f) ((Sp.fexp f : Int) - 1023) a cap base W hW hbW (by omega) (by omega) (by omega) (by omega) (by omega) (by omega) hmlt (fun c hc => by omega)
    have eR : RES = (if Sp.fneg f then [45] else []) ++ [48, 120, 49] ++ Sp.fracT (Sp.fman f) ++ [112] ++ Sp.expT ((Sp.fexp f : Int) - 1023 - ((0 : Nat) : Int)) := by
      rw [hres]; unfold Sp.floatT; rw [if_neg h1, if_neg h2, Sp.signT, show (Sp.fexp f : Int) - 1023 - ((0 : Nat) : Int) = (Sp.fexp f : Int) - 1023 by omega]
    rw [eR]; exact this
  have d1 : ((Sp.fexp f : Int) == 2047) = false := by simp; omega
  have d2 : ((Sp.fexp f : Int) == 0) = false := by simp; omega
  clear h1 h2 hres hmlt hMM
  generalize Sp.fexp f = n at *
  generalize Sp.fman f = m at *
  clear hE hM hG
  generalize Sp.fneg f = neg at *
  go_enter Tryz.func65, Tryz.ntmps65
  go_wp2_with fail
  go_region
  all_goals
    go_wp2_with fail
    refine (HC.out _ ⟨rfl, HO.out.2.drew⟩ hb).mono ?_
    rintro e w1 ⟨a1, p1, rfl, hn1, hb1⟩
    have HN1 : Hid (Byts w1 base a1 (([] : List UInt8).length + RES.length) p1 ([] ++ RES)) := hn1
    have HB1 : Hid (Below base w w1) := (Below.refl base w).drew.trans hb1
    clear hn1 hb1
    go_wp2_with fail
    go_ret
    exact ⟨a1, p1, (by rw [show ([] : List UInt8).length + RES.length = RES.length by simp]; rfl), HN1.out, HB1.out⟩

set_option maxRecDepth 100000 in
set_option maxHeartbeats 2000000 in
theorem ftoa_low (f : Nat) (a : Option Addr) (cap base : Nat) (w : World) (h : Byts w base a 0 cap []) (hb : base ≤ w.heap.size) (hf : f < 18446744073709551616) (h1 : Sp.fexp f = 0) (h2 : Sp.fman f ≠ 0) (RES : List UInt8) (hres : RES = Sp.floatT f) :
    Calls Tryz.prog 65 #[.slice a 0 cap, .float .f64 f, .int .u8 120, .int .i64 (-1)] w (AppE base [] RES w) := by
  obtain ⟨hE, hM, hG⟩ := Sp.fparts f hf
  have HO : Hid (Byts w base a 0 cap []) := h
  clear h
  have hbi := bitsI_run f
  have ha1 : bits BinOp.and IntKind.i64 ((f : Int) / 4503599627370496) 2047 = (Sp.fexp f : Int) := by rw [i64_and2047, hE]
  have ha2 : bits BinOp.and IntKind.u64 (f : Int) 4503599627370495 = (Sp.fman f : Int) := by rw [u64_and52 f hf, hM]
  have hs : ((f : Int) / 9223372036854775808 != 0) = Sp.fneg f := by rw [hG]; cases Sp.fneg f <;> rfl
  have hmlt := Sp.fman_lt f
  obtain ⟨u1, u2, u3, u4⟩ := Sp.up_bd h2 hmlt
  have HC : Hid (∀ W : World, Byts W base a 0 cap [] → base ≤ W.heap.size → Calls Tryz.prog 87 #[.slice a 0 cap, .int .i64 (-1), .int .u8 120, .bool (Sp.fneg f), .int .u64 (Sp.fman f : Int), .int .i64 (-1022), .int .i64 52] W (AppE base [] RES W)) := fun W hW hbW => by
    obtain ⟨fr, hfr⟩ : ∃ fr, Sp.fman f * 2 ^ Sp.up (Sp.fman f) = 4503599627370496 + fr := ⟨Sp.fman f * 2 ^ Sp.up (Sp.fman f) - 4503599627370496, by omega⟩
    have := fmtX_nz (Sp.fneg f) (Sp.fman f) (Sp.up (Sp.fman f)) fr (-1022) a cap base W hW hbW (by omega) h2 (by omega) (by omega) u3 hfr (by omega) u4
    have eR : RES = (if Sp.fneg f then [45] else []) ++ [48, 120, 49] ++ Sp.fracT fr ++ [112] ++ Sp.expT (-1022 - ((Sp.up (Sp.fman f) : Nat) : Int)) := by
      rw [hres]; unfold Sp.floatT; rw [if_neg (by omega), if_pos h1, if_neg h2, Sp.signT, hfr, show 4503599627370496 + fr - 2 ^ 52 = fr by omega]
    rw [eR]; exact this
  rw [h1] at ha1
  have ha1' : bits BinOp.and IntKind.i64 ((f : Int) / 4503599627370496) 2047 = 0 := ha1
  clear h1 h2 hres hmlt u1 u2 u3 u4 ha1
  generalize Sp.fman f = m at *
  clear hE hM hG
  generalize Sp.fneg f = neg at *
  go_enter Tryz.func65, Tryz.ntmps65
  go_wp2_with fail
  go_region
  all_goals
    go_wp2_with fail
    refine (HC.out _ ⟨rfl, HO.out.2.drew⟩ hb).mono ?_
    rintro e w1 ⟨a1, p1, rfl, hn1, hb1⟩
    have HN1 : Hid (Byts w1 base a1 (([] : List UInt8).length + RES.length) p1 ([] ++ RES)) := hn1
    have HB1 : Hid (Below base w w1) := (Below.refl base w).drew.trans hb1
    clear hn1 hb1
    go_wp2_with fail
    go_ret
    exact ⟨a1, p1, (by rw [show ([] : List UInt8).length + RES.length = RES.length by simp]; rfl), HN1.out, HB1.out⟩

set_option maxRecDepth 100000 in
set_option maxHeartbeats 2000000 in
theorem ftoa_zero (f : Nat) (a : Option Addr) (cap base : Nat) (w : World) (h : Byts w base a 0 cap []) (hb : base ≤ w.heap.size) (hf : f < 18446744073709551616) (h1 : Sp.fexp f = 0) (h2 : Sp.fman f = 0) (RES : List UInt8) (hres : RES = Sp.floatT f) :
    Calls Tryz.prog 65 #[.slice a 0 cap, .float .f64 f, .int .u8 120, .int .i64 (-1)] w (AppE base [] RES w) := by
  obtain ⟨hE, hM, hG⟩ := Sp.fparts f hf
  have HO : Hid (Byts w base a 0 cap []) := h
  clear h
  have hbi := bitsI_run f
  have ha1 : bits BinOp.and IntKind.i64 ((f : Int) / 4503599627370496) 2047 = (Sp.fexp f : Int) := by rw [i64_and2047, hE]
  have ha2 : bits BinOp.and IntKind.u64 (f : Int) 4503599627370495 = (Sp.fman f : Int) := by rw [u64_and52 f hf, hM]
  have hs : ((f : Int) / 9223372036854775808 != 0) = Sp.fneg f := by rw [hG]; cases Sp.fneg f <;> rfl
  have HC : Hid (∀ W : World, Byts W base a 0 cap [] → base ≤ W.heap.size → Calls Tryz.prog 87 #[.slice a 0 cap, .int .i64 (-1), .int .u8 120, .bool (Sp.fneg f), .int .u64 0, .int .i64 (-1022), .int .i64 52] W (AppE base [] RES W)) := fun W hW hbW => by
    cases hn : Sp.fneg f with
    | true =>
      have eR : RES = [45, 48, 120, 48, 112, 43, 48, 48] := by rw [hres]; unfold Sp.floatT; rw [if_neg (by omega), if_pos h1, if_pos h2, Sp.signT, hn]; rfl
      rw [eR]; exact fmtX_zm (-1022) a cap base W hW hbW
    | false =>
      have eR : RES = [48, 120, 48, 112, 43, 48, 48] := by rw [hres]; unfold Sp.floatT; rw [if_neg (by omega), if_pos h1, if_pos h2, Sp.signT, hn]; rfl
      rw [eR]; exact fmtX_zp (-1022) a cap base W hW hbW
  rw [h1] at ha1
  rw [h2] at ha2
  have ha1' : bits BinOp.and IntKind.i64 ((f : Int) / 4503599627370496) 2047 = 0 := ha1
  have ha2' : bits BinOp.and IntKind.u64 (f : Int) 4503599627370495 = 0 := ha2
  clear h1 h2 hres ha1 ha2
  clear hE hM hG
  generalize Sp.fneg f = neg at *
  go_enter Tryz.func65, Tryz.ntmps65
  go_wp2_with fail
  go_region
  all_goals
    go_wp2_with fail
    refine (HC.out _ ⟨rfl, HO.out.2.drew⟩ hb).mono ?_
    rintro e w1 ⟨a1, p1, rfl, hn1, hb1⟩
    have HN1 : Hid (Byts w1 base a1 (([] : List UInt8).length + RES.length) p1 ([] ++ RES)) := hn1
    have HB1 : Hid (Below base w w1) := (Below.refl base w).drew.trans hb1
    clear hn1 hb1
    go_wp2_with fail
    go_ret
    exact ⟨a1, p1, (by rw [show ([] : List UInt8).length + RES.length = RES.length by simp]; rfl), HN1.out, HB1.out⟩

theorem ftoa_any (f : Nat) (a : Option Addr) (cap base : Nat) (w : World) (h : Byts w base a 0 cap []) (hb : base ≤ w.heap.size) (hf : f < 18446744073709551616) (h1 : Sp.fexp f ≠ 2047) :
    Calls Tryz.prog 65 #[.slice a 0 cap, .float .f64 f, .int .u8 120, .int .i64 (-1)] w (AppE base [] (Sp.floatT f) w) := by
  by_cases h2 : Sp.fexp f = 0
  · by_cases h3 : Sp.fman f = 0
    · exact ftoa_zero f a cap base w h hb hf h2 h3 _ rfl
    · exact ftoa_low f a cap base w h hb hf h2 h3 _ rfl
  · exact ftoa_norm f a cap base w h hb hf h1 h2 _ rfl
end Go.Proofs.YtnndlffidifddaaGreatDoor

/- strconv.FormatUint at the base 16, of numbers of sixteen digits. -/
namespace Go.Proofs.YtnndlffidifddaaGreatDoor
open Go.RowKit

theorem u64_and15 (f : Nat) (hf : f < 18446744073709551616) : bits .and .u64 (f : Int) 15 = ((f % 16 : Nat) : Int) := by
  have h := bits_and_u64_nat f 15 hf (by decide)
  have h' : bits BinOp.and IntKind.u64 (f : Int) 15 = ((f &&& 15 : Nat) : Int) := h
  have e := Nat.and_two_pow_sub_one_eq_mod f 4
  rw [show (2 : Nat) ^ 4 - 1 = 15 by decide, show (2 : Nat) ^ 4 = 16 by decide] at e
  rw [h', e]
def dig36 : ByteArray := ⟨#[48, 49, 50, 51, 52, 53, 54, 55, 56, 57, 97, 98, 99, 100, 101, 102, 103, 104, 105, 106, 107, 108, 109, 110, 111, 112, 113, 114, 115, 116, 117, 118, 119, 120, 121, 122]⟩
theorem dig_fin : ∀ i : Fin 16, dig36.data.toList.getD i.val 0 = Sp.hexd i.val := by decide +kernel
set_option maxRecDepth 100000 in
theorem idx_dig (k : IntKind) (z : Int) (i : Nat) (hz : z = (i : Int)) (hi : i < 16) (W : World) : (Instr.index 9 (.string ⟨#[48, 49, 50, 51, 52, 53, 54, 55, 56, 57, 97, 98, 99, 100, 101, 102, 103, 104, 105, 106, 107, 108, 109, 110, 111, 112, 113, 114, 115, 116, 117, 118, 119, 120, 121, 122]⟩) (.int k z)).run Tryz.prog W = .ok (.int .u8 ((Sp.hexd i).toNat : Int)) W := by
  subst hz
  have hs : dig36.size = 36 := rfl
  have := run_index_string (P := Tryz.prog) W 9 dig36 k (i : Int) Tryz.undSd
  rw [dif_pos ⟨by omega, by rw [hs]; omega⟩] at this
  refine this.trans ?_
  congr 3
  have e : ((i : Int)).toNat = i := by omega
  simp only [e]
  rw [← dig_fin ⟨i, hi⟩]
  have hi' : i < dig36.data.toList.length := by show i < 36; omega
  simp only [List.getD, List.getElem?_eq_getElem hi', Option.getD_some]
  rfl

set_option maxHeartbeats 400000 in
theorem isPow_16 (w : World) : Calls Tryz.prog 82 #[.int .i64 16] w fun e w' => e = .returned (.bool true) ∧ w = w' := by
  have h : bits .and .i64 16 15 = 0 := by decide
  go_enter Tryz.func82, Tryz.ntmps82
  go_wp2
  go_ret
  exact ⟨rfl, rfl⟩
set_option maxRecDepth 100000 in
set_option maxHeartbeats 400000 in
theorem tz64_16 (w : World) (h : w.cell? ⟨4, 15, none⟩ = some (.int .u8 4)) : Calls Tryz.prog 101 #[.int .u64 16] w fun e w' => e = .returned (.int .i64 4) ∧ w = w' := by
  have h0 : IntKind.u64.wrap (-16) = 18446744073709551600 := by decide
  have h1 : bits .and .u64 16 18446744073709551600 = 16 := by decide
  have h2 : IntKind.u64.wrap (16 * 285870213051353865) = 4573923408821661840 := by decide
  have h3 : IntKind.u64.wrap 4573923408821661840 = 4573923408821661840 := by decide
  go_enter Tryz.func101, Tryz.ntmps101
  go_wp2
  go_ret
  exact ⟨rfl, rfl⟩
set_option maxRecDepth 100000 in
set_option maxHeartbeats 400000 in
theorem tz_16 (w : World) (h : w.cell? ⟨4, 15, none⟩ = some (.int .u8 4)) : Calls Tryz.prog 83 #[.int .u64 16] w fun e w' => e = .returned (.int .i64 4) ∧ w = w' := by
  have HC : Hid (Calls Tryz.prog 101 #[.int .u64 16] w fun e w' => e = .returned (.int .i64 4) ∧ w = w') := tz64_16 w h
  clear h
  go_enter Tryz.func83, Tryz.ntmps83
  go_wp2_with fail
  refine HC.out.mono ?_
  rintro e w' ⟨rfl, rfl⟩
  go_wp2_with fail
  go_ret
  exact ⟨rfl, rfl⟩

/-- digits at the end of a row of 65 -/
def HexA (w : World) (b u j : Nat) : Prop := ∃ cs : Array Value, w.heap[b]? = some (.cells cs 128 (0, 0)) ∧ cs.size = 65 ∧ ∀ t, t < j → cs[64 - t]? = some (.int .u8 ((Sp.hexd (u / 16 ^ t % 16)).toNat : Int))
theorem HexA.at {w : World} {b u j : Nat} (h : HexA w b u j) (q : Nat) (hq : q < 65) : (∃ v, w.cell? ⟨b, q, none⟩ = some v) ∧ w.frozen? ⟨b, q, none⟩ = false := by
  obtain ⟨cs, h1, h2, _⟩ := h
  refine ⟨⟨cs[q], ?_⟩, Lib.frozen_of_heap h1 q⟩
  rw [Lib.cell_of_heap h1, Array.getElem?_eq_getElem (by omega)]
theorem HexA.put {w : World} {b u j q : Nat} (h : HexA w b u j) (hq : q + j = 64) {v : Int} (hv : v = ((Sp.hexd (u / 16 ^ j % 16)).toNat : Int)) : HexA (w.setCell ⟨b, q, none⟩ (.int .u8 v)) b u (j + 1) := by
  subst hv
  obtain ⟨cs, h1, h2, h3⟩ := h
  refine ⟨cs.setIfInBounds q (.int .u8 ((Sp.hexd (u / 16 ^ j % 16)).toNat : Int)), ?_, by simp [h2], fun t ht => ?_⟩
  · simp [World.setCell, Array.getElem?_modify, h1]
  · rw [Array.getElem?_setIfInBounds]
    by_cases e : t = j
    · subst e
      rw [if_pos (by omega), if_pos (by omega)]
    · rw [if_neg (by omega)]
      exact h3 t (by omega)
theorem zero65 : Tryz.zeroCells128.size = 65 := by kernel_rfl
theorem hexA_new (w : World) (u : Nat) : HexA (w.alloc (.cells Tryz.zeroCells128 128)) w.heap.size u 0 := ⟨_, heap_alloc_new w _, zero65, fun t ht => by omega⟩
theorem HexA.conv {w : World} {b u : Nat} (h : HexA w b u 16) : (convert 23 9 (.slice (some ⟨b, 49, none⟩) 16 16)).run Tryz.prog w = .ok (.string ⟨(Sp.hexN u 16).toArray⟩) w := by
  obtain ⟨cs, h1, h2, h3⟩ := h
  have := conv_row (Sp.hexN u 16) b 49 16 w (fun j v hv => by
    have hj : j < 16 := by
      have := (List.getElem?_eq_some_iff.1 hv).1
      rw [Sp.hexN_len] at this; exact this
    rw [Sp.hexN_at u 16 j hj] at hv
    injection hv with hv
    rw [Lib.cell_of_heap h1, show 49 + j = 64 - (15 - j) by omega, h3 (15 - j) (by omega), ← hv])
  rw [Sp.hexN_len] at this
  exact this
theorem hex_more {u j : Nat} (hu : u < 18446744073709551616) (hj : j ≤ 15) (h : 16 ≤ u / 16 ^ j) : j < 15 := by
  rcases Nat.lt_or_ge j 15 with h' | h'
  · exact h'
  · obtain rfl : j = 15 := by omega
    simp only [Nat.reducePow] at h
    omega
theorem hex_last {u j : Nat} (hu : 1152921504606846976 ≤ u) (hj : j ≤ 15) (h : u / 16 ^ j < 16) : j = 15 := by
  have : j = 0 ∨ j = 1 ∨ j = 2 ∨ j = 3 ∨ j = 4 ∨ j = 5 ∨ j = 6 ∨ j = 7 ∨ j = 8 ∨ j = 9 ∨ j = 10 ∨ j = 11 ∨ j = 12 ∨ j = 13 ∨ j = 14 ∨ j = 15 := by omega
  rcases this with rfl | rfl | rfl | rfl | rfl | rfl | rfl | rfl | rfl | rfl | rfl | rfl | rfl | rfl | rfl | rfl <;> simp only [Nat.reducePow] at h <;> omega

set_option maxRecDepth 100000 in
set_option maxHeartbeats 2000000 in
theorem formatBits_16 (u : Nat) (w : World) (hu : u < 18446744073709551616) (hu1 : 1152921504606846976 ≤ u) (ht : w.cell? ⟨4, 15, none⟩ = some (.int .u8 4)) :
    Calls Tryz.prog 62 #[.slice none 0 0, .int .u64 (u : Int), .int .i64 16, .bool false, .bool false] w fun e w' => e = .returned (.tuple #[.slice none 0 0, .string ⟨(Sp.hexN u 16).toArray⟩]) ∧ Below w.heap.size w w' := by
  have HP : Hid (∀ W, Calls Tryz.prog 82 #[.int .i64 16] W fun e w' => e = .returned (.bool true) ∧ W = w') := isPow_16
  have HT : Hid (∀ W, Below w.heap.size w W → Calls Tryz.prog 83 #[.int .u64 16] W fun e w' => e = .returned (.int .i64 4) ∧ W = w') := fun W hW => tz_16 W (by rw [hW.cell (p := ⟨4, 15, none⟩) (World.block_lt_of_cell? _ _ ht)]; exact ht)
  have HU : Hid (u < 18446744073709551616 ∧ 1152921504606846976 ≤ u) := ⟨hu, hu1⟩
  clear ht hu hu1
  go_enter Tryz.func62, Tryz.ntmps62
  go_wp2_with fail
  refine (HP.out _).mono ?_
  rintro e w1 ⟨rfl, rfl⟩
  go_wp2_with fail
  refine (HT.out _ ((Below.refl _ _).alloc (Nat.le_refl _) _)).mono ?_
  rintro e w1 ⟨rfl, rfl⟩
  go_wp2_with fail
  go_loopw [1, 13] (fun uv iv wr => ∃ (j q x : Nat), j ≤ 15 ∧ q + j = 64 ∧ uv = .int .u64 (x : Int) ∧ iv = .int .i64 ((q : Int) + 1) ∧ Hid (x = u / 16 ^ j) ∧ Hid (HexA wr w.heap.size u j ∧ Below w.heap.size w wr)) (fun uv _ _ => (intOf uv).toNat)
  case atStart => exact ⟨0, 64, u, by omega, by omega, rfl, rfl, (show _ = _ by simp), ⟨hexA_new w u, (Below.refl _ _).alloc (Nat.le_refl _) _⟩⟩
  case round =>
    obtain ⟨j, q, x, hj, hq, rfl, rfl, HX, HK⟩ := hrel
    have hq65 : q < 65 := by omega
    obtain ⟨⟨v0, hc⟩, hfz⟩ := HK.out.1.at q hq65
    by_cases hx : 16 ≤ x
    · have HJ : Hid (j < 15) := hex_more HU.out.1 hj (by rw [← HX.out]; exact hx)
      have hx' : (16 : Int) ≤ (x : Int) := by omega
      have hxl : x < 18446744073709551616 := by rw [HX.out]; exact Nat.lt_of_le_of_lt (Nat.div_le_self _ _) HU.out.1
      have hix := idx_dig .u64 (bits .and .u64 (x : Int) 15) (x % 16) (u64_and15 x hxl) (Nat.mod_lt _ (by decide))
      have HK2 : Hid (HexA (wr.setCell ⟨w.heap.size, q, none⟩ (.int .u8 ((Sp.hexd (x % 16)).toNat : Int))) w.heap.size u (j + 1) ∧ Below w.heap.size w (wr.setCell ⟨w.heap.size, q, none⟩ (.int .u8 ((Sp.hexd (x % 16)).toNat : Int)))) := ⟨HK.out.1.put hq (by rw [HX.out]), HK.out.2.setCell (p := ⟨w.heap.size, q, none⟩) (Nat.le_refl _) _⟩
      have HM : Hid (x / 16 < x) := by show _ < _; omega
      have HX2 : Hid (x / 16 = u / 16 ^ (j + 1)) := by show _ = _; rw [HX.out, Nat.pow_succ, Nat.div_div_eq_div_mul]
      clear hxl hx
      generalize Sp.hexd (x % 16) = g at hix HK2
      go_wp2_with fail
      go_roundw
      case rel => exact ⟨j + 1, q - 1, x / 16, by have := HJ.out; omega, by have := HJ.out; omega, by simp, by have := HJ.out; simp; omega, HX2, HK2⟩
      case measure => have := HM.out; simp [intOf]; omega
    · have hx' : ¬ (16 : Int) ≤ (x : Int) := by omega
      obtain rfl : j = 15 := hex_last HU.out.2 hj (by rw [← HX.out]; omega)
      obtain rfl : q = 49 := by omega
      have hix := idx_dig .u64 (x : Int) x rfl (by omega)
      have HK2 : HexA (wr.setCell ⟨w.heap.size, 49, none⟩ (.int .u8 ((Sp.hexd x).toNat : Int))) w.heap.size u 16 ∧ Below w.heap.size w (wr.setCell ⟨w.heap.size, 49, none⟩ (.int .u8 ((Sp.hexd x).toNat : Int))) := ⟨HK.out.1.put (j := 15) (by omega) (by rw [← HX.out, Nat.mod_eq_of_lt (by omega)]), HK.out.2.setCell (p := ⟨w.heap.size, 49, none⟩) (Nat.le_refl _) _⟩
      have hcv := HK2.1.conv
      have HB2 : Hid _ := HK2.2
      clear HK2 hx
      generalize Sp.hexd x = g at hix hcv HB2
      go_wp2_with fail
      go_ret2
      exact ⟨rfl, HB2.out⟩
end Go.Proofs.YtnndlffidifddaaGreatDoor

