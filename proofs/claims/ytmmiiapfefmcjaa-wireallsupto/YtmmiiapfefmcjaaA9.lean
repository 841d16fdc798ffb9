/- The document's reading of a number, where it can be read. -/
import Derived.Test.YtmmiiapfefmcjaaA8
namespace Go.Proofs.Ytmmiiapfefmcjaa
open Go.RowKit

set_option maxRecDepth 100000 in
set_option maxHeartbeats 4000000 in
theorem rgnum_ok (xs : List Int) (hby : By xs) (a : Option Addr) (cap at' p v a2 : Nat) (w : World) (hr : Sp.rn xs at' 10 0 0 = .ok v a2) (hrd : RdB w (Lo w.heap.size) a xs) (hln : xs.length ≤ 281474976710656) :
    Calls Try.prog 117 #[.agg (rdg a xs.length cap at' p 0 0)] w fun e w' => e = .returned (.tuple #[.agg (rdg a xs.length cap a2 p 0 0), .int .u64 (v : Int)]) ∧ Below w.heap.size w w' := by
  have HO : Hid (∀ W i c, Below w.heap.size w W → xs[at' + i]? = some c → Calls Try.prog 92 #[.agg #[.slice a xs.length cap, .int .i64 ((at' + i : Nat) : Int), .int .i64 (p : Int), .int .i64 0, .int .i64 0]] W fun e w' => e = .returned (.tuple #[.agg #[.slice a xs.length cap, .int .i64 ((at' + i + 1 : Nat) : Int), .int .i64 (p : Int), .int .i64 0, .int .i64 0], .int .u8 c]) ∧ Below W.heap.size W w') := fun W i c hW hx => rgone_ok xs a cap (at' + i) p W c hx (hrd.same (Same.of_below hW (Nat.le_refl _)) (Lo.le hW.size)) hln
  have HN : Hid (∀ z0 z1 z2 z3 z4, RB w ((w.alloc (.cells #[.slice a xs.length cap, .int .i64 (at' : Int), .int .i64 (p : Int), .int .i64 0, .int .i64 0] 94)).alloc (.cells #[z0, z1, z2, z3, z4] 94)) (.slice a xs.length cap) (.int .i64 (at' : Int)) (.int .i64 (p : Int)) (.int .i64 0) (.int .i64 0)) := fun _ _ _ _ _ => RB.new _ _ _ _ _ _ _ _ _ _ _
  have HBY : Hid (By xs ∧ Sp.rn xs at' 10 0 0 = .ok v a2) := ⟨hby, hr⟩
  clear hrd hby hr
  unfold rdg
  go_enter Try.func117, Try.ntmps117
  go_wp2_with fail
  go_loopw [5, 6] (fun u x wr => ∃ (k i n : Nat), u = .int .u64 (n : Int) ∧ x = .int .i64 (i : Int) ∧ i + k = 10 ∧ Hid (n < 128 ^ i ∧ Sp.rn xs at' k i n = .ok v a2 ∧ RB w wr (.slice a xs.length cap) (.int .i64 ((at' + i : Nat) : Int)) (.int .i64 (p : Int)) (.int .i64 0) (.int .i64 0))) (fun _ x _ => 10 - (intOf x).toNat)
  case atStart => exact ⟨10, 0, 0, rfl, rfl, rfl, by decide, HBY.out.2, HN.out _ _ _ _ _⟩
  case round =>
    obtain ⟨k, i, n, rfl, rfl, hik, HR⟩ := hrel
    clear HN
    cases k with
    | zero => have := HR.out.2.1; simp [Sp.rn] at this
    | succ k =>
      have hi10 : (i : Int) < 10 := by omega
      obtain ⟨hn, hrn, hrb⟩ := HR.out
      cases hx : xs[at' + i]? with
      | none => rw [Sp.rn, hx] at hrn; simp at hrn
      | some c =>
        have hcb := HBY.out.1.get hx
        rw [Sp.rn, hx] at hrn
        simp only at hrn
        by_cases hbad : (i = 9 ∧ 1 < c) ∨ (0 < i ∧ c = 0)
        · rw [if_pos hbad] at hrn; simp at hrn
        · rw [if_neg hbad] at hrn
          have HRB : Hid (RB w wr (.slice a xs.length cap) (.int .i64 ((at' + i : Nat) : Int)) (.int .i64 (p : Int)) (.int .i64 0) (.int .i64 0)) := hrb
          have HON : Hid (Calls Try.prog 92 #[.agg #[.slice a xs.length cap, .int .i64 ((at' + i : Nat) : Int), .int .i64 (p : Int), .int .i64 0, .int .i64 0]] wr fun e w' => e = .returned (.tuple #[.agg #[.slice a xs.length cap, .int .i64 ((at' + i + 1 : Nat) : Int), .int .i64 (p : Int), .int .i64 0, .int .i64 0], .int .u8 c]) ∧ Below wr.heap.size wr w') := HO.out wr i c hrb.bel hx
          have hm : c.toNat % 128 * 128 ^ i < 18446744073709551616 := by
            by_cases h9 : i = 9
            · subst h9
              have : c.toNat % 128 ≤ 1 := by omega
              have h2 : c.toNat % 128 * 128 ^ 9 ≤ 1 * 128 ^ 9 := Nat.mul_le_mul_right _ this
              omega
            · have h8 : 128 ^ i ≤ 128 ^ 8 := Nat.pow_le_pow_right (by decide) (by omega)
              have h2 : c.toNat % 128 * 128 ^ i ≤ 127 * 128 ^ 8 := Nat.mul_le_mul (by omega) h8
              omega
          have HNX : Hid (n + c.toNat % 128 * 128 ^ i < 128 ^ (i + 1)) := by
            show _ < _
            have h2 : c.toNat % 128 * 128 ^ i ≤ 127 * 128 ^ i := Nat.mul_le_mul_right _ (by omega)
            rw [Nat.pow_succ]; omega
          have HNS : Hid (n + c.toNat % 128 * 128 ^ i < 18446744073709551616) := by
            show _ < _
            by_cases h9 : i = 9
            · subst h9
              have h2 : c.toNat % 128 * 128 ^ 9 ≤ 1 * 128 ^ 9 := Nat.mul_le_mul_right _ (by omega)
              omega
            · have h8 : 128 ^ (i + 1) ≤ 128 ^ 9 := Nat.pow_le_pow_right (by decide) (by omega)
              have := HNX.out
              omega
          obtain ⟨A, HA⟩ : ∃ A : Int, Hid (((at' + i : Nat) : Int) = A) := ⟨_, rfl⟩
          obtain ⟨A1, HA1⟩ : ∃ A1 : Int, Hid (((at' + i + 1 : Nat) : Int) = A1) := ⟨_, rfl⟩
          rw [HA.out] at HON HRB
          rw [HA1.out] at HON
          clear hrb HR hx hn
          obtain ⟨⟨⟨g0, g1, g2, g3, g4⟩, _⟩, _⟩ := HRB.out.get
          have HSUM2 : Hid (IntKind.u64.wrap ((n : Int) + IntKind.u64.wrap (c % 128 * 2 ^ (7 * i))) = ((n + c.toNat % 128 * 128 ^ i : Nat) : Int)) := by
            show _ = _
            have e1 : (c % 128 * 2 ^ (7 * i) : Int) = ((c.toNat % 128 * 128 ^ i : Nat) : Int) := by
              have e2 : (128 : Nat) ^ i = 2 ^ (7 * i) := by rw [Nat.pow_mul]
              rw [e2]
              push_cast
              rw [Int.toNat_of_nonneg hcb.1]
            have ein : IntKind.u64.wrap ((c.toNat % 128 * 128 ^ i : Nat) : Int) = ((c.toNat % 128 * 128 ^ i : Nat) : Int) := by rw [IntKind.wrap_u64, Int.emod_eq_of_lt (by omega) (by omega)]
            have := HNS.out
            rw [e1, ein, IntKind.wrap_u64, Int.emod_eq_of_lt (by omega) (by omega)]
            omega
          clear hm
          have hcase : i = 0 ∨ (0 < i ∧ i < 9) ∨ i = 9 := by omega
          rcases hcase with hi0 | ⟨hi0, hi9⟩ | hi9
          · have b9 : ((i : Int) == 9) = false := by simp; omega
            have b0 : ¬ ((0 : Int) < (i : Int)) := by omega
            clear hi0
            by_cases hc : c < 128
            · go_wp2_with fail
              refine HON.out.mono ?_
              rintro e w1 ⟨rfl, hb1⟩
              have HR1 : Hid (RB w w1 (.slice a xs.length cap) (.int .i64 A) (.int .i64 (p : Int)) (.int .i64 0) (.int .i64 0)) := HRB.out.call hb1
              clear hb1 g0 g1 g2 g3 g4
              obtain ⟨W1, W2, W3, W4, W5, k1, k2, k3, k4, k5, ⟨c0, y0⟩, ⟨c1, y1⟩, ⟨c2, y2⟩, ⟨c3, y3⟩, ⟨c4, y4⟩, hW5⟩ := chain5 HR1.out.box (.slice a xs.length cap) (.int .i64 A1) (.int .i64 (p : Int)) (.int .i64 0) (.int .i64 0)
              have HR2 : Hid (RB w W5 (.slice a xs.length cap) (.int .i64 A1) (.int .i64 (p : Int)) (.int .i64 0) (.int .i64 0)) := by rw [hW5]; exact HR1.out.put _ _ _ _ _
              clear hW5
              obtain ⟨⟨⟨e0, e1, e2, e3, e4⟩, _⟩, _⟩ := HR2.out.get
              obtain ⟨v0, v1, v2, v3, v4, hres⟩ := HR2.out.res
              obtain ⟨V1, V2, V3, V4, V5, l1, l2, l3, l4, l5, ⟨d0, x0⟩, ⟨d1, x1⟩, ⟨d2, x2⟩, ⟨d3, x3⟩, ⟨d4, x4⟩, hV5⟩ := chain5 hres (.slice a xs.length cap) (.int .i64 A1) (.int .i64 (p : Int)) (.int .i64 0) (.int .i64 0)
              have HF := HR2.out.fin (.slice a xs.length cap) (.int .i64 A1) (.int .i64 (p : Int)) (.int .i64 0) (.int .i64 0)
              rw [← hV5] at HF
              have HF : Hid _ := HF
              clear hV5 hres
              go_wp2_with fail
              rw [if_pos (by omega)] at hrn
              injection hrn with hv2 ha2
              obtain ⟨⟨r0, r1, r2, r3, r4⟩, hbb⟩ := HF.out
              refine bodyPost_ret (v := .tuple #[.agg #[.slice a xs.length cap, .int .i64 A1, .int .i64 (p : Int), .int .i64 0, .int .i64 0], .int .u64 (IntKind.u64.wrap ((n : Int) + IntKind.u64.wrap (c % 128 * 2 ^ (7 * i))))]) (by simp [results, Try.results117, go_sem, r0, r1, r2, r3, r4]) rfl ⟨?_, hbb⟩
              rw [HSUM2.out, ← HA1.out, ← ha2, ← hv2, Nat.mod_eq_of_lt (show c.toNat < 128 by omega)]
              rfl
            · go_wp2_with fail
              refine HON.out.mono ?_
              rintro e w1 ⟨rfl, hb1⟩
              have HR1 : Hid (RB w w1 (.slice a xs.length cap) (.int .i64 A) (.int .i64 (p : Int)) (.int .i64 0) (.int .i64 0)) := HRB.out.call hb1
              clear hb1 g0 g1 g2 g3 g4
              obtain ⟨W1, W2, W3, W4, W5, k1, k2, k3, k4, k5, ⟨c0, y0⟩, ⟨c1, y1⟩, ⟨c2, y2⟩, ⟨c3, y3⟩, ⟨c4, y4⟩, hW5⟩ := chain5 HR1.out.box (.slice a xs.length cap) (.int .i64 A1) (.int .i64 (p : Int)) (.int .i64 0) (.int .i64 0)
              have HR2 : Hid (RB w W5 (.slice a xs.length cap) (.int .i64 A1) (.int .i64 (p : Int)) (.int .i64 0) (.int .i64 0)) := by rw [hW5]; exact HR1.out.put _ _ _ _ _
              clear hW5
              obtain ⟨⟨⟨e0, e1, e2, e3, e4⟩, _⟩, _⟩ := HR2.out.get
              go_wp2_with fail
              rw [if_neg (by omega)] at hrn
              go_roundw
              case rel =>
                refine ⟨_, _, _, _, _, _, _, _, _, _, _, _, _, _, _, _, _, _, _, _, _, _, _, _, _, _, _, _, _, _, _, _, _, _, _, _, _, _, _, _, _, _, _, _, _, _, _, ?_, rfl⟩
                exact ⟨k, i + 1, n + c.toNat % 128 * 128 ^ i, by rw [HSUM2.out], by go_num, by omega, HNX.out, by rw [show c.toNat % 128 = c.toNat - 128 by omega]; exact hrn, by rw [← Nat.add_assoc, HA1.out]; exact HR2.out⟩
              case measure => simp [intOf]; omega
          · have b9 : ((i : Int) == 9) = false := by simp; omega
            have b0 : (0 : Int) < (i : Int) := by omega
            have bc : (c == 0) = false := by simp; omega
            by_cases hc : c < 128
            · go_wp2_with fail
              refine HON.out.mono ?_
              rintro e w1 ⟨rfl, hb1⟩
              have HR1 : Hid (RB w w1 (.slice a xs.length cap) (.int .i64 A) (.int .i64 (p : Int)) (.int .i64 0) (.int .i64 0)) := HRB.out.call hb1
              clear hb1 g0 g1 g2 g3 g4
              obtain ⟨W1, W2, W3, W4, W5, k1, k2, k3, k4, k5, ⟨c0, y0⟩, ⟨c1, y1⟩, ⟨c2, y2⟩, ⟨c3, y3⟩, ⟨c4, y4⟩, hW5⟩ := chain5 HR1.out.box (.slice a xs.length cap) (.int .i64 A1) (.int .i64 (p : Int)) (.int .i64 0) (.int .i64 0)
              have HR2 : Hid (RB w W5 (.slice a xs.length cap) (.int .i64 A1) (.int .i64 (p : Int)) (.int .i64 0) (.int .i64 0)) := by rw [hW5]; exact HR1.out.put _ _ _ _ _
              clear hW5
              obtain ⟨⟨⟨e0, e1, e2, e3, e4⟩, _⟩, _⟩ := HR2.out.get
              obtain ⟨v0, v1, v2, v3, v4, hres⟩ := HR2.out.res
              obtain ⟨V1, V2, V3, V4, V5, l1, l2, l3, l4, l5, ⟨d0, x0⟩, ⟨d1, x1⟩, ⟨d2, x2⟩, ⟨d3, x3⟩, ⟨d4, x4⟩, hV5⟩ := chain5 hres (.slice a xs.length cap) (.int .i64 A1) (.int .i64 (p : Int)) (.int .i64 0) (.int .i64 0)
              have HF := HR2.out.fin (.slice a xs.length cap) (.int .i64 A1) (.int .i64 (p : Int)) (.int .i64 0) (.int .i64 0)
              rw [← hV5] at HF
              have HF : Hid _ := HF
              clear hV5 hres
              go_wp2_with fail
              rw [if_pos (by omega)] at hrn
              injection hrn with hv2 ha2
              obtain ⟨⟨r0, r1, r2, r3, r4⟩, hbb⟩ := HF.out
              refine bodyPost_ret (v := .tuple #[.agg #[.slice a xs.length cap, .int .i64 A1, .int .i64 (p : Int), .int .i64 0, .int .i64 0], .int .u64 (IntKind.u64.wrap ((n : Int) + IntKind.u64.wrap (c % 128 * 2 ^ (7 * i))))]) (by simp [results, Try.results117, go_sem, r0, r1, r2, r3, r4]) rfl ⟨?_, hbb⟩
              rw [HSUM2.out, ← HA1.out, ← ha2, ← hv2, Nat.mod_eq_of_lt (show c.toNat < 128 by omega)]
              rfl
            · go_wp2_with fail
              refine HON.out.mono ?_
              rintro e w1 ⟨rfl, hb1⟩
              have HR1 : Hid (RB w w1 (.slice a xs.length cap) (.int .i64 A) (.int .i64 (p : Int)) (.int .i64 0) (.int .i64 0)) := HRB.out.call hb1
              clear hb1 g0 g1 g2 g3 g4
              obtain ⟨W1, W2, W3, W4, W5, k1, k2, k3, k4, k5, ⟨c0, y0⟩, ⟨c1, y1⟩, ⟨c2, y2⟩, ⟨c3, y3⟩, ⟨c4, y4⟩, hW5⟩ := chain5 HR1.out.box (.slice a xs.length cap) (.int .i64 A1) (.int .i64 (p : Int)) (.int .i64 0) (.int .i64 0)
              have HR2 : Hid (RB w W5 (.slice a xs.length cap) (.int .i64 A1) (.int .i64 (p : Int)) (.int .i64 0) (.int .i64 0)) := by rw [hW5]; exact HR1.out.put _ _ _ _ _
              clear hW5
              obtain ⟨⟨⟨e0, e1, e2, e3, e4⟩, _⟩, _⟩ := HR2.out.get
              go_wp2_with fail
              rw [if_neg (by omega)] at hrn
              go_roundw
              case rel =>
                refine ⟨_, _, _, _, _, _, _, _, _, _, _, _, _, _, _, _, _, _, _, _, _, _, _, _, _, _, _, _, _, _, _, _, _, _, _, _, _, _, _, _, _, _, _, _, _, _, _, ?_, rfl⟩
                exact ⟨k, i + 1, n + c.toNat % 128 * 128 ^ i, by rw [HSUM2.out], by go_num, by omega, HNX.out, by rw [show c.toNat % 128 = c.toNat - 128 by omega]; exact hrn, by rw [← Nat.add_assoc, HA1.out]; exact HR2.out⟩
              case measure => simp [intOf]; omega
          · have b9 : ((i : Int) == 9) = true := by simp; omega
            have b0 : (0 : Int) < (i : Int) := by omega
            have bc : (c == 0) = false := by simp; omega
            have b1 : ¬ ((1 : Int) < c) := by omega
            clear hi9
            by_cases hc : c < 128
            · go_wp2_with fail
              refine HON.out.mono ?_
              rintro e w1 ⟨rfl, hb1⟩
              have HR1 : Hid (RB w w1 (.slice a xs.length cap) (.int .i64 A) (.int .i64 (p : Int)) (.int .i64 0) (.int .i64 0)) := HRB.out.call hb1
              clear hb1 g0 g1 g2 g3 g4
              obtain ⟨W1, W2, W3, W4, W5, k1, k2, k3, k4, k5, ⟨c0, y0⟩, ⟨c1, y1⟩, ⟨c2, y2⟩, ⟨c3, y3⟩, ⟨c4, y4⟩, hW5⟩ := chain5 HR1.out.box (.slice a xs.length cap) (.int .i64 A1) (.int .i64 (p : Int)) (.int .i64 0) (.int .i64 0)
              have HR2 : Hid (RB w W5 (.slice a xs.length cap) (.int .i64 A1) (.int .i64 (p : Int)) (.int .i64 0) (.int .i64 0)) := by rw [hW5]; exact HR1.out.put _ _ _ _ _
              clear hW5
              obtain ⟨⟨⟨e0, e1, e2, e3, e4⟩, _⟩, _⟩ := HR2.out.get
              obtain ⟨v0, v1, v2, v3, v4, hres⟩ := HR2.out.res
              obtain ⟨V1, V2, V3, V4, V5, l1, l2, l3, l4, l5, ⟨d0, x0⟩, ⟨d1, x1⟩, ⟨d2, x2⟩, ⟨d3, x3⟩, ⟨d4, x4⟩, hV5⟩ := chain5 hres (.slice a xs.length cap) (.int .i64 A1) (.int .i64 (p : Int)) (.int .i64 0) (.int .i64 0)
              have HF := HR2.out.fin (.slice a xs.length cap) (.int .i64 A1) (.int .i64 (p : Int)) (.int .i64 0) (.int .i64 0)
              rw [← hV5] at HF
              have HF : Hid _ := HF
              clear hV5 hres
              go_wp2_with fail
              rw [if_pos (by omega)] at hrn
              injection hrn with hv2 ha2
              obtain ⟨⟨r0, r1, r2, r3, r4⟩, hbb⟩ := HF.out
              refine bodyPost_ret (v := .tuple #[.agg #[.slice a xs.length cap, .int .i64 A1, .int .i64 (p : Int), .int .i64 0, .int .i64 0], .int .u64 (IntKind.u64.wrap ((n : Int) + IntKind.u64.wrap (c % 128 * 2 ^ (7 * i))))]) (by simp [results, Try.results117, go_sem, r0, r1, r2, r3, r4]) rfl ⟨?_, hbb⟩
              rw [HSUM2.out, ← HA1.out, ← ha2, ← hv2, Nat.mod_eq_of_lt (show c.toNat < 128 by omega)]
              rfl
            · omega
end Go.Proofs.Ytmmiiapfefmcjaa

