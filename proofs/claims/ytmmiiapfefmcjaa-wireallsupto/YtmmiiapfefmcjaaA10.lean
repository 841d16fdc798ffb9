/- The document's reading of a number, where it can't be read. -/
import Derived.Test.YtmmiiapfefmcjaaA9
namespace Go.Proofs.Ytmmiiapfefmcjaa
open Go.RowKit

set_option maxRecDepth 100000 in
set_option maxHeartbeats 4000000 in
theorem rgnum_bad (xs : List Int) (hby : By xs) (a : Option Addr) (cap at' p q : Nat) (er : Int) (w : World) (hr : Sp.rn xs at' 10 0 0 = .bad q er) (hle : at' ≤ xs.length) (hrd : RdB w (Lo w.heap.size) a xs) (hln : xs.length ≤ 281474976710656) :
    Calls Try.prog 117 #[.agg (rdg a xs.length cap at' p 0 0)] w fun e w' => ∃ at2 : Nat, e = .returned (.tuple #[.agg (rdg a xs.length cap at2 p q er), .int .u64 0]) ∧ Below w.heap.size w w' := by
  have HO : Hid (∀ W i c, Below w.heap.size w W → xs[at' + i]? = some c → Calls Try.prog 92 #[.agg #[.slice a xs.length cap, .int .i64 ((at' + i : Nat) : Int), .int .i64 (p : Int), .int .i64 0, .int .i64 0]] W fun e w' => e = .returned (.tuple #[.agg #[.slice a xs.length cap, .int .i64 ((at' + i + 1 : Nat) : Int), .int .i64 (p : Int), .int .i64 0, .int .i64 0], .int .u8 c]) ∧ Below W.heap.size W w') := fun W i c hW hx => rgone_ok xs a cap (at' + i) p W c hx (hrd.same (Same.of_below hW (Nat.le_refl _)) (Lo.le hW.size)) hln
  have HE : Hid (∀ W, Calls Try.prog 92 #[.agg #[.slice a xs.length cap, .int .i64 (xs.length : Int), .int .i64 (p : Int), .int .i64 0, .int .i64 0]] W fun e w' => e = .returned (.tuple #[.agg #[.slice a xs.length cap, .int .i64 (xs.length : Int), .int .i64 (p : Int), .int .i64 (xs.length : Int), .int .i64 4], .int .u8 0]) ∧ Below W.heap.size W w') := fun W => rgone_end a xs.length cap p W
  have HBd : Hid (∀ W A, Calls Try.prog 91 #[.agg #[.slice a xs.length cap, .int .i64 A, .int .i64 (p : Int), .int .i64 0, .int .i64 0], .int .i64 (at' : Int), .int .i64 31] W fun e w' => e = .returned (.agg #[.slice a xs.length cap, .int .i64 A, .int .i64 (p : Int), .int .i64 (at' : Int), .int .i64 31]) ∧ Below W.heap.size W w') := fun W A => rgbad_ok A p a xs.length cap W at' 31
  have HN : Hid (∀ z0 z1 z2 z3 z4, RB w ((w.alloc (.cells #[.slice a xs.length cap, .int .i64 (at' : Int), .int .i64 (p : Int), .int .i64 0, .int .i64 0] 94)).alloc (.cells #[z0, z1, z2, z3, z4] 94)) (.slice a xs.length cap) (.int .i64 (at' : Int)) (.int .i64 (p : Int)) (.int .i64 0) (.int .i64 0)) := fun _ _ _ _ _ => RB.new _ _ _ _ _ _ _ _ _ _ _
  have HBY : Hid (By xs ∧ Sp.rn xs at' 10 0 0 = .bad q er ∧ at' ≤ xs.length) := ⟨hby, hr, hle⟩
  clear hrd hby hr hle
  unfold rdg
  go_enter Try.func117, Try.ntmps117
  go_wp2_with fail
  go_loopw [5, 6] (fun u x wr => ∃ (k i n : Nat), u = .int .u64 (n : Int) ∧ x = .int .i64 (i : Int) ∧ i + k = 10 ∧ 1 ≤ k ∧ Hid (n < 128 ^ i ∧ Sp.rn xs at' k i n = .bad q er ∧ at' + i ≤ xs.length ∧ RB w wr (.slice a xs.length cap) (.int .i64 ((at' + i : Nat) : Int)) (.int .i64 (p : Int)) (.int .i64 0) (.int .i64 0))) (fun _ x _ => 10 - (intOf x).toNat)
  case atStart => exact ⟨10, 0, 0, rfl, rfl, rfl, by omega, by decide, HBY.out.2.1, HBY.out.2.2, HN.out _ _ _ _ _⟩
  case round =>
    obtain ⟨k, i, n, rfl, rfl, hik, hk1, HR⟩ := hrel
    clear HN
    cases k with
    | zero => omega
    | succ k =>
      have hi10 : (i : Int) < 10 := by omega
      obtain ⟨hn, hrn, hlei, hrb⟩ := HR.out
      obtain ⟨A, HA⟩ : ∃ A : Int, Hid (((at' + i : Nat) : Int) = A) := ⟨_, rfl⟩
      obtain ⟨A1, HA1⟩ : ∃ A1 : Int, Hid (((at' + i + 1 : Nat) : Int) = A1) := ⟨_, rfl⟩
      have HRB : Hid (RB w wr (.slice a xs.length cap) (.int .i64 ((at' + i : Nat) : Int)) (.int .i64 (p : Int)) (.int .i64 0) (.int .i64 0)) := hrb
      rw [HA.out] at HRB
      cases hx : xs[at' + i]? with
      | none =>
        have hend : at' + i = xs.length := by have := List.getElem?_eq_none_iff.1 hx; omega
        rw [Sp.rn, hx] at hrn
        injection hrn with e1 e2
        have HQ : Hid (xs.length = q ∧ 4 = er) := ⟨e1, e2⟩
        have hA2 : (xs.length : Int) = A := by rw [← HA.out, hend]
        rw [hA2] at HE
        have HAL : Hid ((xs.length : Int) = A) := hA2
        clear hn hlei hrb HR hx hend e1 e2 hA2
        obtain ⟨⟨⟨g0, g1, g2, g3, g4⟩, _⟩, _⟩ := HRB.out.get
        go_wp2_with fail
        refine (HE.out _).mono ?_
        rintro e w1 ⟨rfl, hb1⟩
        have HR1 : Hid (RB w w1 (.slice a xs.length cap) (.int .i64 A) (.int .i64 (p : Int)) (.int .i64 0) (.int .i64 0)) := HRB.out.call hb1
        clear hb1 g0 g1 g2 g3 g4
        obtain ⟨W1, W2, W3, W4, W5, k1, k2, k3, k4, k5, ⟨c0, y0⟩, ⟨c1, y1⟩, ⟨c2, y2⟩, ⟨c3, y3⟩, ⟨c4, y4⟩, hW5⟩ := chain5 HR1.out.box (.slice a xs.length cap) (.int .i64 A) (.int .i64 (p : Int)) (.int .i64 A) (.int .i64 4)
        have HR2 : Hid (RB w W5 (.slice a xs.length cap) (.int .i64 A) (.int .i64 (p : Int)) (.int .i64 A) (.int .i64 4)) := by rw [hW5]; exact HR1.out.put _ _ _ _ _
        clear hW5
        obtain ⟨⟨⟨e0, e1, e2, e3, e4⟩, _⟩, _⟩ := HR2.out.get
        obtain ⟨v0, v1, v2, v3, v4, hres⟩ := HR2.out.res
        obtain ⟨V1, V2, V3, V4, V5, l1, l2, l3, l4, l5, ⟨d0, x0⟩, ⟨d1, x1⟩, ⟨d2, x2⟩, ⟨d3, x3⟩, ⟨d4, x4⟩, hV5⟩ := chain5 hres (.slice a xs.length cap) (.int .i64 A) (.int .i64 (p : Int)) (.int .i64 A) (.int .i64 4)
        have HF := HR2.out.fin (.slice a xs.length cap) (.int .i64 A) (.int .i64 (p : Int)) (.int .i64 A) (.int .i64 4)
        rw [← hV5] at HF
        have HF : Hid _ := HF
        clear hV5 hres
        go_wp2_with fail
        obtain ⟨⟨r0, r1, r2, r3, r4⟩, hbb⟩ := HF.out
        refine bodyPost_ret (v := .tuple #[.agg #[.slice a xs.length cap, .int .i64 A, .int .i64 (p : Int), .int .i64 A, .int .i64 4], .int .u64 0]) (by simp [results, Try.results117, go_sem, r0, r1, r2, r3, r4]) rfl ⟨xs.length, ?_, hbb⟩
        rw [← HQ.out.1, ← HQ.out.2, HAL.out]
      | some c =>
        have hcb := HBY.out.1.get hx
        have hlt := (List.getElem?_eq_some_iff.1 hx).1
        rw [Sp.rn, hx] at hrn
        simp only at hrn
        have HON : Hid (Calls Try.prog 92 #[.agg #[.slice a xs.length cap, .int .i64 ((at' + i : Nat) : Int), .int .i64 (p : Int), .int .i64 0, .int .i64 0]] wr fun e w' => e = .returned (.tuple #[.agg #[.slice a xs.length cap, .int .i64 ((at' + i + 1 : Nat) : Int), .int .i64 (p : Int), .int .i64 0, .int .i64 0], .int .u8 c]) ∧ Below wr.heap.size wr w') := HO.out wr i c hrb.bel hx
        rw [HA.out] at HON
        rw [HA1.out] at HON
        obtain ⟨⟨⟨g0, g1, g2, g3, g4⟩, _⟩, _⟩ := HRB.out.get
        by_cases hbad : (i = 9 ∧ 1 < c) ∨ (0 < i ∧ c = 0)
        · rw [if_pos hbad] at hrn
          injection hrn with e1 e2
          have HQ : Hid (at' = q ∧ 31 = er) := ⟨e1, e2⟩
          clear hn hlei hrb HR hx e1 e2 hlt
          rcases hbad with ⟨hi9, hc1⟩ | ⟨hi0, hc0⟩
          · have b9 : ((i : Int) == 9) = true := by simp; omega
            clear hi9
            go_wp2_with fail
            refine HON.out.mono ?_
            rintro e w1 ⟨rfl, hb1⟩
            have HR1 : Hid (RB w w1 (.slice a xs.length cap) (.int .i64 A) (.int .i64 (p : Int)) (.int .i64 0) (.int .i64 0)) := HRB.out.call hb1
            clear hb1 g0 g1 g2 g3 g4
            obtain ⟨W1, W2, W3, W4, W5, k1, k2, k3, k4, k5, ⟨c0, y0⟩, ⟨c1, y1⟩, ⟨c2, y2⟩, ⟨c3, y3⟩, ⟨c4, y4⟩, hW5⟩ := chain5 HR1.out.box (.slice a xs.length cap) (.int .i64 A1) (.int .i64 (p : Int)) (.int .i64 0) (.int .i64 0)
            have HR2 : Hid (RB w W5 (.slice a xs.length cap) (.int .i64 A1) (.int .i64 (p : Int)) (.int .i64 0) (.int .i64 0)) := by rw [hW5]; exact HR1.out.put _ _ _ _ _
            clear hW5
            obtain ⟨⟨⟨e0, e1, e2, e3, e4⟩, _⟩, _⟩ := HR2.out.get
            go_wp2_with fail
            refine (HBd.out _ _).mono ?_
            rintro e w2 ⟨rfl, hb2⟩
            have HR3 : Hid (RB w w2 (.slice a xs.length cap) (.int .i64 A1) (.int .i64 (p : Int)) (.int .i64 0) (.int .i64 0)) := HR2.out.call hb2
            clear hb2 e0 e1 e2 e3 e4 c0 c1 c2 c3 c4 y0 y1 y2 y3 y4 k1 k2 k3 k4 k5
            obtain ⟨v0, v1, v2, v3, v4, hres⟩ := HR3.out.res
            obtain ⟨V1, V2, V3, V4, V5, l1, l2, l3, l4, l5, ⟨d0, x0⟩, ⟨d1, x1⟩, ⟨d2, x2⟩, ⟨d3, x3⟩, ⟨d4, x4⟩, hV5⟩ := chain5 hres (.slice a xs.length cap) (.int .i64 A1) (.int .i64 (p : Int)) (.int .i64 (at' : Int)) (.int .i64 31)
            have HF := HR3.out.fin (.slice a xs.length cap) (.int .i64 A1) (.int .i64 (p : Int)) (.int .i64 (at' : Int)) (.int .i64 31)
            rw [← hV5] at HF
            have HF : Hid _ := HF
            clear hV5 hres
            go_wp2_with fail
            obtain ⟨⟨r0, r1, r2, r3, r4⟩, hbb⟩ := HF.out
            refine bodyPost_ret (v := .tuple #[.agg #[.slice a xs.length cap, .int .i64 A1, .int .i64 (p : Int), .int .i64 (at' : Int), .int .i64 31], .int .u64 0]) (by simp [results, Try.results117, go_sem, r0, r1, r2, r3, r4]) rfl ⟨at' + i + 1, ?_, hbb⟩
            rw [← HQ.out.1, ← HQ.out.2, HA1.out]
          · have b0 : (0 : Int) < (i : Int) := by omega
            subst hc0
            by_cases hi9 : i = 9
            · have b9 : ((i : Int) == 9) = true := by simp; omega
              clear hi9
              go_wp2_with fail
              refine HON.out.mono ?_
              rintro e w1 ⟨rfl, hb1⟩
              have HR1 : Hid (RB w w1 (.slice a xs.length cap) (.int .i64 A) (.int .i64 (p : Int)) (.int .i64 0) (.int .i64 0)) := HRB.out.call hb1
              clear hb1 g0 g1 g2 g3 g4
              obtain ⟨W1, W2, W3, W4, W5, k1, k2, k3, k4, k5, ⟨c0, y0⟩, ⟨c1, y1⟩, ⟨c2, y2⟩, ⟨c3, y3⟩, ⟨c4, y4⟩, hW5⟩ := chain5 HR1.out.box (.slice a xs.length cap) (.int .i64 A1) (.int .i64 (p : Int)) (.int .i64 0) (.int .i64 0)
              have HR2 : Hid (RB w W5 (.slice a xs.length cap) (.int .i64 A1) (.int .i64 (p : Int)) (.int .i64 0) (.int .i64 0)) := by rw [hW5]; exact HR1.out.put _ _ _ _ _
              clear hW5
              obtain ⟨⟨⟨e0, e1, e2, e3, e4⟩, _⟩, _⟩ := HR2.out.get
              go_wp2_with fail
              refine (HBd.out _ _).mono ?_
              rintro e w2 ⟨rfl, hb2⟩
              have HR3 : Hid (RB w w2 (.slice a xs.length cap) (.int .i64 A1) (.int .i64 (p : Int)) (.int .i64 0) (.int .i64 0)) := HR2.out.call hb2
              clear hb2 e0 e1 e2 e3 e4 c0 c1 c2 c3 c4 y0 y1 y2 y3 y4 k1 k2 k3 k4 k5
              obtain ⟨v0, v1, v2, v3, v4, hres⟩ := HR3.out.res
              obtain ⟨V1, V2, V3, V4, V5, l1, l2, l3, l4, l5, ⟨d0, x0⟩, ⟨d1, x1⟩, ⟨d2, x2⟩, ⟨d3, x3⟩, ⟨d4, x4⟩, hV5⟩ := chain5 hres (.slice a xs.length cap) (.int .i64 A1) (.int .i64 (p : Int)) (.int .i64 (at' : Int)) (.int .i64 31)
              have HF := HR3.out.fin (.slice a xs.length cap) (.int .i64 A1) (.int .i64 (p : Int)) (.int .i64 (at' : Int)) (.int .i64 31)
              rw [← hV5] at HF
              have HF : Hid _ := HF
              clear hV5 hres
              go_wp2_with fail
              obtain ⟨⟨r0, r1, r2, r3, r4⟩, hbb⟩ := HF.out
              refine bodyPost_ret (v := .tuple #[.agg #[.slice a xs.length cap, .int .i64 A1, .int .i64 (p : Int), .int .i64 (at' : Int), .int .i64 31], .int .u64 0]) (by simp [results, Try.results117, go_sem, r0, r1, r2, r3, r4]) rfl ⟨at' + i + 1, ?_, hbb⟩
              rw [← HQ.out.1, ← HQ.out.2, HA1.out]
            · have b9 : ((i : Int) == 9) = false := by simp; omega
              clear hi9
              go_wp2_with fail
              refine HON.out.mono ?_
              rintro e w1 ⟨rfl, hb1⟩
              have HR1 : Hid (RB w w1 (.slice a xs.length cap) (.int .i64 A) (.int .i64 (p : Int)) (.int .i64 0) (.int .i64 0)) := HRB.out.call hb1
              clear hb1 g0 g1 g2 g3 g4
              obtain ⟨W1, W2, W3, W4, W5, k1, k2, k3, k4, k5, ⟨c0, y0⟩, ⟨c1, y1⟩, ⟨c2, y2⟩, ⟨c3, y3⟩, ⟨c4, y4⟩, hW5⟩ := chain5 HR1.out.box (.slice a xs.length cap) (.int .i64 A1) (.int .i64 (p : Int)) (.int .i64 0) (.int .i64 0)
              have HR2 : Hid (RB w W5 (.slice a xs.length cap) (.int .i64 A1) (.int .i64 (p : Int)) (.int .i64 0) (.int .i64 0)) := by rw [hW5]; exact HR1.out.put _ _ _ _ _
              clear hW5
              obtain ⟨⟨⟨e0, e1, e2, e3, e4⟩, _⟩, _⟩ := HR2.out.get
              go_wp2_with fail
              refine (HBd.out _ _).mono ?_
              rintro e w2 ⟨rfl, hb2⟩
              have HR3 : Hid (RB w w2 (.slice a xs.length cap) (.int .i64 A1) (.int .i64 (p : Int)) (.int .i64 0) (.int .i64 0)) := HR2.out.call hb2
              clear hb2 e0 e1 e2 e3 e4 c0 c1 c2 c3 c4 y0 y1 y2 y3 y4 k1 k2 k3 k4 k5
              obtain ⟨v0, v1, v2, v3, v4, hres⟩ := HR3.out.res
              obtain ⟨V1, V2, V3, V4, V5, l1, l2, l3, l4, l5, ⟨d0, x0⟩, ⟨d1, x1⟩, ⟨d2, x2⟩, ⟨d3, x3⟩, ⟨d4, x4⟩, hV5⟩ := chain5 hres (.slice a xs.length cap) (.int .i64 A1) (.int .i64 (p : Int)) (.int .i64 (at' : Int)) (.int .i64 31)
              have HF := HR3.out.fin (.slice a xs.length cap) (.int .i64 A1) (.int .i64 (p : Int)) (.int .i64 (at' : Int)) (.int .i64 31)
              rw [← hV5] at HF
              have HF : Hid _ := HF
              clear hV5 hres
              go_wp2_with fail
              obtain ⟨⟨r0, r1, r2, r3, r4⟩, hbb⟩ := HF.out
              refine bodyPost_ret (v := .tuple #[.agg #[.slice a xs.length cap, .int .i64 A1, .int .i64 (p : Int), .int .i64 (at' : Int), .int .i64 31], .int .u64 0]) (by simp [results, Try.results117, go_sem, r0, r1, r2, r3, r4]) rfl ⟨at' + i + 1, ?_, hbb⟩
              rw [← HQ.out.1, ← HQ.out.2, HA1.out]
        · rw [if_neg hbad] at hrn
          have hc : ¬ c < 128 := by
            intro hc; rw [if_pos hc] at hrn; simp at hrn
          have hi9 : i < 9 := by omega
          have hm : c.toNat % 128 * 128 ^ i < 18446744073709551616 := by
            have h8 : 128 ^ i ≤ 128 ^ 8 := Nat.pow_le_pow_right (by decide) (by omega)
            have h2 : c.toNat % 128 * 128 ^ i ≤ 127 * 128 ^ 8 := Nat.mul_le_mul (by omega) h8
            omega
          have HNX : Hid (n + c.toNat % 128 * 128 ^ i < 128 ^ (i + 1)) := by
            show _ < _
            have h2 : c.toNat % 128 * 128 ^ i ≤ 127 * 128 ^ i := Nat.mul_le_mul_right _ (by omega)
            rw [Nat.pow_succ]; omega
          have HNS : Hid (n + c.toNat % 128 * 128 ^ i < 18446744073709551616) := by
            show _ < _
            have h8 : 128 ^ (i + 1) ≤ 128 ^ 9 := Nat.pow_le_pow_right (by decide) (by omega)
            have := HNX.out
            omega
          have HSUM2 : Hid (IntKind.u64.wrap ((n : Int) + IntKind.u64.wrap (c % 128 * 2 ^ (7 * i))) = ((n + c.toNat % 128 * 128 ^ i : Nat) : Int)) := by
            show _ = _
            have e1 : (c % 128 * 2 ^ (7 * i) : Int) = ((c.toNat % 128 * 128 ^ i : Nat) : Int) := by
              have e2 : (128 : Nat) ^ i = 2 ^ (7 * i) := by rw [Nat.pow_mul]
              rw [e2]
              push_cast
              rw [Int.toNat_of_nonneg hcb.1]
            have ein : IntKind.u64.wrap ((c.toNat % 128 * 128 ^ i : Nat) : Int) = ((c.toNat % 128 * 128 ^ i : Nat) : Int) := by rw [IntKind.wrap_u64, Int.emod_eq_of_lt (by omega) (by omega)]
            have := HNS.out
            rw [e1, ein, IntKind.wrap_u64, Int.emod_eq_of_lt (by omega) (by omega)]
            omega
          have HRN : Hid (Sp.rn xs at' k (i + 1) (n + c.toNat % 128 * 128 ^ i) = .bad q er) := by
            show _ = _; rw [if_neg hc] at hrn; rw [show c.toNat % 128 = c.toNat - 128 by omega]; exact hrn
          clear hn hrb HR hx hrn hm
          have b9 : ((i : Int) == 9) = false := by simp; omega
          by_cases hi0 : 0 < i
          · have b0 : (0 : Int) < (i : Int) := by omega
            have bc : (c == 0) = false := by simp; omega
            go_wp2_with fail
            refine HON.out.mono ?_
            rintro e w1 ⟨rfl, hb1⟩
            have HR1 : Hid (RB w w1 (.slice a xs.length cap) (.int .i64 A) (.int .i64 (p : Int)) (.int .i64 0) (.int .i64 0)) := HRB.out.call hb1
            clear hb1 g0 g1 g2 g3 g4
            obtain ⟨W1, W2, W3, W4, W5, k1, k2, k3, k4, k5, ⟨c0, y0⟩, ⟨c1, y1⟩, ⟨c2, y2⟩, ⟨c3, y3⟩, ⟨c4, y4⟩, hW5⟩ := chain5 HR1.out.box (.slice a xs.length cap) (.int .i64 A1) (.int .i64 (p : Int)) (.int .i64 0) (.int .i64 0)
            have HR2 : Hid (RB w W5 (.slice a xs.length cap) (.int .i64 A1) (.int .i64 (p : Int)) (.int .i64 0) (.int .i64 0)) := by rw [hW5]; exact HR1.out.put _ _ _ _ _
            clear hW5
            obtain ⟨⟨⟨e0, e1, e2, e3, e4⟩, _⟩, _⟩ := HR2.out.get
            go_wp2_with fail
            go_roundw
            case rel =>
              refine ⟨_, _, _, _, _, _, _, _, _, _, _, _, _, _, _, _, _, _, _, _, _, _, _, _, _, _, _, _, _, _, _, _, _, _, _, _, _, _, _, _, _, _, _, _, _, _, _, ?_, rfl⟩
              exact ⟨k, i + 1, n + c.toNat % 128 * 128 ^ i, by rw [HSUM2.out], by go_num, by omega, by omega, HNX.out, HRN.out, by omega, by rw [← Nat.add_assoc, HA1.out]; exact HR2.out⟩
            case measure => simp [intOf]; omega
          · have b0 : ¬ ((0 : Int) < (i : Int)) := by omega
            clear hi0
            go_wp2_with fail
            refine HON.out.mono ?_
            rintro e w1 ⟨rfl, hb1⟩
            have HR1 : Hid (RB w w1 (.slice a xs.length cap) (.int .i64 A) (.int .i64 (p : Int)) (.int .i64 0) (.int .i64 0)) := HRB.out.call hb1
            clear hb1 g0 g1 g2 g3 g4
            obtain ⟨W1, W2, W3, W4, W5, k1, k2, k3, k4, k5, ⟨c0, y0⟩, ⟨c1, y1⟩, ⟨c2, y2⟩, ⟨c3, y3⟩, ⟨c4, y4⟩, hW5⟩ := chain5 HR1.out.box (.slice a xs.length cap) (.int .i64 A1) (.int .i64 (p : Int)) (.int .i64 0) (.int .i64 0)
            have HR2 : Hid (RB w W5 (.slice a xs.length cap) (.int .i64 A1) (.int .i64 (p : Int)) (.int .i64 0) (.int .i64 0)) := by rw [hW5]; exact HR1.out.put _ _ _ _ _
            clear hW5
            obtain ⟨⟨⟨e0, e1, e2, e3, e4⟩, _⟩, _⟩ := HR2.out.get
            go_wp2_with fail
            go_roundw
            case rel =>
              refine ⟨_, _, _, _, _, _, _, _, _, _, _, _, _, _, _, _, _, _, _, _, _, _, _, _, _, _, _, _, _, _, _, _, _, _, _, _, _, _, _, _, _, _, _, _, _, _, _, ?_, rfl⟩
              exact ⟨k, i + 1, n + c.toNat % 128 * 128 ^ i, by rw [HSUM2.out], by go_num, by omega, by omega, HNX.out, HRN.out, by omega, by rw [← Nat.add_assoc, HA1.out]; exact HR2.out⟩
            case measure => simp [intOf]; omega
end Go.Proofs.Ytmmiiapfefmcjaa

/- The document's reading of so many bytes. -/
namespace Go.Proofs.Ytmmiiapfefmcjaa
open Go.RowKit

set_option maxRecDepth 100000 in
set_option maxHeartbeats 1000000 in
theorem rgsome_pass (a : Option Addr) (n cap at' p q : Nat) (er : Int) (her : er ≠ 0) (m : Int) (w : World) :
    Calls Try.prog 119 #[.agg (rdg a n cap at' p q er), .int .u64 m] w fun e w' => e = .returned (.tuple #[.agg (rdg a n cap at' p q er), .string ByteArray.empty]) ∧ Below w.heap.size w w' := by
  have he : (er != 0) = true := by simp [her]
  clear her
  unfold rdg
  go_enter Try.func119, Try.ntmps119
  go_wp2_with fail
  refine bodyPost_ret (v := .tuple #[.agg #[.slice a n cap, .int .i64 (at' : Int), .int .i64 (p : Int), .int .i64 (q : Int), .int .i64 er], .string ByteArray.empty]) (by simp [results, Try.results119, go_sem] <;> rfl) rfl ⟨rfl, ?_⟩
  exact ((Below.refl _ _).alloc (Nat.le_refl _) _).alloc (by simp) _

set_option maxRecDepth 100000 in
set_option maxHeartbeats 1000000 in
theorem rgsome_bad (a : Option Addr) (n cap at' p m : Nat) (hle : at' ≤ n) (hln : n ≤ 281474976710656) (hm : ¬ at' + m ≤ n) (w : World) :
    Calls Try.prog 119 #[.agg (rdg a n cap at' p 0 0), .int .u64 (m : Int)] w fun e w' => e = .returned (.tuple #[.agg (rdg a n cap at' p n 4), .string ByteArray.empty]) ∧ Below w.heap.size w w' := by
  have HBd : Hid (∀ W, Calls Try.prog 91 #[.agg #[.slice a n cap, .int .i64 (at' : Int), .int .i64 (p : Int), .int .i64 0, .int .i64 0], .int .i64 (n : Int), .int .i64 4] W fun e w' => e = .returned (.agg #[.slice a n cap, .int .i64 (at' : Int), .int .i64 (p : Int), .int .i64 (n : Int), .int .i64 4]) ∧ Below W.heap.size W w') := fun W => rgbad_ok at' p a n cap W n 4
  have h1 : (n : Int) - (at' : Int) < (m : Int) := by omega
  have h2 : IntKind.u64.wrap ((n : Int) - (at' : Int)) = (n : Int) - (at' : Int) := by rw [IntKind.wrap_u64, Int.emod_eq_of_lt (by omega) (by omega)]
  unfold rdg
  go_enter Try.func119, Try.ntmps119
  go_wp2_with fail
  refine (HBd.out _).mono ?_
  rintro e w1 ⟨rfl, hb1⟩
  have HR1 : Hid (RB w w1 (.slice a n cap) (.int .i64 (at' : Int)) (.int .i64 (p : Int)) (.int .i64 0) (.int .i64 0)) := (RB.new _ _ _ _ _ _ _ _ _ _ _).call hb1
  clear hb1
  obtain ⟨v0, v1, v2, v3, v4, hres⟩ := HR1.out.res
  obtain ⟨V1, V2, V3, V4, V5, l1, l2, l3, l4, l5, ⟨d0, x0⟩, ⟨d1, x1⟩, ⟨d2, x2⟩, ⟨d3, x3⟩, ⟨d4, x4⟩, hV5⟩ := chain5 hres (.slice a n cap) (.int .i64 (at' : Int)) (.int .i64 (p : Int)) (.int .i64 (n : Int)) (.int .i64 4)
  have HF := HR1.out.fin (.slice a n cap) (.int .i64 (at' : Int)) (.int .i64 (p : Int)) (.int .i64 (n : Int)) (.int .i64 4)
  rw [← hV5] at HF
  have HF : Hid _ := HF
  clear hV5 hres
  go_wp2_with fail
  obtain ⟨⟨r0, r1, r2, r3, r4⟩, hbb⟩ := HF.out
  refine bodyPost_ret (v := .tuple #[.agg #[.slice a n cap, .int .i64 (at' : Int), .int .i64 (p : Int), .int .i64 (n : Int), .int .i64 4], .string ByteArray.empty]) (by simp [results, Try.results119, go_sem, r0, r1, r2, r3, r4] <;> rfl) rfl ⟨rfl, hbb⟩

set_option maxRecDepth 100000 in
set_option maxHeartbeats 1000000 in
theorem rgsome_ok (xs : List Int) (g o cap at' p m : Nat) (w : World) (hm : at' + m ≤ xs.length) (hcp : xs.length ≤ cap) (hca : ¬ cap = at') (hrd : RdB w (Lo w.heap.size) (some ⟨g, o, none⟩) xs) (hln : xs.length ≤ 281474976710656) :
    Calls Try.prog 119 #[.agg (rdg (some ⟨g, o, none⟩) xs.length cap at' p 0 0), .int .u64 (m : Int)] w fun e w' => e = .returned (.tuple #[.agg (rdg (some ⟨g, o, none⟩) xs.length cap (at' + m) p 0 0), .string (Sp.txt ((xs.drop at').take m))]) ∧ Below w.heap.size w w' := by
  have h1 : ¬ ((xs.length : Int) - (at' : Int) < (m : Int)) := by omega
  have h2 : IntKind.u64.wrap ((xs.length : Int) - (at' : Int)) = (xs.length : Int) - (at' : Int) := by rw [IntKind.wrap_u64, Int.emod_eq_of_lt (by omega) (by omega)]
  have h3 : IntKind.i64.wrap (m : Int) = (m : Int) := by rw [IntKind.wrap_i64]; omega
  have h4 : IntKind.i64.wrap ((at' : Int) + (m : Int)) = (at' : Int) + (m : Int) := by rw [IntKind.wrap_i64]; omega
  have h5 : IntKind.i64.wrap ((at' : Int) + (m : Int) - (m : Int)) = (at' : Int) := by rw [IntKind.wrap_i64]; omega
  have q0 : (0 : Int) ≤ (at' : Int) := Int.natCast_nonneg _
  have q1 : (at' : Int) ≤ (at' : Int) + (m : Int) := by omega
  have q2 : (at' : Int) + (m : Int) ≤ (cap : Int) := by omega
  have q3 : (0 : Int) ≤ (at' : Int) + (m : Int) := by omega
  have h6 : IntKind.i64.wrap (at' : Int) = (at' : Int) := by rw [IntKind.wrap_i64]; omega
  have HCV : Hid (∀ W : World, (∀ k, k < w.heap.size → W.heap[k]? = w.heap[k]?) → (convert 23 9 (.slice (some ⟨g, o + at', none⟩) (((at' : Int) + (m : Int)).toNat - at') (cap - at'))).run Try.prog W = .ok (.string (Sp.txt ((xs.drop at').take m))) W) := fun W hW => by
    have hr := (hrd.same (B' := Lo w.heap.size) (fun k hk => hW k hk) (fun _ h => h)).part (k := at') (n := m) hcp
    rw [if_neg hca, add_at] at hr
    have := conv_rd _ _ (cap - at') (Lo w.heap.size) W hr
    rw [part_len hm] at this
    rw [show ((at' : Int) + (m : Int)).toNat - at' = m by omega]
    exact this
  clear hrd
  unfold rdg
  go_enter Try.func119, Try.ntmps119
  go_wp2_with fail
  have hne : w.heap.size ≠ w.heap.size + 1 := by omega
  have HX : Hid (∀ W : World, W.heap[w.heap.size]? = some (.cells #[.slice (some ⟨g, o, none⟩) xs.length cap, .int .i64 ((at' : Int) + (m : Int)), .int .i64 (p : Int), .int .i64 0, .int .i64 0] 94 (0, 0)) → (∀ k, k < w.heap.size → W.heap[k]? = w.heap[k]?) → (W.cell? ⟨w.heap.size, 0, none⟩ = some (.slice (some ⟨g, o, none⟩) xs.length cap) ∧ W.cell? ⟨w.heap.size, 1, none⟩ = some (.int .i64 ((at' : Int) + (m : Int))) ∧ W.cell? ⟨w.heap.size, 2, none⟩ = some (.int .i64 (p : Int)) ∧ W.cell? ⟨w.heap.size, 3, none⟩ = some (.int .i64 0) ∧ W.cell? ⟨w.heap.size, 4, none⟩ = some (.int .i64 0)) ∧ (convert 23 9 (.slice (some ⟨g, o + at', none⟩) (((at' : Int) + (m : Int)).toNat - at') (cap - at'))).run Try.prog W = .ok (.string (Sp.txt ((xs.drop at').take m))) W) := fun W h1 h2 => ⟨five h1, HCV.out W h2⟩
  have HW : Hid (∀ B : Obj, ((w.alloc (.cells #[.slice (some ⟨g, o, none⟩) xs.length cap, .int .i64 ((at' : Int) + (m : Int)), .int .i64 (p : Int), .int .i64 0, .int .i64 0] 94)).alloc B).heap[w.heap.size]? = some (.cells #[.slice (some ⟨g, o, none⟩) xs.length cap, .int .i64 ((at' : Int) + (m : Int)), .int .i64 (p : Int), .int .i64 0, .int .i64 0] 94 (0, 0)) ∧ ∀ k, k < w.heap.size → ((w.alloc (.cells #[.slice (some ⟨g, o, none⟩) xs.length cap, .int .i64 ((at' : Int) + (m : Int)), .int .i64 (p : Int), .int .i64 0, .int .i64 0] 94)).alloc B).heap[k]? = w.heap[k]?) := fun B => by
    refine ⟨?_, fun k hk => ?_⟩
    · rw [Below.heap_alloc _ _ _ (by simp)]; exact heap_alloc_new w _
    · rw [Below.heap_alloc _ _ _ (by simp; omega), Below.heap_alloc _ _ _ hk]
  go_region_held3 (fun W => (W.cell? ⟨w.heap.size, 0, none⟩ = some (.slice (some ⟨g, o, none⟩) xs.length cap) ∧ W.cell? ⟨w.heap.size, 1, none⟩ = some (.int .i64 ((at' : Int) + (m : Int))) ∧ W.cell? ⟨w.heap.size, 2, none⟩ = some (.int .i64 (p : Int)) ∧ W.cell? ⟨w.heap.size, 3, none⟩ = some (.int .i64 0) ∧ W.cell? ⟨w.heap.size, 4, none⟩ = some (.int .i64 0)) ∧ (convert 23 9 (.slice (some ⟨g, o + at', none⟩) (((at' : Int) + (m : Int)).toNat - at') (cap - at'))).run Try.prog W = .ok (.string (Sp.txt ((xs.drop at').take m))) W)
    (first | exact HX.out _ (HW.out _).1 (HW.out _).2 | exact HX.out _ ((set5 _ _ _ hne _ _ _ _ _).trans (HW.out _).1) (fun k hk => (set5 _ _ _ (by omega) _ _ _ _ _).trans ((HW.out _).2 k hk)))
    (fail)
  all_goals
    go_wp2_with fail
    refine bodyPost_ret (v := .tuple #[.agg #[.slice (some ⟨g, o, none⟩) xs.length cap, .int .i64 ((at' : Int) + (m : Int)), .int .i64 (p : Int), .int .i64 0, .int .i64 0], .string (Sp.txt ((xs.drop at').take m))]) (by simp [results, Try.results119, go_sem] <;> rfl) rfl ⟨by rw [show ((at' + m : Nat) : Int) = (at' : Int) + (m : Int) by omega]; rfl, ?_⟩
    exact (((Below.refl _ _).alloc (Nat.le_refl _) _).alloc (by simp) _).drew
end Go.Proofs.Ytmmiiapfefmcjaa

