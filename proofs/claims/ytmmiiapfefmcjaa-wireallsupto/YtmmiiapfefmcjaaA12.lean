/- The document's reading of a name. -/
import Derived.Test.YtmmiiapfefmcjaaA11
import Derived.Test.YtmmiiapfefmcjaaA5
namespace Go.Proofs.Ytmmiiapfefmcjaa
open Go.RowKit

set_option maxRecDepth 100000 in
set_option maxHeartbeats 4000000 in
theorem rgname_ok1 (xs : List Int) (hby : By xs) (a : Option Addr) (cap at' p start : Nat) (w : World) (hcp : xs.length ≤ cap) (hnl : a = none → cap = 0) (hsp : ∀ q, a = some q → q.spot = none) (hrd : RdB w (Lo w.heap.size) a xs) (hln : xs.length ≤ 281474976710656) (n a1 : Nat) (hn : Sp.rn xs at' 10 0 0 = .ok n a1) (h32 : n ≤ 32) (hl : a1 + n ≤ xs.length) (hnm : Sp.isNm (Sp.txt ((xs.drop a1).take n)) = true) :
    Calls Try.prog 121 #[.agg (rdg a xs.length cap at' p 0 0), .int .i64 (start : Int)] w fun e w' => e = .returned (.tuple #[.agg (rdg a xs.length cap (a1 + n) p 0 0), .string (Sp.txt ((xs.drop a1).take n))]) ∧ Below w.heap.size w w' := by
  have hsz := isNm_len hnm
  rw [txt_size, part_len hl] at hsz
  have hn0 : ((n : Int) == 0) = false := by simp; omega
  have HLo : Hid (∀ W, Below w.heap.size w W → Calls Try.prog 118 #[.agg #[.slice a xs.length cap, .int .i64 (at' : Int), .int .i64 (p : Int), .int .i64 0, .int .i64 0], .int .u64 32, .int .i64 (start : Int), .int .i64 8] W fun e w' => e = .returned (.tuple #[.agg #[.slice a xs.length cap, .int .i64 (a1 : Int), .int .i64 (p : Int), .int .i64 0, .int .i64 0], .int .u64 (n : Int)]) ∧ Below W.heap.size W w') := fun W hW => rglong_ok xs hby a cap at' p n a1 32 start 8 W hn (by omega) (hrd.same (Same.of_below hW (Nat.le_refl _)) (Lo.le hW.size)) hln
  have HSo : Hid (∀ W, Below w.heap.size w W → Calls Try.prog 119 #[.agg #[.slice a xs.length cap, .int .i64 (a1 : Int), .int .i64 (p : Int), .int .i64 0, .int .i64 0], .int .u64 (n : Int)] W fun e w' => e = .returned (.tuple #[.agg #[.slice a xs.length cap, .int .i64 ((a1 + n : Nat) : Int), .int .i64 (p : Int), .int .i64 0, .int .i64 0], .string (Sp.txt ((xs.drop a1).take n))]) ∧ Below W.heap.size W w') := fun W hW => rgsome_any xs a cap a1 p n W hl hcp hnl hsp (hrd.same (Same.of_below hW (Nat.le_refl _)) (Lo.le hW.size)) hln
  obtain ⟨Z, HZ⟩ : ∃ Z : Int, Hid (((a1 + n : Nat) : Int) = Z) := ⟨_, rfl⟩
  rw [HZ.out] at HSo
  have HNm : Hid (∀ W, Below w.heap.size w W → Calls Try.prog 107 #[.string (Sp.txt ((xs.drop a1).take n))] W fun e w' => e = .returned (.bool true) ∧ Below W.heap.size W w') := fun W _ => by
    refine (Name_any (Sp.txt ((xs.drop a1).take n)) W (by rw [txt_size, part_len hl]; unfold maxLen; omega)).mono ?_
    rintro e w' ⟨rfl, rfl⟩
    exact ⟨by rw [hnm], Below.refl _ _⟩
  have HN : Hid (∀ z0 z1 z2 z3 z4, RB w ((w.alloc (.cells #[.slice a xs.length cap, .int .i64 (at' : Int), .int .i64 (p : Int), .int .i64 0, .int .i64 0] 94)).alloc (.cells #[z0, z1, z2, z3, z4] 94)) (.slice a xs.length cap) (.int .i64 (at' : Int)) (.int .i64 (p : Int)) (.int .i64 0) (.int .i64 0)) := fun _ _ _ _ _ => RB.new _ _ _ _ _ _ _ _ _ _ _
  clear hrd hby hn hnm hl
  unfold rdg
  go_enter Try.func121, Try.ntmps121
  go_wp2_with fail
  refine (HLo.out _ (HN.out _ _ _ _ _).bel).mono ?_
  rintro e w0 ⟨rfl, hb⟩
  have HR0 : Hid (RB w w0 (.slice a xs.length cap) (.int .i64 (at' : Int)) (.int .i64 (p : Int)) (.int .i64 0) (.int .i64 0)) := (HN.out _ _ _ _ _).call hb
  clear hb HN
  obtain ⟨A0, B0, C0, D0, E0, k1, k2, k3, k4, k5, ⟨c0, y0⟩, ⟨c1, y1⟩, ⟨c2, y2⟩, ⟨c3, y3⟩, ⟨c4, y4⟩, hE⟩ := chain5 HR0.out.box (.slice a xs.length cap) (.int .i64 (a1 : Int)) (.int .i64 (p : Int)) (.int .i64 0) (.int .i64 0)
  have HS0 : Hid (RB w E0 (.slice a xs.length cap) (.int .i64 (a1 : Int)) (.int .i64 (p : Int)) (.int .i64 0) (.int .i64 0)) := by rw [hE]; exact HR0.out.put _ _ _ _ _
  clear hE
  obtain ⟨⟨⟨e0, e1, e2, e3, e4⟩, _⟩, _⟩ := HS0.out.get
  go_wp2_with fail
  refine (HSo.out _ HS0.out.bel).mono ?_
  rintro e w1 ⟨rfl, hb⟩
  have HR1 : Hid (RB w w1 (.slice a xs.length cap) (.int .i64 (a1 : Int)) (.int .i64 (p : Int)) (.int .i64 0) (.int .i64 0)) := HS0.out.call hb
  clear hb e0 e1 e2 e3 e4 c0 c1 c2 c3 c4 y0 y1 y2 y3 y4 k1 k2 k3 k4 k5
  obtain ⟨A1, B1, C1, D1, E1, k1, k2, k3, k4, k5, ⟨c0, y0⟩, ⟨c1, y1⟩, ⟨c2, y2⟩, ⟨c3, y3⟩, ⟨c4, y4⟩, hE⟩ := chain5 HR1.out.box (.slice a xs.length cap) (.int .i64 Z) (.int .i64 (p : Int)) (.int .i64 0) (.int .i64 0)
  have HS1 : Hid (RB w E1 (.slice a xs.length cap) (.int .i64 Z) (.int .i64 (p : Int)) (.int .i64 0) (.int .i64 0)) := by rw [hE]; exact HR1.out.put _ _ _ _ _
  clear hE
  obtain ⟨⟨⟨e0, e1, e2, e3, e4⟩, _⟩, _⟩ := HS1.out.get
  go_wp2_with fail
  refine (HNm.out _ HS1.out.bel).mono ?_
  rintro e w2 ⟨rfl, hb⟩
  have HS2 : Hid (RB w w2 (.slice a xs.length cap) (.int .i64 Z) (.int .i64 (p : Int)) (.int .i64 0) (.int .i64 0)) := HS1.out.call hb
  clear hb e0 e1 e2 e3 e4 c0 c1 c2 c3 c4 y0 y1 y2 y3 y4 k1 k2 k3 k4 k5
  obtain ⟨⟨⟨e0, e1, e2, e3, e4⟩, _⟩, _⟩ := HS2.out.get
  obtain ⟨v0, v1, v2, v3, v4, hres⟩ := HS2.out.res
  obtain ⟨V1, V2, V3, V4, V5, l1, l2, l3, l4, l5, ⟨d0, x0⟩, ⟨d1, x1⟩, ⟨d2, x2⟩, ⟨d3, x3⟩, ⟨d4, x4⟩, hV5⟩ := chain5 hres (.slice a xs.length cap) (.int .i64 Z) (.int .i64 (p : Int)) (.int .i64 0) (.int .i64 0)
  have HF := HS2.out.fin (.slice a xs.length cap) (.int .i64 Z) (.int .i64 (p : Int)) (.int .i64 0) (.int .i64 0)
  rw [← hV5] at HF
  have HF : Hid _ := HF
  clear hV5 hres
  go_wp2_with fail
  obtain ⟨⟨r0, r1, r2, r3, r4⟩, hbb⟩ := HF.out
  refine bodyPost_ret (v := .tuple #[.agg #[.slice a xs.length cap, .int .i64 Z, .int .i64 (p : Int), .int .i64 0, .int .i64 0], .string (Sp.txt ((xs.drop a1).take n))]) (by simp [results, Try.results121, go_sem, r0, r1, r2, r3, r4] <;> rfl) rfl ⟨by rw [HZ.out]; rfl, hbb⟩
set_option maxRecDepth 100000 in
set_option maxHeartbeats 4000000 in
theorem rgname_bad1 (xs : List Int) (hby : By xs) (a : Option Addr) (cap at' p start : Nat) (w : World) (hrd : RdB w (Lo w.heap.size) a xs) (hln : xs.length ≤ 281474976710656) (q : Nat) (er : Int) (her : er ≠ 0) (hle : at' ≤ xs.length) (hn : Sp.rn xs at' 10 0 0 = .bad q er) :
    Calls Try.prog 121 #[.agg (rdg a xs.length cap at' p 0 0), .int .i64 (start : Int)] w fun e w' => ∃ (at2 : Nat) (s : ByteArray), e = .returned (.tuple #[.agg (rdg a xs.length cap at2 p q er), .string s]) ∧ Below w.heap.size w w' := by
  have HLo : Hid (∀ W, Below w.heap.size w W → Calls Try.prog 118 #[.agg #[.slice a xs.length cap, .int .i64 (at' : Int), .int .i64 (p : Int), .int .i64 0, .int .i64 0], .int .u64 32, .int .i64 (start : Int), .int .i64 8] W fun e w' => ∃ at2 : Nat, e = .returned (.tuple #[.agg #[.slice a xs.length cap, .int .i64 (at2 : Int), .int .i64 (p : Int), .int .i64 (q : Int), .int .i64 er], .int .u64 0]) ∧ Below W.heap.size W w') := fun W hW => rglong_bad xs hby a cap at' p q er her 32 start 8 W hn hle (hrd.same (Same.of_below hW (Nat.le_refl _)) (Lo.le hW.size)) hln
  have HSo : Hid (∀ (at2 : Nat), Hid (∀ W, Below w.heap.size w W → Calls Try.prog 119 #[.agg #[.slice a xs.length cap, .int .i64 (at2 : Int), .int .i64 (p : Int), .int .i64 (q : Int), .int .i64 er], .int .u64 0] W fun e w' => e = .returned (.tuple #[.agg #[.slice a xs.length cap, .int .i64 (at2 : Int), .int .i64 (p : Int), .int .i64 (q : Int), .int .i64 er], .string ByteArray.empty]) ∧ Below W.heap.size W w')) := fun at2 W _ => rgsome_pass a xs.length cap at2 p q er her 0 W
  have he : (er == 0) = false := by simp [her]
  have HN : Hid (∀ z0 z1 z2 z3 z4, RB w ((w.alloc (.cells #[.slice a xs.length cap, .int .i64 (at' : Int), .int .i64 (p : Int), .int .i64 0, .int .i64 0] 94)).alloc (.cells #[z0, z1, z2, z3, z4] 94)) (.slice a xs.length cap) (.int .i64 (at' : Int)) (.int .i64 (p : Int)) (.int .i64 0) (.int .i64 0)) := fun _ _ _ _ _ => RB.new _ _ _ _ _ _ _ _ _ _ _
  clear hrd hby hn her
  unfold rdg
  go_enter Try.func121, Try.ntmps121
  go_wp2_with fail
  refine (HLo.out _ (HN.out _ _ _ _ _).bel).mono ?_
  rintro e w0 ⟨at2, rfl, hb⟩
  have HR0 : Hid (RB w w0 (.slice a xs.length cap) (.int .i64 (at' : Int)) (.int .i64 (p : Int)) (.int .i64 0) (.int .i64 0)) := (HN.out _ _ _ _ _).call hb
  clear hb HN
  obtain ⟨A0, B0, C0, D0, E0, k1, k2, k3, k4, k5, ⟨c0, y0⟩, ⟨c1, y1⟩, ⟨c2, y2⟩, ⟨c3, y3⟩, ⟨c4, y4⟩, hE⟩ := chain5 HR0.out.box (.slice a xs.length cap) (.int .i64 (at2 : Int)) (.int .i64 (p : Int)) (.int .i64 (q : Int)) (.int .i64 er)
  have HS0 : Hid (RB w E0 (.slice a xs.length cap) (.int .i64 (at2 : Int)) (.int .i64 (p : Int)) (.int .i64 (q : Int)) (.int .i64 er)) := by rw [hE]; exact HR0.out.put _ _ _ _ _
  clear hE
  obtain ⟨⟨⟨e0, e1, e2, e3, e4⟩, _⟩, _⟩ := HS0.out.get
  go_wp2_with fail
  refine ((HSo.out at2).out _ HS0.out.bel).mono ?_
  rintro e w1 ⟨rfl, hb⟩
  have HR1 : Hid (RB w w1 (.slice a xs.length cap) (.int .i64 (at2 : Int)) (.int .i64 (p : Int)) (.int .i64 (q : Int)) (.int .i64 er)) := HS0.out.call hb
  clear hb e0 e1 e2 e3 e4 c0 c1 c2 c3 c4 y0 y1 y2 y3 y4 k1 k2 k3 k4 k5
  obtain ⟨A1, B1, C1, D1, E1, k1, k2, k3, k4, k5, ⟨c0, y0⟩, ⟨c1, y1⟩, ⟨c2, y2⟩, ⟨c3, y3⟩, ⟨c4, y4⟩, hE⟩ := chain5 HR1.out.box (.slice a xs.length cap) (.int .i64 (at2 : Int)) (.int .i64 (p : Int)) (.int .i64 (q : Int)) (.int .i64 er)
  have HS1 : Hid (RB w E1 (.slice a xs.length cap) (.int .i64 (at2 : Int)) (.int .i64 (p : Int)) (.int .i64 (q : Int)) (.int .i64 er)) := by rw [hE]; exact HR1.out.put _ _ _ _ _
  clear hE
  obtain ⟨⟨⟨e0, e1, e2, e3, e4⟩, _⟩, _⟩ := HS1.out.get
  obtain ⟨v0, v1, v2, v3, v4, hres⟩ := HS1.out.res
  obtain ⟨V1, V2, V3, V4, V5, l1, l2, l3, l4, l5, ⟨d0, x0⟩, ⟨d1, x1⟩, ⟨d2, x2⟩, ⟨d3, x3⟩, ⟨d4, x4⟩, hV5⟩ := chain5 hres (.slice a xs.length cap) (.int .i64 (at2 : Int)) (.int .i64 (p : Int)) (.int .i64 (q : Int)) (.int .i64 er)
  have HF := HS1.out.fin (.slice a xs.length cap) (.int .i64 (at2 : Int)) (.int .i64 (p : Int)) (.int .i64 (q : Int)) (.int .i64 er)
  rw [← hV5] at HF
  have HF : Hid _ := HF
  clear hV5 hres
  go_wp2_with fail
  obtain ⟨⟨r0, r1, r2, r3, r4⟩, hbb⟩ := HF.out
  refine bodyPost_ret (v := .tuple #[.agg #[.slice a xs.length cap, .int .i64 (at2 : Int), .int .i64 (p : Int), .int .i64 (q : Int), .int .i64 er], .string ByteArray.empty]) (by simp [results, Try.results121, go_sem, r0, r1, r2, r3, r4] <;> rfl) rfl ⟨at2, _, rfl, hbb⟩
set_option maxRecDepth 100000 in
set_option maxHeartbeats 4000000 in
theorem rgname_bad2 (xs : List Int) (hby : By xs) (a : Option Addr) (cap at' p start : Nat) (w : World) (hrd : RdB w (Lo w.heap.size) a xs) (hln : xs.length ≤ 281474976710656) (n a1 : Nat) (hn : Sp.rn xs at' 10 0 0 = .ok n a1) (h32 : 32 < n) :
    Calls Try.prog 121 #[.agg (rdg a xs.length cap at' p 0 0), .int .i64 (start : Int)] w fun e w' => ∃ (at2 : Nat) (s : ByteArray), e = .returned (.tuple #[.agg (rdg a xs.length cap at2 p start 8), .string s]) ∧ Below w.heap.size w w' := by
  have HLo : Hid (∀ W, Below w.heap.size w W → Calls Try.prog 118 #[.agg #[.slice a xs.length cap, .int .i64 (at' : Int), .int .i64 (p : Int), .int .i64 0, .int .i64 0], .int .u64 32, .int .i64 (start : Int), .int .i64 8] W fun e w' => e = .returned (.tuple #[.agg #[.slice a xs.length cap, .int .i64 (a1 : Int), .int .i64 (p : Int), .int .i64 (start : Int), .int .i64 8], .int .u64 (n : Int)]) ∧ Below W.heap.size W w') := fun W hW => rglong_most xs hby a cap at' p n a1 start 32 8 W hn (by omega) (hrd.same (Same.of_below hW (Nat.le_refl _)) (Lo.le hW.size)) hln
  have HSo : Hid (∀ W, Below w.heap.size w W → Calls Try.prog 119 #[.agg #[.slice a xs.length cap, .int .i64 (a1 : Int), .int .i64 (p : Int), .int .i64 (start : Int), .int .i64 8], .int .u64 (n : Int)] W fun e w' => e = .returned (.tuple #[.agg #[.slice a xs.length cap, .int .i64 (a1 : Int), .int .i64 (p : Int), .int .i64 (start : Int), .int .i64 8], .string ByteArray.empty]) ∧ Below W.heap.size W w') := fun W _ => rgsome_pass a xs.length cap a1 p start 8 (by decide) n W
  have HN : Hid (∀ z0 z1 z2 z3 z4, RB w ((w.alloc (.cells #[.slice a xs.length cap, .int .i64 (at' : Int), .int .i64 (p : Int), .int .i64 0, .int .i64 0] 94)).alloc (.cells #[z0, z1, z2, z3, z4] 94)) (.slice a xs.length cap) (.int .i64 (at' : Int)) (.int .i64 (p : Int)) (.int .i64 0) (.int .i64 0)) := fun _ _ _ _ _ => RB.new _ _ _ _ _ _ _ _ _ _ _
  clear hrd hby hn
  unfold rdg
  go_enter Try.func121, Try.ntmps121
  go_wp2_with fail
  refine (HLo.out _ (HN.out _ _ _ _ _).bel).mono ?_
  rintro e w0 ⟨rfl, hb⟩
  have HR0 : Hid (RB w w0 (.slice a xs.length cap) (.int .i64 (at' : Int)) (.int .i64 (p : Int)) (.int .i64 0) (.int .i64 0)) := (HN.out _ _ _ _ _).call hb
  clear hb HN
  obtain ⟨A0, B0, C0, D0, E0, k1, k2, k3, k4, k5, ⟨c0, y0⟩, ⟨c1, y1⟩, ⟨c2, y2⟩, ⟨c3, y3⟩, ⟨c4, y4⟩, hE⟩ := chain5 HR0.out.box (.slice a xs.length cap) (.int .i64 (a1 : Int)) (.int .i64 (p : Int)) (.int .i64 (start : Int)) (.int .i64 8)
  have HS0 : Hid (RB w E0 (.slice a xs.length cap) (.int .i64 (a1 : Int)) (.int .i64 (p : Int)) (.int .i64 (start : Int)) (.int .i64 8)) := by rw [hE]; exact HR0.out.put _ _ _ _ _
  clear hE
  obtain ⟨⟨⟨e0, e1, e2, e3, e4⟩, _⟩, _⟩ := HS0.out.get
  go_wp2_with fail
  refine (HSo.out _ HS0.out.bel).mono ?_
  rintro e w1 ⟨rfl, hb⟩
  have HR1 : Hid (RB w w1 (.slice a xs.length cap) (.int .i64 (a1 : Int)) (.int .i64 (p : Int)) (.int .i64 (start : Int)) (.int .i64 8)) := HS0.out.call hb
  clear hb e0 e1 e2 e3 e4 c0 c1 c2 c3 c4 y0 y1 y2 y3 y4 k1 k2 k3 k4 k5
  obtain ⟨A1, B1, C1, D1, E1, k1, k2, k3, k4, k5, ⟨c0, y0⟩, ⟨c1, y1⟩, ⟨c2, y2⟩, ⟨c3, y3⟩, ⟨c4, y4⟩, hE⟩ := chain5 HR1.out.box (.slice a xs.length cap) (.int .i64 (a1 : Int)) (.int .i64 (p : Int)) (.int .i64 (start : Int)) (.int .i64 8)
  have HS1 : Hid (RB w E1 (.slice a xs.length cap) (.int .i64 (a1 : Int)) (.int .i64 (p : Int)) (.int .i64 (start : Int)) (.int .i64 8)) := by rw [hE]; exact HR1.out.put _ _ _ _ _
  clear hE
  obtain ⟨⟨⟨e0, e1, e2, e3, e4⟩, _⟩, _⟩ := HS1.out.get
  obtain ⟨v0, v1, v2, v3, v4, hres⟩ := HS1.out.res
  obtain ⟨V1, V2, V3, V4, V5, l1, l2, l3, l4, l5, ⟨d0, x0⟩, ⟨d1, x1⟩, ⟨d2, x2⟩, ⟨d3, x3⟩, ⟨d4, x4⟩, hV5⟩ := chain5 hres (.slice a xs.length cap) (.int .i64 (a1 : Int)) (.int .i64 (p : Int)) (.int .i64 (start : Int)) (.int .i64 8)
  have HF := HS1.out.fin (.slice a xs.length cap) (.int .i64 (a1 : Int)) (.int .i64 (p : Int)) (.int .i64 (start : Int)) (.int .i64 8)
  rw [← hV5] at HF
  have HF : Hid _ := HF
  clear hV5 hres
  go_wp2_with fail
  obtain ⟨⟨r0, r1, r2, r3, r4⟩, hbb⟩ := HF.out
  refine bodyPost_ret (v := .tuple #[.agg #[.slice a xs.length cap, .int .i64 (a1 : Int), .int .i64 (p : Int), .int .i64 (start : Int), .int .i64 8], .string ByteArray.empty]) (by simp [results, Try.results121, go_sem, r0, r1, r2, r3, r4] <;> rfl) rfl ⟨a1, _, rfl, hbb⟩
set_option maxRecDepth 100000 in
set_option maxHeartbeats 4000000 in
theorem rgname_bad3 (xs : List Int) (hby : By xs) (a : Option Addr) (cap at' p start : Nat) (w : World) (hrd : RdB w (Lo w.heap.size) a xs) (hln : xs.length ≤ 281474976710656) (a1 : Nat) (hn : Sp.rn xs at' 10 0 0 = .ok 0 a1) :
    Calls Try.prog 121 #[.agg (rdg a xs.length cap at' p 0 0), .int .i64 (start : Int)] w fun e w' => ∃ (at2 : Nat) (s : ByteArray), e = .returned (.tuple #[.agg (rdg a xs.length cap at2 p start 8), .string s]) ∧ Below w.heap.size w w' := by
  have HLo : Hid (∀ W, Below w.heap.size w W → Calls Try.prog 118 #[.agg #[.slice a xs.length cap, .int .i64 (at' : Int), .int .i64 (p : Int), .int .i64 0, .int .i64 0], .int .u64 32, .int .i64 (start : Int), .int .i64 8] W fun e w' => e = .returned (.tuple #[.agg #[.slice a xs.length cap, .int .i64 (a1 : Int), .int .i64 (p : Int), .int .i64 0, .int .i64 0], .int .u64 0]) ∧ Below W.heap.size W w') := fun W hW => rglong_ok xs hby a cap at' p 0 a1 32 start 8 W hn (by decide) (hrd.same (Same.of_below hW (Nat.le_refl _)) (Lo.le hW.size)) hln
  have HBd : Hid (∀ W, Below w.heap.size w W → Calls Try.prog 91 #[.agg #[.slice a xs.length cap, .int .i64 (a1 : Int), .int .i64 (p : Int), .int .i64 0, .int .i64 0], .int .i64 (start : Int), .int .i64 8] W fun e w' => e = .returned (.agg #[.slice a xs.length cap, .int .i64 (a1 : Int), .int .i64 (p : Int), .int .i64 (start : Int), .int .i64 8]) ∧ Below W.heap.size W w') := fun W _ => rgbad_ok (a1 : Int) p a xs.length cap W start 8
  have HSo : Hid (∀ W, Below w.heap.size w W → Calls Try.prog 119 #[.agg #[.slice a xs.length cap, .int .i64 (a1 : Int), .int .i64 (p : Int), .int .i64 (start : Int), .int .i64 8], .int .u64 0] W fun e w' => e = .returned (.tuple #[.agg #[.slice a xs.length cap, .int .i64 (a1 : Int), .int .i64 (p : Int), .int .i64 (start : Int), .int .i64 8], .string ByteArray.empty]) ∧ Below W.heap.size W w') := fun W _ => rgsome_pass a xs.length cap a1 p start 8 (by decide) 0 W
  have HN : Hid (∀ z0 z1 z2 z3 z4, RB w ((w.alloc (.cells #[.slice a xs.length cap, .int .i64 (at' : Int), .int .i64 (p : Int), .int .i64 0, .int .i64 0] 94)).alloc (.cells #[z0, z1, z2, z3, z4] 94)) (.slice a xs.length cap) (.int .i64 (at' : Int)) (.int .i64 (p : Int)) (.int .i64 0) (.int .i64 0)) := fun _ _ _ _ _ => RB.new _ _ _ _ _ _ _ _ _ _ _
  clear hrd hby hn
  unfold rdg
  go_enter Try.func121, Try.ntmps121
  go_wp2_with fail
  refine (HLo.out _ (HN.out _ _ _ _ _).bel).mono ?_
  rintro e w0 ⟨rfl, hb⟩
  have HR0 : Hid (RB w w0 (.slice a xs.length cap) (.int .i64 (at' : Int)) (.int .i64 (p : Int)) (.int .i64 0) (.int .i64 0)) := (HN.out _ _ _ _ _).call hb
  clear hb HN
  obtain ⟨A0, B0, C0, D0, E0, k1, k2, k3, k4, k5, ⟨c0, y0⟩, ⟨c1, y1⟩, ⟨c2, y2⟩, ⟨c3, y3⟩, ⟨c4, y4⟩, hE⟩ := chain5 HR0.out.box (.slice a xs.length cap) (.int .i64 (a1 : Int)) (.int .i64 (p : Int)) (.int .i64 0) (.int .i64 0)
  have HS0 : Hid (RB w E0 (.slice a xs.length cap) (.int .i64 (a1 : Int)) (.int .i64 (p : Int)) (.int .i64 0) (.int .i64 0)) := by rw [hE]; exact HR0.out.put _ _ _ _ _
  clear hE
  obtain ⟨⟨⟨e0, e1, e2, e3, e4⟩, _⟩, _⟩ := HS0.out.get
  go_wp2_with fail
  refine (HBd.out _ HS0.out.bel).mono ?_
  rintro e w1 ⟨rfl, hb⟩
  have HR1 : Hid (RB w w1 (.slice a xs.length cap) (.int .i64 (a1 : Int)) (.int .i64 (p : Int)) (.int .i64 0) (.int .i64 0)) := HS0.out.call hb
  clear hb e0 e1 e2 e3 e4 c0 c1 c2 c3 c4 y0 y1 y2 y3 y4 k1 k2 k3 k4 k5
  obtain ⟨A1, B1, C1, D1, E1, k1, k2, k3, k4, k5, ⟨c0, y0⟩, ⟨c1, y1⟩, ⟨c2, y2⟩, ⟨c3, y3⟩, ⟨c4, y4⟩, hE⟩ := chain5 HR1.out.box (.slice a xs.length cap) (.int .i64 (a1 : Int)) (.int .i64 (p : Int)) (.int .i64 (start : Int)) (.int .i64 8)
  have HS1 : Hid (RB w E1 (.slice a xs.length cap) (.int .i64 (a1 : Int)) (.int .i64 (p : Int)) (.int .i64 (start : Int)) (.int .i64 8)) := by rw [hE]; exact HR1.out.put _ _ _ _ _
  clear hE
  obtain ⟨⟨⟨e0, e1, e2, e3, e4⟩, _⟩, _⟩ := HS1.out.get
  go_wp2_with fail
  refine (HSo.out _ HS1.out.bel).mono ?_
  rintro e w2 ⟨rfl, hb⟩
  have HR2 : Hid (RB w w2 (.slice a xs.length cap) (.int .i64 (a1 : Int)) (.int .i64 (p : Int)) (.int .i64 (start : Int)) (.int .i64 8)) := HS1.out.call hb
  clear hb e0 e1 e2 e3 e4 c0 c1 c2 c3 c4 y0 y1 y2 y3 y4 k1 k2 k3 k4 k5
  obtain ⟨A2, B2, C2, D2, E2, k1, k2, k3, k4, k5, ⟨c0, y0⟩, ⟨c1, y1⟩, ⟨c2, y2⟩, ⟨c3, y3⟩, ⟨c4, y4⟩, hE⟩ := chain5 HR2.out.box (.slice a xs.length cap) (.int .i64 (a1 : Int)) (.int .i64 (p : Int)) (.int .i64 (start : Int)) (.int .i64 8)
  have HS2 : Hid (RB w E2 (.slice a xs.length cap) (.int .i64 (a1 : Int)) (.int .i64 (p : Int)) (.int .i64 (start : Int)) (.int .i64 8)) := by rw [hE]; exact HR2.out.put _ _ _ _ _
  clear hE
  obtain ⟨⟨⟨e0, e1, e2, e3, e4⟩, _⟩, _⟩ := HS2.out.get
  obtain ⟨v0, v1, v2, v3, v4, hres⟩ := HS2.out.res
  obtain ⟨V1, V2, V3, V4, V5, l1, l2, l3, l4, l5, ⟨d0, x0⟩, ⟨d1, x1⟩, ⟨d2, x2⟩, ⟨d3, x3⟩, ⟨d4, x4⟩, hV5⟩ := chain5 hres (.slice a xs.length cap) (.int .i64 (a1 : Int)) (.int .i64 (p : Int)) (.int .i64 (start : Int)) (.int .i64 8)
  have HF := HS2.out.fin (.slice a xs.length cap) (.int .i64 (a1 : Int)) (.int .i64 (p : Int)) (.int .i64 (start : Int)) (.int .i64 8)
  rw [← hV5] at HF
  have HF : Hid _ := HF
  clear hV5 hres
  go_wp2_with fail
  obtain ⟨⟨r0, r1, r2, r3, r4⟩, hbb⟩ := HF.out
  refine bodyPost_ret (v := .tuple #[.agg #[.slice a xs.length cap, .int .i64 (a1 : Int), .int .i64 (p : Int), .int .i64 (start : Int), .int .i64 8], .string ByteArray.empty]) (by simp [results, Try.results121, go_sem, r0, r1, r2, r3, r4] <;> rfl) rfl ⟨a1, _, rfl, hbb⟩
set_option maxRecDepth 100000 in
set_option maxHeartbeats 4000000 in
theorem rgname_bad4 (xs : List Int) (hby : By xs) (a : Option Addr) (cap at' p start : Nat) (w : World) (hrd : RdB w (Lo w.heap.size) a xs) (hln : xs.length ≤ 281474976710656) (n a1 : Nat) (hn : Sp.rn xs at' 10 0 0 = .ok n a1) (h0 : 0 < n) (h32 : n ≤ 32) (hle : a1 ≤ xs.length) (hl : ¬ a1 + n ≤ xs.length) :
    Calls Try.prog 121 #[.agg (rdg a xs.length cap at' p 0 0), .int .i64 (start : Int)] w fun e w' => ∃ (at2 : Nat) (s : ByteArray), e = .returned (.tuple #[.agg (rdg a xs.length cap at2 p xs.length 4), .string s]) ∧ Below w.heap.size w w' := by
  have hn0 : ((n : Int) == 0) = false := by simp; omega
  have HLo : Hid (∀ W, Below w.heap.size w W → Calls Try.prog 118 #[.agg #[.slice a xs.length cap, .int .i64 (at' : Int), .int .i64 (p : Int), .int .i64 0, .int .i64 0], .int .u64 32, .int .i64 (start : Int), .int .i64 8] W fun e w' => e = .returned (.tuple #[.agg #[.slice a xs.length cap, .int .i64 (a1 : Int), .int .i64 (p : Int), .int .i64 0, .int .i64 0], .int .u64 (n : Int)]) ∧ Below W.heap.size W w') := fun W hW => rglong_ok xs hby a cap at' p n a1 32 start 8 W hn (by omega) (hrd.same (Same.of_below hW (Nat.le_refl _)) (Lo.le hW.size)) hln
  have HSo : Hid (∀ W, Below w.heap.size w W → Calls Try.prog 119 #[.agg #[.slice a xs.length cap, .int .i64 (a1 : Int), .int .i64 (p : Int), .int .i64 0, .int .i64 0], .int .u64 (n : Int)] W fun e w' => e = .returned (.tuple #[.agg #[.slice a xs.length cap, .int .i64 (a1 : Int), .int .i64 (p : Int), .int .i64 (xs.length : Int), .int .i64 4], .string ByteArray.empty]) ∧ Below W.heap.size W w') := fun W _ => rgsome_bad a xs.length cap a1 p n hle hln hl W
  have HN : Hid (∀ z0 z1 z2 z3 z4, RB w ((w.alloc (.cells #[.slice a xs.length cap, .int .i64 (at' : Int), .int .i64 (p : Int), .int .i64 0, .int .i64 0] 94)).alloc (.cells #[z0, z1, z2, z3, z4] 94)) (.slice a xs.length cap) (.int .i64 (at' : Int)) (.int .i64 (p : Int)) (.int .i64 0) (.int .i64 0)) := fun _ _ _ _ _ => RB.new _ _ _ _ _ _ _ _ _ _ _
  clear hrd hby hn hl
  unfold rdg
  go_enter Try.func121, Try.ntmps121
  go_wp2_with fail
  refine (HLo.out _ (HN.out _ _ _ _ _).bel).mono ?_
  rintro e w0 ⟨rfl, hb⟩
  have HR0 : Hid (RB w w0 (.slice a xs.length cap) (.int .i64 (at' : Int)) (.int .i64 (p : Int)) (.int .i64 0) (.int .i64 0)) := (HN.out _ _ _ _ _).call hb
  clear hb HN
  obtain ⟨A0, B0, C0, D0, E0, k1, k2, k3, k4, k5, ⟨c0, y0⟩, ⟨c1, y1⟩, ⟨c2, y2⟩, ⟨c3, y3⟩, ⟨c4, y4⟩, hE⟩ := chain5 HR0.out.box (.slice a xs.length cap) (.int .i64 (a1 : Int)) (.int .i64 (p : Int)) (.int .i64 0) (.int .i64 0)
  have HS0 : Hid (RB w E0 (.slice a xs.length cap) (.int .i64 (a1 : Int)) (.int .i64 (p : Int)) (.int .i64 0) (.int .i64 0)) := by rw [hE]; exact HR0.out.put _ _ _ _ _
  clear hE
  obtain ⟨⟨⟨e0, e1, e2, e3, e4⟩, _⟩, _⟩ := HS0.out.get
  go_wp2_with fail
  refine (HSo.out _ HS0.out.bel).mono ?_
  rintro e w1 ⟨rfl, hb⟩
  have HR1 : Hid (RB w w1 (.slice a xs.length cap) (.int .i64 (a1 : Int)) (.int .i64 (p : Int)) (.int .i64 0) (.int .i64 0)) := HS0.out.call hb
  clear hb e0 e1 e2 e3 e4 c0 c1 c2 c3 c4 y0 y1 y2 y3 y4 k1 k2 k3 k4 k5
  obtain ⟨A1, B1, C1, D1, E1, k1, k2, k3, k4, k5, ⟨c0, y0⟩, ⟨c1, y1⟩, ⟨c2, y2⟩, ⟨c3, y3⟩, ⟨c4, y4⟩, hE⟩ := chain5 HR1.out.box (.slice a xs.length cap) (.int .i64 (a1 : Int)) (.int .i64 (p : Int)) (.int .i64 (xs.length : Int)) (.int .i64 4)
  have HS1 : Hid (RB w E1 (.slice a xs.length cap) (.int .i64 (a1 : Int)) (.int .i64 (p : Int)) (.int .i64 (xs.length : Int)) (.int .i64 4)) := by rw [hE]; exact HR1.out.put _ _ _ _ _
  clear hE
  obtain ⟨⟨⟨e0, e1, e2, e3, e4⟩, _⟩, _⟩ := HS1.out.get
  obtain ⟨v0, v1, v2, v3, v4, hres⟩ := HS1.out.res
  obtain ⟨V1, V2, V3, V4, V5, l1, l2, l3, l4, l5, ⟨d0, x0⟩, ⟨d1, x1⟩, ⟨d2, x2⟩, ⟨d3, x3⟩, ⟨d4, x4⟩, hV5⟩ := chain5 hres (.slice a xs.length cap) (.int .i64 (a1 : Int)) (.int .i64 (p : Int)) (.int .i64 (xs.length : Int)) (.int .i64 4)
  have HF := HS1.out.fin (.slice a xs.length cap) (.int .i64 (a1 : Int)) (.int .i64 (p : Int)) (.int .i64 (xs.length : Int)) (.int .i64 4)
  rw [← hV5] at HF
  have HF : Hid _ := HF
  clear hV5 hres
  go_wp2_with fail
  obtain ⟨⟨r0, r1, r2, r3, r4⟩, hbb⟩ := HF.out
  refine bodyPost_ret (v := .tuple #[.agg #[.slice a xs.length cap, .int .i64 (a1 : Int), .int .i64 (p : Int), .int .i64 (xs.length : Int), .int .i64 4], .string ByteArray.empty]) (by simp [results, Try.results121, go_sem, r0, r1, r2, r3, r4] <;> rfl) rfl ⟨a1, _, rfl, hbb⟩
set_option maxRecDepth 100000 in
set_option maxHeartbeats 4000000 in
theorem rgname_bad5 (xs : List Int) (hby : By xs) (a : Option Addr) (cap at' p start : Nat) (w : World) (hcp : xs.length ≤ cap) (hnl : a = none → cap = 0) (hsp : ∀ q, a = some q → q.spot = none) (hrd : RdB w (Lo w.heap.size) a xs) (hln : xs.length ≤ 281474976710656) (n a1 : Nat) (hn : Sp.rn xs at' 10 0 0 = .ok n a1) (h0 : 0 < n) (h32 : n ≤ 32) (hl : a1 + n ≤ xs.length) (hnm : Sp.isNm (Sp.txt ((xs.drop a1).take n)) = false) :
    Calls Try.prog 121 #[.agg (rdg a xs.length cap at' p 0 0), .int .i64 (start : Int)] w fun e w' => ∃ (at2 : Nat) (s : ByteArray), e = .returned (.tuple #[.agg (rdg a xs.length cap at2 p start 8), .string s]) ∧ Below w.heap.size w w' := by
  have hn0 : ((n : Int) == 0) = false := by simp; omega
  have HLo : Hid (∀ W, Below w.heap.size w W → Calls Try.prog 118 #[.agg #[.slice a xs.length cap, .int .i64 (at' : Int), .int .i64 (p : Int), .int .i64 0, .int .i64 0], .int .u64 32, .int .i64 (start : Int), .int .i64 8] W fun e w' => e = .returned (.tuple #[.agg #[.slice a xs.length cap, .int .i64 (a1 : Int), .int .i64 (p : Int), .int .i64 0, .int .i64 0], .int .u64 (n : Int)]) ∧ Below W.heap.size W w') := fun W hW => rglong_ok xs hby a cap at' p n a1 32 start 8 W hn (by omega) (hrd.same (Same.of_below hW (Nat.le_refl _)) (Lo.le hW.size)) hln
  have HSo : Hid (∀ W, Below w.heap.size w W → Calls Try.prog 119 #[.agg #[.slice a xs.length cap, .int .i64 (a1 : Int), .int .i64 (p : Int), .int .i64 0, .int .i64 0], .int .u64 (n : Int)] W fun e w' => e = .returned (.tuple #[.agg #[.slice a xs.length cap, .int .i64 ((a1 + n : Nat) : Int), .int .i64 (p : Int), .int .i64 0, .int .i64 0], .string (Sp.txt ((xs.drop a1).take n))]) ∧ Below W.heap.size W w') := fun W hW => rgsome_any xs a cap a1 p n W hl hcp hnl hsp (hrd.same (Same.of_below hW (Nat.le_refl _)) (Lo.le hW.size)) hln
  obtain ⟨Z, HZ⟩ : ∃ Z : Int, Hid (((a1 + n : Nat) : Int) = Z) := ⟨_, rfl⟩
  rw [HZ.out] at HSo
  have HNm : Hid (∀ W, Below w.heap.size w W → Calls Try.prog 107 #[.string (Sp.txt ((xs.drop a1).take n))] W fun e w' => e = .returned (.bool false) ∧ Below W.heap.size W w') := fun W _ => by
    refine (Name_any (Sp.txt ((xs.drop a1).take n)) W (by rw [txt_size, part_len hl]; unfold maxLen; omega)).mono ?_
    rintro e w' ⟨rfl, rfl⟩
    exact ⟨by rw [hnm], Below.refl _ _⟩
  have HBd : Hid (∀ W, Below w.heap.size w W → Calls Try.prog 91 #[.agg #[.slice a xs.length cap, .int .i64 Z, .int .i64 (p : Int), .int .i64 0, .int .i64 0], .int .i64 (start : Int), .int .i64 8] W fun e w' => e = .returned (.agg #[.slice a xs.length cap, .int .i64 Z, .int .i64 (p : Int), .int .i64 (start : Int), .int .i64 8]) ∧ Below W.heap.size W w') := fun W _ => rgbad_ok Z p a xs.length cap W start 8
  have HN : Hid (∀ z0 z1 z2 z3 z4, RB w ((w.alloc (.cells #[.slice a xs.length cap, .int .i64 (at' : Int), .int .i64 (p : Int), .int .i64 0, .int .i64 0] 94)).alloc (.cells #[z0, z1, z2, z3, z4] 94)) (.slice a xs.length cap) (.int .i64 (at' : Int)) (.int .i64 (p : Int)) (.int .i64 0) (.int .i64 0)) := fun _ _ _ _ _ => RB.new _ _ _ _ _ _ _ _ _ _ _
  clear hrd hby hn hnm hl
  unfold rdg
  go_enter Try.func121, Try.ntmps121
  go_wp2_with fail
  refine (HLo.out _ (HN.out _ _ _ _ _).bel).mono ?_
  rintro e w0 ⟨rfl, hb⟩
  have HR0 : Hid (RB w w0 (.slice a xs.length cap) (.int .i64 (at' : Int)) (.int .i64 (p : Int)) (.int .i64 0) (.int .i64 0)) := (HN.out _ _ _ _ _).call hb
  clear hb HN
  obtain ⟨A0, B0, C0, D0, E0, k1, k2, k3, k4, k5, ⟨c0, y0⟩, ⟨c1, y1⟩, ⟨c2, y2⟩, ⟨c3, y3⟩, ⟨c4, y4⟩, hE⟩ := chain5 HR0.out.box (.slice a xs.length cap) (.int .i64 (a1 : Int)) (.int .i64 (p : Int)) (.int .i64 0) (.int .i64 0)
  have HS0 : Hid (RB w E0 (.slice a xs.length cap) (.int .i64 (a1 : Int)) (.int .i64 (p : Int)) (.int .i64 0) (.int .i64 0)) := by rw [hE]; exact HR0.out.put _ _ _ _ _
  clear hE
  obtain ⟨⟨⟨e0, e1, e2, e3, e4⟩, _⟩, _⟩ := HS0.out.get
  go_wp2_with fail
  refine (HSo.out _ HS0.out.bel).mono ?_
  rintro e w1 ⟨rfl, hb⟩
  have HR1 : Hid (RB w w1 (.slice a xs.length cap) (.int .i64 (a1 : Int)) (.int .i64 (p : Int)) (.int .i64 0) (.int .i64 0)) := HS0.out.call hb
  clear hb e0 e1 e2 e3 e4 c0 c1 c2 c3 c4 y0 y1 y2 y3 y4 k1 k2 k3 k4 k5
  obtain ⟨A1, B1, C1, D1, E1, k1, k2, k3, k4, k5, ⟨c0, y0⟩, ⟨c1, y1⟩, ⟨c2, y2⟩, ⟨c3, y3⟩, ⟨c4, y4⟩, hE⟩ := chain5 HR1.out.box (.slice a xs.length cap) (.int .i64 Z) (.int .i64 (p : Int)) (.int .i64 0) (.int .i64 0)
  have HS1 : Hid (RB w E1 (.slice a xs.length cap) (.int .i64 Z) (.int .i64 (p : Int)) (.int .i64 0) (.int .i64 0)) := by rw [hE]; exact HR1.out.put _ _ _ _ _
  clear hE
  obtain ⟨⟨⟨e0, e1, e2, e3, e4⟩, _⟩, _⟩ := HS1.out.get
  go_wp2_with fail
  refine (HNm.out _ HS1.out.bel).mono ?_
  rintro e w2 ⟨rfl, hb⟩
  have HS2 : Hid (RB w w2 (.slice a xs.length cap) (.int .i64 Z) (.int .i64 (p : Int)) (.int .i64 0) (.int .i64 0)) := HS1.out.call hb
  clear hb e0 e1 e2 e3 e4 c0 c1 c2 c3 c4 y0 y1 y2 y3 y4 k1 k2 k3 k4 k5
  obtain ⟨⟨⟨e0, e1, e2, e3, e4⟩, _⟩, _⟩ := HS2.out.get
  go_wp2_with fail
  refine (HBd.out _ HS2.out.bel).mono ?_
  rintro e w3 ⟨rfl, hb⟩
  have HR3 : Hid (RB w w3 (.slice a xs.length cap) (.int .i64 Z) (.int .i64 (p : Int)) (.int .i64 0) (.int .i64 0)) := HS2.out.call hb
  clear hb e0 e1 e2 e3 e4
  obtain ⟨A3, B3, C3, D3, E3, k1, k2, k3, k4, k5, ⟨c0, y0⟩, ⟨c1, y1⟩, ⟨c2, y2⟩, ⟨c3, y3⟩, ⟨c4, y4⟩, hE⟩ := chain5 HR3.out.box (.slice a xs.length cap) (.int .i64 Z) (.int .i64 (p : Int)) (.int .i64 (start : Int)) (.int .i64 8)
  have HS3 : Hid (RB w E3 (.slice a xs.length cap) (.int .i64 Z) (.int .i64 (p : Int)) (.int .i64 (start : Int)) (.int .i64 8)) := by rw [hE]; exact HR3.out.put _ _ _ _ _
  clear hE
  obtain ⟨⟨⟨e0, e1, e2, e3, e4⟩, _⟩, _⟩ := HS3.out.get
  obtain ⟨v0, v1, v2, v3, v4, hres⟩ := HS3.out.res
  obtain ⟨V1, V2, V3, V4, V5, l1, l2, l3, l4, l5, ⟨d0, x0⟩, ⟨d1, x1⟩, ⟨d2, x2⟩, ⟨d3, x3⟩, ⟨d4, x4⟩, hV5⟩ := chain5 hres (.slice a xs.length cap) (.int .i64 Z) (.int .i64 (p : Int)) (.int .i64 (start : Int)) (.int .i64 8)
  have HF := HS3.out.fin (.slice a xs.length cap) (.int .i64 Z) (.int .i64 (p : Int)) (.int .i64 (start : Int)) (.int .i64 8)
  rw [← hV5] at HF
  have HF : Hid _ := HF
  clear hV5 hres
  go_wp2_with fail
  obtain ⟨⟨r0, r1, r2, r3, r4⟩, hbb⟩ := HF.out
  refine bodyPost_ret (v := .tuple #[.agg #[.slice a xs.length cap, .int .i64 Z, .int .i64 (p : Int), .int .i64 (start : Int), .int .i64 8], .string (Sp.txt ((xs.drop a1).take n))]) (by simp [results, Try.results121, go_sem, r0, r1, r2, r3, r4] <;> rfl) rfl ⟨a1 + n, _, by rw [HZ.out], hbb⟩
theorem rgname_ok (xs : List Int) (hby : By xs) (a : Option Addr) (cap at' p start : Nat) (w : World) (hcp : xs.length ≤ cap) (hnl : a = none → cap = 0) (hsp : ∀ q, a = some q → q.spot = none) (hrd : RdB w (Lo w.heap.size) a xs) (hln : xs.length ≤ 281474976710656) (l : List Int) (a2 : Nat) (hr : Sp.rdN xs at' start = .ok l a2) :
    Calls Try.prog 121 #[.agg (rdg a xs.length cap at' p 0 0), .int .i64 (start : Int)] w fun e w' => e = .returned (.tuple #[.agg (rdg a xs.length cap a2 p 0 0), .string (Sp.txt l)]) ∧ Below w.heap.size w w' := by
  obtain ⟨n, a1, hn, h32, hl, rfl, rfl, hnm⟩ := rdN_ok hr
  exact rgname_ok1 xs hby a cap at' p start w hcp hnl hsp hrd hln n a1 hn h32 hl hnm
theorem rgname_bad (xs : List Int) (hby : By xs) (a : Option Addr) (cap at' p start : Nat) (w : World) (hcp : xs.length ≤ cap) (hnl : a = none → cap = 0) (hsp : ∀ q, a = some q → q.spot = none) (hrd : RdB w (Lo w.heap.size) a xs) (hln : xs.length ≤ 281474976710656) (hle : at' ≤ xs.length) (q : Nat) (er : Int) (hr : Sp.rdN xs at' start = .bad q er) :
    Calls Try.prog 121 #[.agg (rdg a xs.length cap at' p 0 0), .int .i64 (start : Int)] w fun e w' => ∃ (at2 : Nat) (s : ByteArray), e = .returned (.tuple #[.agg (rdg a xs.length cap at2 p q er), .string s]) ∧ Below w.heap.size w w' := by
  unfold Sp.rdN at hr
  cases hn : Sp.rn xs at' 10 0 0 with
  | bad q1 e1 =>
    rw [hn] at hr
    injection hr with e1 e2; subst e1; subst e2
    exact rgname_bad1 xs hby a cap at' p start w hrd hln _ _ (rn_er _ _ _ _ _ hn) hle hn
  | ok n a1 =>
    rw [hn] at hr
    simp only at hr
    have ha1 := rn_ok _ _ _ _ _ hn
    split at hr
    · rename_i h32
      injection hr with e1 e2; subst e1; subst e2
      exact rgname_bad2 xs hby a cap at' p start w hrd hln n a1 hn h32
    · rename_i h32
      unfold Sp.tk at hr
      by_cases h0 : n = 0
      · subst h0
        rw [if_pos (by omega)] at hr
        simp only at hr
        split at hr
        · rename_i hnm
          rw [List.take_zero] at hnm
          have h0 : Sp.isNm (Sp.txt []) = false := rfl
          rw [h0] at hnm
          exact absurd hnm Bool.false_ne_true
        injection hr with e1 e2; subst e1; subst e2
        exact rgname_bad3 xs hby a cap at' p start w hrd hln a1 hn
      by_cases hl : a1 + n ≤ xs.length
      · rw [if_pos hl] at hr
        simp only at hr
        split at hr
        · simp at hr
        · rename_i hnm
          injection hr with e1 e2; subst e1; subst e2
          exact rgname_bad5 xs hby a cap at' p start w hcp hnl hsp hrd hln n a1 hn (by omega) (by omega) hl (by simpa using hnm)
      · rw [if_neg hl] at hr
        injection hr with e1 e2; subst e1; subst e2
        exact rgname_bad4 xs hby a cap at' p start w hrd hln n a1 hn (by omega) (by omega) ha1 hl
end Go.Proofs.Ytmmiiapfefmcjaa

