/- The document's reading of a value's body: a float. -/
import Derived.Test.YtmmiiapfefmcjaaA14
namespace Go.Proofs.Ytmmiiapfefmcjaa
open Go.RowKit

/-- so many bytes, the first the greatest -/
def b256 (l : List Int) : Nat := l.foldl (fun n x => n * 256 + x.toNat) 0
theorem b256_more (l : List Int) (x : Int) : b256 (l ++ [x]) = b256 l * 256 + x.toNat := by simp [b256]
theorem take_more {xs : List Int} {at' j : Nat} {c : Int} (h : xs[at' + j]? = some c) : (xs.drop at').take (j + 1) = (xs.drop at').take j ++ [c] := by
  rw [List.take_add_one, List.getElem?_drop, h]; rfl

set_option maxRecDepth 100000 in
set_option maxHeartbeats 4000000 in
theorem rgbody_float (xs : List Int) (hby : By xs) (a : Option Addr) (cap at' p : Nat) (s deep : Int) (w : World) (hrd : RdB w (Lo w.heap.size) a xs) (hln : xs.length ≤ 281474976710656) (hl : at' + 8 ≤ xs.length) :
    Calls Try.prog 93 #[.agg #[.slice a xs.length cap, .int .i64 (at' : Int), .int .i64 (p : Int), .int .i64 0, .int .i64 0], .agg #[.int .i64 4, .bool false, .int .i64 0, .float .f64 0, .string ⟨#[]⟩, .slice none 0 0, .int .u64 0, .slice none 0 0, .slice none 0 0, .string ⟨#[]⟩, .int .i64 0], .int .i64 s, .int .i64 deep] w fun e w' => e = .returned (.tuple #[.agg #[.slice a xs.length cap, .int .i64 ((at' + 8 : Nat) : Int), .int .i64 (p : Int), .int .i64 0, .int .i64 0], .agg #[.int .i64 4, .bool false, .int .i64 0, .float .f64 (b256 ((xs.drop at').take 8)), .string ⟨#[]⟩, .slice none 0 0, .int .u64 0, .slice none 0 0, .slice none 0 0, .string ⟨#[]⟩, .int .i64 0]]) ∧ Below w.heap.size w w' := by
  have HO : Hid (∀ W j c, Below w.heap.size w W → xs[at' + j]? = some c → Calls Try.prog 92 #[.agg #[.slice a xs.length cap, .int .i64 ((at' + j : Nat) : Int), .int .i64 (p : Int), .int .i64 0, .int .i64 0]] W fun e w' => e = .returned (.tuple #[.agg #[.slice a xs.length cap, .int .i64 ((at' + j + 1 : Nat) : Int), .int .i64 (p : Int), .int .i64 0, .int .i64 0], .int .u8 c]) ∧ Below W.heap.size W w') := fun W j c hW hx => rgone_ok xs a cap (at' + j) p W c hx (hrd.same (Same.of_below hW (Nat.le_refl _)) (Lo.le hW.size)) hln
  have HFB : Hid (∀ (n : Nat) W, (callFunc 87 #[.int .u64 (n : Int)]).run Try.prog W = .ok (.value (.float .f64 n)) W) := frombits_run
  have HBY : Hid (By xs ∧ at' + 8 ≤ xs.length) := ⟨hby, hl⟩
  clear hrd hby hl hln
  have HN := R4.new w #[.slice a xs.length cap, .int .i64 (at' : Int), .int .i64 (p : Int), .int .i64 0, .int .i64 0] #[.int .i64 4, .bool false, .int .i64 0, .float .f64 0, .string ⟨#[]⟩, .slice none 0 0, .int .u64 0, .slice none 0 0, .slice none 0 0, .string ⟨#[]⟩, .int .i64 0] #[.slice none 0 0, .int .i64 0, .int .i64 0, .int .i64 0, .int .i64 0] #[.int .i64 0, .bool false, .int .i64 0, .float .f64 0, .string ⟨#[]⟩, .slice none 0 0, .int .u64 0, .slice none 0 0, .slice none 0 0, .string ⟨#[]⟩, .int .i64 0]
  have HN : Hid _ := HN
  go_enter Try.func93, Try.ntmps93
  go_wp2_with fail
  go_loopw [10, 13, 14] (fun x b i wr => ∃ (j n : Nat) (y : Int), x = .int .u8 y ∧ b = .int .u64 (n : Int) ∧ i = .int .i64 (j : Int) ∧ j ≤ 8 ∧ Hid (n = b256 ((xs.drop at').take j) ∧ n < 256 ^ j ∧ R4 w wr #[.slice a xs.length cap, .int .i64 ((at' + j : Nat) : Int), .int .i64 (p : Int), .int .i64 0, .int .i64 0] #[.int .i64 4, .bool false, .int .i64 0, .float .f64 0, .string ⟨#[]⟩, .slice none 0 0, .int .u64 0, .slice none 0 0, .slice none 0 0, .string ⟨#[]⟩, .int .i64 0] #[.slice none 0 0, .int .i64 0, .int .i64 0, .int .i64 0, .int .i64 0] #[.int .i64 0, .bool false, .int .i64 0, .float .f64 0, .string ⟨#[]⟩, .slice none 0 0, .int .u64 0, .slice none 0 0, .slice none 0 0, .string ⟨#[]⟩, .int .i64 0])) (fun _ _ i _ => 8 - (intOf i).toNat)
  case atStart => exact ⟨0, 0, 0, rfl, rfl, rfl, by decide, by simp [b256], by decide, HN.out⟩
  case round =>
    obtain ⟨j, n, y, rfl, rfl, rfl, hj8, HR⟩ := hrel
    clear HN
    obtain ⟨hn, hn2, hrb⟩ := HR.out
    obtain ⟨A, HA⟩ : ∃ A : Int, Hid (((at' + j : Nat) : Int) = A) := ⟨_, rfl⟩
    by_cases hj : j < 8
    · have hjd : decide ((j : Int) < 8) = true := decide_eq_true (by omega)
      obtain ⟨c, hx⟩ : ∃ c, xs[at' + j]? = some c := ⟨_, List.getElem?_eq_getElem (by have := HBY.out.2; omega)⟩
      have hcb := HBY.out.1.get hx
      have HON : Hid (∀ W, Below w.heap.size w W → Calls Try.prog 92 #[.agg #[.slice a xs.length cap, .int .i64 ((at' + j : Nat) : Int), .int .i64 (p : Int), .int .i64 0, .int .i64 0]] W fun e w' => e = .returned (.tuple #[.agg #[.slice a xs.length cap, .int .i64 ((at' + j + 1 : Nat) : Int), .int .i64 (p : Int), .int .i64 0, .int .i64 0], .int .u8 c]) ∧ Below W.heap.size W w') := fun W hW => HO.out W j c hW hx
      obtain ⟨A1, HA1⟩ : ∃ A1 : Int, Hid (((at' + j + 1 : Nat) : Int) = A1) := ⟨_, rfl⟩
      have HRB : Hid (R4 w wr #[.slice a xs.length cap, .int .i64 ((at' + j : Nat) : Int), .int .i64 (p : Int), .int .i64 0, .int .i64 0] #[.int .i64 4, .bool false, .int .i64 0, .float .f64 0, .string ⟨#[]⟩, .slice none 0 0, .int .u64 0, .slice none 0 0, .slice none 0 0, .string ⟨#[]⟩, .int .i64 0] #[.slice none 0 0, .int .i64 0, .int .i64 0, .int .i64 0, .int .i64 0] #[.int .i64 0, .bool false, .int .i64 0, .float .f64 0, .string ⟨#[]⟩, .slice none 0 0, .int .u64 0, .slice none 0 0, .slice none 0 0, .string ⟨#[]⟩, .int .i64 0]) := hrb
      rw [HA.out] at HON HRB
      rw [HA1.out] at HON
      have HP : Hid (n * 256 + c.toNat < 256 ^ (j + 1) ∧ (256 : Nat) ^ (j + 1) ≤ 256 ^ 8) := ⟨by rw [Nat.pow_succ]; omega, Nat.pow_le_pow_right (by decide) (by omega)⟩
      have HSUM : Hid (IntKind.u64.wrap (IntKind.u64.wrap ((n : Int) * 256) + c) = ((n * 256 + c.toNat : Nat) : Int)) := by
        show _ = _
        have h1 := HP.out.1
        have h2 := HP.out.2
        have h3 : (256 : Nat) ^ 8 = 18446744073709551616 := by decide
        rw [IntKind.wrap_u64, IntKind.wrap_u64, Int.emod_eq_of_lt (by omega) (by omega), Int.emod_eq_of_lt (by omega) (by omega)]
        omega
      have hcw : IntKind.u64.wrap c = c := by rw [IntKind.wrap_u64]; omega
      have hjw : IntKind.i64.wrap ((j : Int) + 1) = (j : Int) + 1 := by rw [IntKind.wrap_i64]; omega
      have hjv : wrap64 ((j : Int) + 1) = (j : Int) + 1 := by unfold wrap64; omega
      have HNX : Hid (n * 256 + c.toNat = b256 ((xs.drop at').take (j + 1))) := by show _ = _; rw [take_more hx, b256_more, hn]
      clear hrb HR hn hn2 hx hcb
      obtain ⟨⟨g0, g1, g2, g3, g4⟩, _⟩ := own5 HRB.out.box
      go_wp2_with fail
      refine (HON.out _ HRB.out.bel).mono ?_
      rintro e w0 ⟨rfl, hb⟩
      have HR0 := HRB.out.call hb
      have HR0 : Hid _ := HR0
      clear hb HRB g0 g1 g2 g3 g4
      obtain ⟨A0, B0, C0, D0, E0, k1, k2, k3, k4, k5, ⟨c0, y0⟩, ⟨c1, y1⟩, ⟨c2, y2⟩, ⟨c3, y3⟩, ⟨c4, y4⟩, hE⟩ := chain5 HR0.out.box (.slice a xs.length cap) (.int .i64 A1) (.int .i64 (p : Int)) (.int .i64 0) (.int .i64 0)
      have HS0 := HR0.out.put (.slice a xs.length cap) (.int .i64 A1) (.int .i64 (p : Int)) (.int .i64 0) (.int .i64 0)
      rw [← hE] at HS0
      have HS0 : Hid _ := HS0
      clear hE HR0
      obtain ⟨⟨e0, e1, e2, e3, e4⟩, _⟩ := own5 HS0.out.box
      go_wp2_with fail
      go_roundw
      case rel =>
        exact ⟨j + 1, n * 256 + c.toNat, c, rfl, by rw [HSUM.out], by go_num, by omega, HNX.out, HP.out.1, by rw [← Nat.add_assoc, HA1.out]; exact HS0.out⟩
      case measure => simp [intOf]; omega
    · have hjd : decide ((j : Int) < 8) = false := decide_eq_false (by omega)
      have HE8 : Hid (j = 8 ∧ n = b256 ((xs.drop at').take j)) := ⟨by omega, hn⟩
      have HRB : Hid (R4 w wr #[.slice a xs.length cap, .int .i64 ((at' + j : Nat) : Int), .int .i64 (p : Int), .int .i64 0, .int .i64 0] #[.int .i64 4, .bool false, .int .i64 0, .float .f64 0, .string ⟨#[]⟩, .slice none 0 0, .int .u64 0, .slice none 0 0, .slice none 0 0, .string ⟨#[]⟩, .int .i64 0] #[.slice none 0 0, .int .i64 0, .int .i64 0, .int .i64 0, .int .i64 0] #[.int .i64 0, .bool false, .int .i64 0, .float .f64 0, .string ⟨#[]⟩, .slice none 0 0, .int .u64 0, .slice none 0 0, .slice none 0 0, .string ⟨#[]⟩, .int .i64 0]) := hrb
      rw [HA.out] at HRB
      have hfb := HFB.out n wr
      clear hrb HR hn hn2
      obtain ⟨G0, q3, HG⟩ : ∃ G0, wr.setCell ⟨w.heap.size + 1, 3, none⟩ (.float .f64 n) = G0 ∧ Hid (R4 w G0 #[.slice a xs.length cap, .int .i64 A, .int .i64 (p : Int), .int .i64 0, .int .i64 0] #[.int .i64 4, .bool false, .int .i64 0, .float .f64 n, .string ⟨#[]⟩, .slice none 0 0, .int .u64 0, .slice none 0 0, .slice none 0 0, .string ⟨#[]⟩, .int .i64 0] #[.slice none 0 0, .int .i64 0, .int .i64 0, .int .i64 0, .int .i64 0] #[.int .i64 0, .bool false, .int .i64 0, .float .f64 0, .string ⟨#[]⟩, .slice none 0 0, .int .u64 0, .slice none 0 0, .slice none 0 0, .string ⟨#[]⟩, .int .i64 0]) := ⟨_, rfl, HRB.out.set 3 (.float .f64 n)⟩
      have qc3 : wr.cell? ⟨w.heap.size + 1, 3, none⟩ = some (.float .f64 0) := by rw [cell_of_row _ _ 3 _ _ _ HRB.out.tbx]; rfl
      have qf3 : wr.frozen? ⟨w.heap.size + 1, 3, none⟩ = false := frozen_of_row _ _ 3 _ _ HRB.out.tbx
      obtain ⟨⟨h0, h1, h2, h3, h4⟩, _⟩ := own5 HG.out.box
      go_wp2_with fail
      have HD := HG.out.drew
      have HD : Hid _ := HD
      obtain ⟨V1, V2, V3, V4, V5, l1, l2, l3, l4, l5, ⟨d0, x0⟩, ⟨d1, x1⟩, ⟨d2, x2⟩, ⟨d3, x3⟩, ⟨d4, x4⟩, hV⟩ := chain5 HD.out.res (.slice a xs.length cap) (.int .i64 A) (.int .i64 (p : Int)) (.int .i64 0) (.int .i64 0)
      have HV := HD.out.putR (.slice a xs.length cap) (.int .i64 A) (.int .i64 (p : Int)) (.int .i64 0) (.int .i64 0)
      rw [← hV] at HV
      have HV : Hid _ := HV
      clear hV
      obtain ⟨U1, U2, U3, U4, U5, U6, U7, U8, U9, U10, U11, m0, m1, m2, m3, m4, m5, m6, m7, m8, m9, m10, ⟨b0, g0⟩, ⟨b1, g1⟩, ⟨b2, g2⟩, ⟨b3, g3⟩, ⟨b4, g4⟩, ⟨b5, g5⟩, ⟨b6, g6⟩, ⟨b7, g7⟩, ⟨b8, g8⟩, ⟨b9, g9⟩, ⟨b10, g10⟩, hU⟩ := chain11 HV.out.ter (.int .i64 4) (.bool false) (.int .i64 0) (.float .f64 n) (.string ⟨#[]⟩) (.slice none 0 0) (.int .u64 0) (.slice none 0 0) (.slice none 0 0) (.string ⟨#[]⟩) (.int .i64 0)
      have HU := HV.out.putT (.int .i64 4) (.bool false) (.int .i64 0) (.float .f64 n) (.string ⟨#[]⟩) (.slice none 0 0) (.int .u64 0) (.slice none 0 0) (.slice none 0 0) (.string ⟨#[]⟩) (.int .i64 0)
      rw [← hU] at HU
      have HU : Hid _ := HU
      clear hU
      have HS0 : Hid _ := HD.out.S
      have HS1 : Hid _ := HV.out.S
      have HS2 : Hid _ := HU.out.S
      go_region_held3 (fun W => (W.cell? ⟨w.heap.size, 0, none⟩ = some (.slice a xs.length cap) ∧ W.cell? ⟨w.heap.size, 1, none⟩ = some (.int .i64 A) ∧ W.cell? ⟨w.heap.size, 2, none⟩ = some (.int .i64 (p : Int)) ∧ W.cell? ⟨w.heap.size, 3, none⟩ = some (.int .i64 0) ∧ W.cell? ⟨w.heap.size, 4, none⟩ = some (.int .i64 0)) ∧ (W.cell? ⟨w.heap.size + 1, 0, none⟩ = some (.int .i64 4) ∧ W.cell? ⟨w.heap.size + 1, 1, none⟩ = some (.bool false) ∧ W.cell? ⟨w.heap.size + 1, 2, none⟩ = some (.int .i64 0) ∧ W.cell? ⟨w.heap.size + 1, 3, none⟩ = some (.float .f64 n) ∧ W.cell? ⟨w.heap.size + 1, 4, none⟩ = some (.string ⟨#[]⟩) ∧ W.cell? ⟨w.heap.size + 1, 5, none⟩ = some (.slice none 0 0) ∧ W.cell? ⟨w.heap.size + 1, 6, none⟩ = some (.int .u64 0) ∧ W.cell? ⟨w.heap.size + 1, 7, none⟩ = some (.slice none 0 0) ∧ W.cell? ⟨w.heap.size + 1, 8, none⟩ = some (.slice none 0 0) ∧ W.cell? ⟨w.heap.size + 1, 9, none⟩ = some (.string ⟨#[]⟩) ∧ W.cell? ⟨w.heap.size + 1, 10, none⟩ = some (.int .i64 0)))
        (first | with_reducible exact HS0.out | with_reducible exact HS1.out | with_reducible exact HS2.out)
        (fail)
      go_wp2_with fail
      obtain ⟨⟨r0, r1, r2, r3, r4⟩, _⟩ := own5 HU.out.res
      obtain ⟨s0, s1, s2, s3, s4, s5, s6, s7, s8, s9, s10⟩ := own11 HU.out.ter
      exact bodyPost_ret (v := .tuple #[.agg #[.slice a xs.length cap, .int .i64 A, .int .i64 (p : Int), .int .i64 0, .int .i64 0], .agg #[.int .i64 4, .bool false, .int .i64 0, .float .f64 n, .string ⟨#[]⟩, .slice none 0 0, .int .u64 0, .slice none 0 0, .slice none 0 0, .string ⟨#[]⟩, .int .i64 0]]) (by simp [results, Try.results93, go_sem, r0, r1, r2, r3, r4, s0, s1, s2, s3, s4, s5, s6, s7, s8, s9, s10] <;> rfl) rfl ⟨by obtain ⟨h8, hn⟩ := HE8.out; subst h8; rw [HA.out, hn], HU.out.bel⟩
/-- the reading stands j bytes on, or has come to its end -/
def FB (L at' j at2 q : Nat) (er : Int) : Prop := (er = 0 ∧ q = 0 ∧ at2 = at' + j ∧ at' + j ≤ L) ∨ (er = 4 ∧ q = L)
theorem one_any (xs : List Int) (hby : By xs) (a : Option Addr) (cap at' p j at2 q : Nat) (er : Int) (w : World) (hrd : RdB w (Lo w.heap.size) a xs) (hln : xs.length ≤ 281474976710656) (h : FB xs.length at' j at2 q er) : ∃ (at3 q3 : Nat) (er3 c : Int), 0 ≤ c ∧ FB xs.length at' (j + 1) at3 q3 er3 ∧ ∀ W, Below w.heap.size w W → Calls Try.prog 92 #[.agg #[.slice a xs.length cap, .int .i64 (at2 : Int), .int .i64 (p : Int), .int .i64 (q : Int), .int .i64 er]] W fun e w' => e = .returned (.tuple #[.agg #[.slice a xs.length cap, .int .i64 (at3 : Int), .int .i64 (p : Int), .int .i64 (q3 : Int), .int .i64 er3], .int .u8 c]) ∧ Below W.heap.size W w' := by
  rcases h with ⟨rfl, rfl, rfl, hle⟩ | ⟨rfl, rfl⟩
  · by_cases hlt : at' + j < xs.length
    · have hx : xs[at' + j]? = some xs[at' + j] := List.getElem?_eq_getElem hlt
      exact ⟨at' + j + 1, 0, 0, xs[at' + j], (hby.get hx).1, .inl ⟨rfl, rfl, by omega, by omega⟩, fun W hW => rgone_ok xs a cap (at' + j) p W _ hx (hrd.same (Same.of_below hW (Nat.le_refl _)) (Lo.le hW.size)) hln⟩
    · have he : at' + j = xs.length := by omega
      rw [he]
      exact ⟨xs.length, xs.length, 4, 0, Int.le_refl _, .inr ⟨rfl, rfl⟩, fun W _ => rgone_end a xs.length cap p W⟩
  · exact ⟨at2, xs.length, 4, 0, Int.le_refl _, .inr ⟨rfl, rfl⟩, fun W _ => rgone_bad a xs.length cap at2 p xs.length 4 (by decide) W⟩
set_option maxRecDepth 100000 in
set_option maxHeartbeats 4000000 in
theorem rgbody_float_bad (xs : List Int) (hby : By xs) (a : Option Addr) (cap at' p : Nat) (s deep : Int) (w : World) (hrd : RdB w (Lo w.heap.size) a xs) (hln : xs.length ≤ 281474976710656) (hle : at' ≤ xs.length) (hl : ¬ at' + 8 ≤ xs.length) :
    Calls Try.prog 93 #[.agg #[.slice a xs.length cap, .int .i64 (at' : Int), .int .i64 (p : Int), .int .i64 0, .int .i64 0], .agg #[.int .i64 4, .bool false, .int .i64 0, .float .f64 0, .string ⟨#[]⟩, .slice none 0 0, .int .u64 0, .slice none 0 0, .slice none 0 0, .string ⟨#[]⟩, .int .i64 0], .int .i64 s, .int .i64 deep] w fun e w' => ∃ at2 n : Nat, e = .returned (.tuple #[.agg #[.slice a xs.length cap, .int .i64 (at2 : Int), .int .i64 (p : Int), .int .i64 (xs.length : Int), .int .i64 4], .agg #[.int .i64 4, .bool false, .int .i64 0, .float .f64 n, .string ⟨#[]⟩, .slice none 0 0, .int .u64 0, .slice none 0 0, .slice none 0 0, .string ⟨#[]⟩, .int .i64 0]]) ∧ Below w.heap.size w w' := by
  have HO : Hid (∀ (j at2 q : Nat) (er : Int), FB xs.length at' j at2 q er → ∃ (at3 q3 : Nat) (er3 c : Int), 0 ≤ c ∧ FB xs.length at' (j + 1) at3 q3 er3 ∧ ∀ W, Below w.heap.size w W → Calls Try.prog 92 #[.agg #[.slice a xs.length cap, .int .i64 (at2 : Int), .int .i64 (p : Int), .int .i64 (q : Int), .int .i64 er]] W fun e w' => e = .returned (.tuple #[.agg #[.slice a xs.length cap, .int .i64 (at3 : Int), .int .i64 (p : Int), .int .i64 (q3 : Int), .int .i64 er3], .int .u8 c]) ∧ Below W.heap.size W w') := fun j at2 q er h => one_any xs hby a cap at' p j at2 q er w hrd hln h
  have HFB : Hid (∀ (n : Nat) W, (callFunc 87 #[.int .u64 (n : Int)]).run Try.prog W = .ok (.value (.float .f64 n)) W) := frombits_run
  have HL : Hid (at' ≤ xs.length ∧ ¬ at' + 8 ≤ xs.length) := ⟨hle, hl⟩
  clear hrd hby hl hln hle
  have HN := R4.new w #[.slice a xs.length cap, .int .i64 (at' : Int), .int .i64 (p : Int), .int .i64 0, .int .i64 0] #[.int .i64 4, .bool false, .int .i64 0, .float .f64 0, .string ⟨#[]⟩, .slice none 0 0, .int .u64 0, .slice none 0 0, .slice none 0 0, .string ⟨#[]⟩, .int .i64 0] #[.slice none 0 0, .int .i64 0, .int .i64 0, .int .i64 0, .int .i64 0] #[.int .i64 0, .bool false, .int .i64 0, .float .f64 0, .string ⟨#[]⟩, .slice none 0 0, .int .u64 0, .slice none 0 0, .slice none 0 0, .string ⟨#[]⟩, .int .i64 0]
  have HN : Hid _ := HN
  go_enter Try.func93, Try.ntmps93
  go_wp2_with fail
  go_loopw [10, 13, 14] (fun x b i wr => ∃ (j n : Nat) (y : Int), x = .int .u8 y ∧ b = .int .u64 (n : Int) ∧ i = .int .i64 (j : Int) ∧ j ≤ 8 ∧ Hid (∃ (at2 q : Nat) (er : Int), FB xs.length at' j at2 q er ∧ R4 w wr #[.slice a xs.length cap, .int .i64 (at2 : Int), .int .i64 (p : Int), .int .i64 (q : Int), .int .i64 er] #[.int .i64 4, .bool false, .int .i64 0, .float .f64 0, .string ⟨#[]⟩, .slice none 0 0, .int .u64 0, .slice none 0 0, .slice none 0 0, .string ⟨#[]⟩, .int .i64 0] #[.slice none 0 0, .int .i64 0, .int .i64 0, .int .i64 0, .int .i64 0] #[.int .i64 0, .bool false, .int .i64 0, .float .f64 0, .string ⟨#[]⟩, .slice none 0 0, .int .u64 0, .slice none 0 0, .slice none 0 0, .string ⟨#[]⟩, .int .i64 0])) (fun _ _ i _ => 8 - (intOf i).toNat)
  case atStart => exact ⟨0, 0, 0, rfl, rfl, rfl, by decide, at', 0, 0, .inl ⟨rfl, rfl, rfl, HL.out.1⟩, HN.out⟩
  case round =>
    obtain ⟨j, n, y, rfl, rfl, rfl, hj8, HR⟩ := hrel
    clear HN
    obtain ⟨at2, q, er, hfs, hrb⟩ := HR.out
    have HRB : Hid (R4 w wr #[.slice a xs.length cap, .int .i64 (at2 : Int), .int .i64 (p : Int), .int .i64 (q : Int), .int .i64 er] #[.int .i64 4, .bool false, .int .i64 0, .float .f64 0, .string ⟨#[]⟩, .slice none 0 0, .int .u64 0, .slice none 0 0, .slice none 0 0, .string ⟨#[]⟩, .int .i64 0] #[.slice none 0 0, .int .i64 0, .int .i64 0, .int .i64 0, .int .i64 0] #[.int .i64 0, .bool false, .int .i64 0, .float .f64 0, .string ⟨#[]⟩, .slice none 0 0, .int .u64 0, .slice none 0 0, .slice none 0 0, .string ⟨#[]⟩, .int .i64 0]) := hrb
    by_cases hj : j < 8
    · have hjd : decide ((j : Int) < 8) = true := decide_eq_true (by omega)
      obtain ⟨at3, q3, er3, c, hc0, hfn, hon⟩ := HO.out j at2 q er hfs
      have HON : Hid (∀ W, Below w.heap.size w W → Calls Try.prog 92 #[.agg #[.slice a xs.length cap, .int .i64 (at2 : Int), .int .i64 (p : Int), .int .i64 (q : Int), .int .i64 er]] W fun e w' => e = .returned (.tuple #[.agg #[.slice a xs.length cap, .int .i64 (at3 : Int), .int .i64 (p : Int), .int .i64 (q3 : Int), .int .i64 er3], .int .u8 c]) ∧ Below W.heap.size W w') := hon
      have HFN : Hid (FB xs.length at' (j + 1) at3 q3 er3) := hfn
      obtain ⟨m, HSUM⟩ : ∃ m : Nat, Hid (IntKind.u64.wrap (IntKind.u64.wrap ((n : Int) * 256) + IntKind.u64.wrap c) = (m : Int)) := ⟨(IntKind.u64.wrap (IntKind.u64.wrap ((n : Int) * 256) + IntKind.u64.wrap c)).toNat, by show _ = _; rw [IntKind.wrap_u64]; omega⟩
      have hjw : IntKind.i64.wrap ((j : Int) + 1) = (j : Int) + 1 := by rw [IntKind.wrap_i64]; omega
      have hjv : wrap64 ((j : Int) + 1) = (j : Int) + 1 := by unfold wrap64; omega
      clear hrb HR hfs hfn hon hc0
      obtain ⟨⟨g0, g1, g2, g3, g4⟩, _⟩ := own5 HRB.out.box
      go_wp2_with fail
      refine (HON.out _ HRB.out.bel).mono ?_
      rintro e w0 ⟨rfl, hb⟩
      have HR0 := HRB.out.call hb
      have HR0 : Hid _ := HR0
      clear hb HRB g0 g1 g2 g3 g4
      obtain ⟨A0, B0, C0, D0, E0, k1, k2, k3, k4, k5, ⟨c0, y0⟩, ⟨c1, y1⟩, ⟨c2, y2⟩, ⟨c3, y3⟩, ⟨c4, y4⟩, hE⟩ := chain5 HR0.out.box (.slice a xs.length cap) (.int .i64 (at3 : Int)) (.int .i64 (p : Int)) (.int .i64 (q3 : Int)) (.int .i64 er3)
      have HS0 := HR0.out.put (.slice a xs.length cap) (.int .i64 (at3 : Int)) (.int .i64 (p : Int)) (.int .i64 (q3 : Int)) (.int .i64 er3)
      rw [← hE] at HS0
      have HS0 : Hid _ := HS0
      clear hE HR0
      obtain ⟨⟨e0, e1, e2, e3, e4⟩, _⟩ := own5 HS0.out.box
      go_wp2_with fail
      go_roundw
      case rel =>
        exact ⟨j + 1, m, c, rfl, by rw [HSUM.out], by go_num, by omega, at3, q3, er3, HFN.out, HS0.out⟩
      case measure => simp [intOf]; omega
    · have hjd : decide ((j : Int) < 8) = false := decide_eq_false (by omega)
      have HE8 : Hid (er = 4 ∧ q = xs.length) := by
        have h8 : j = 8 := by omega
        subst h8
        rcases hfs with ⟨_, _, _, h⟩ | h
        · exact absurd h HL.out.2
        · exact h
      have hfb := HFB.out n wr
      clear hrb HR hfs
      obtain ⟨G0, q3, HG⟩ : ∃ G0, wr.setCell ⟨w.heap.size + 1, 3, none⟩ (.float .f64 n) = G0 ∧ Hid (R4 w G0 #[.slice a xs.length cap, .int .i64 (at2 : Int), .int .i64 (p : Int), .int .i64 (q : Int), .int .i64 er] #[.int .i64 4, .bool false, .int .i64 0, .float .f64 n, .string ⟨#[]⟩, .slice none 0 0, .int .u64 0, .slice none 0 0, .slice none 0 0, .string ⟨#[]⟩, .int .i64 0] #[.slice none 0 0, .int .i64 0, .int .i64 0, .int .i64 0, .int .i64 0] #[.int .i64 0, .bool false, .int .i64 0, .float .f64 0, .string ⟨#[]⟩, .slice none 0 0, .int .u64 0, .slice none 0 0, .slice none 0 0, .string ⟨#[]⟩, .int .i64 0]) := ⟨_, rfl, HRB.out.set 3 (.float .f64 n)⟩
      have qc3 : wr.cell? ⟨w.heap.size + 1, 3, none⟩ = some (.float .f64 0) := by rw [cell_of_row _ _ 3 _ _ _ HRB.out.tbx]; rfl
      have qf3 : wr.frozen? ⟨w.heap.size + 1, 3, none⟩ = false := frozen_of_row _ _ 3 _ _ HRB.out.tbx
      obtain ⟨⟨h0, h1, h2, h3, h4⟩, _⟩ := own5 HG.out.box
      go_wp2_with fail
      have HD := HG.out.drew
      have HD : Hid _ := HD
      obtain ⟨V1, V2, V3, V4, V5, l1, l2, l3, l4, l5, ⟨d0, x0⟩, ⟨d1, x1⟩, ⟨d2, x2⟩, ⟨d3, x3⟩, ⟨d4, x4⟩, hV⟩ := chain5 HD.out.res (.slice a xs.length cap) (.int .i64 (at2 : Int)) (.int .i64 (p : Int)) (.int .i64 (q : Int)) (.int .i64 er)
      have HV := HD.out.putR (.slice a xs.length cap) (.int .i64 (at2 : Int)) (.int .i64 (p : Int)) (.int .i64 (q : Int)) (.int .i64 er)
      rw [← hV] at HV
      have HV : Hid _ := HV
      clear hV
      obtain ⟨U1, U2, U3, U4, U5, U6, U7, U8, U9, U10, U11, m0, m1, m2, m3, m4, m5, m6, m7, m8, m9, m10, ⟨b0, g0⟩, ⟨b1, g1⟩, ⟨b2, g2⟩, ⟨b3, g3⟩, ⟨b4, g4⟩, ⟨b5, g5⟩, ⟨b6, g6⟩, ⟨b7, g7⟩, ⟨b8, g8⟩, ⟨b9, g9⟩, ⟨b10, g10⟩, hU⟩ := chain11 HV.out.ter (.int .i64 4) (.bool false) (.int .i64 0) (.float .f64 n) (.string ⟨#[]⟩) (.slice none 0 0) (.int .u64 0) (.slice none 0 0) (.slice none 0 0) (.string ⟨#[]⟩) (.int .i64 0)
      have HU := HV.out.putT (.int .i64 4) (.bool false) (.int .i64 0) (.float .f64 n) (.string ⟨#[]⟩) (.slice none 0 0) (.int .u64 0) (.slice none 0 0) (.slice none 0 0) (.string ⟨#[]⟩) (.int .i64 0)
      rw [← hU] at HU
      have HU : Hid _ := HU
      clear hU
      have HS0 : Hid _ := HD.out.S
      have HS1 : Hid _ := HV.out.S
      have HS2 : Hid _ := HU.out.S
      go_region_held3 (fun W => (W.cell? ⟨w.heap.size, 0, none⟩ = some (.slice a xs.length cap) ∧ W.cell? ⟨w.heap.size, 1, none⟩ = some (.int .i64 (at2 : Int)) ∧ W.cell? ⟨w.heap.size, 2, none⟩ = some (.int .i64 (p : Int)) ∧ W.cell? ⟨w.heap.size, 3, none⟩ = some (.int .i64 (q : Int)) ∧ W.cell? ⟨w.heap.size, 4, none⟩ = some (.int .i64 er)) ∧ (W.cell? ⟨w.heap.size + 1, 0, none⟩ = some (.int .i64 4) ∧ W.cell? ⟨w.heap.size + 1, 1, none⟩ = some (.bool false) ∧ W.cell? ⟨w.heap.size + 1, 2, none⟩ = some (.int .i64 0) ∧ W.cell? ⟨w.heap.size + 1, 3, none⟩ = some (.float .f64 n) ∧ W.cell? ⟨w.heap.size + 1, 4, none⟩ = some (.string ⟨#[]⟩) ∧ W.cell? ⟨w.heap.size + 1, 5, none⟩ = some (.slice none 0 0) ∧ W.cell? ⟨w.heap.size + 1, 6, none⟩ = some (.int .u64 0) ∧ W.cell? ⟨w.heap.size + 1, 7, none⟩ = some (.slice none 0 0) ∧ W.cell? ⟨w.heap.size + 1, 8, none⟩ = some (.slice none 0 0) ∧ W.cell? ⟨w.heap.size + 1, 9, none⟩ = some (.string ⟨#[]⟩) ∧ W.cell? ⟨w.heap.size + 1, 10, none⟩ = some (.int .i64 0)))
        (first | with_reducible exact HS0.out | with_reducible exact HS1.out | with_reducible exact HS2.out)
        (fail)
      go_wp2_with fail
      obtain ⟨⟨r0, r1, r2, r3, r4⟩, _⟩ := own5 HU.out.res
      obtain ⟨s0, s1, s2, s3, s4, s5, s6, s7, s8, s9, s10⟩ := own11 HU.out.ter
      exact bodyPost_ret (v := .tuple #[.agg #[.slice a xs.length cap, .int .i64 (at2 : Int), .int .i64 (p : Int), .int .i64 (q : Int), .int .i64 er], .agg #[.int .i64 4, .bool false, .int .i64 0, .float .f64 n, .string ⟨#[]⟩, .slice none 0 0, .int .u64 0, .slice none 0 0, .slice none 0 0, .string ⟨#[]⟩, .int .i64 0]]) (by simp [results, Try.results93, go_sem, r0, r1, r2, r3, r4, s0, s1, s2, s3, s4, s5, s6, s7, s8, s9, s10] <;> rfl) rfl ⟨at2, n, by obtain ⟨h8, hn⟩ := HE8.out; rw [h8, hn], HU.out.bel⟩
end Go.Proofs.Ytmmiiapfefmcjaa

