/- The reader's count, version, bool, kind and name where something is wrong. -/
import Derived.Test.YtmmiiapfefmcjaaJ35
namespace Go.Proofs.Ytmmiiapfefmcjaa
open Go.RowKit

section
variable (q : Nat) (er : Int) (b : Nat) (a : Option Addr) (xs : List Int) (cap at' p : Nat) (w : World) (h : Rdr w b a xs cap at' p)
include h
set_option maxRecDepth 100000 in
set_option maxHeartbeats 2000000 in
theorem count_bad1 (start : Int) (most : Nat) (hby : By xs) (hn : Sp.rn xs at' 10 0 0 = .bad q er) :
    Calls Try.prog 113 #[.pointer (some ⟨b, 0, none⟩), .int .i64 start, .int .i64 (most : Int)] w fun x w' => x = Flt q er ∧ But b w w' := by
  have HN : Hid (Calls Try.prog 86 #[.pointer (some ⟨b, 0, none⟩)] w fun e w' => e = Flt q er ∧ But b w w') := rnumber_bad q er b a xs cap at' p w h hby hn
  clear h hn hby
  go_enter Try.func113, Try.ntmps113
  go_wp2_with fail
  refine HN.out.mono ?_
  rintro e w1 ⟨rfl, hb1⟩
  exact ⟨rfl, rfl, hb1⟩
set_option maxRecDepth 100000 in
set_option maxHeartbeats 2000000 in
theorem count_bad2 (start : Nat) (most : Nat) (hby : By xs) (n a1 : Nat) (hn : Sp.rn xs at' 10 0 0 = .ok n a1) (hm : most < n) (hm2 : most ≤ 65536) :
    Calls Try.prog 113 #[.pointer (some ⟨b, 0, none⟩), .int .i64 (start : Int), .int .i64 (most : Int)] w fun x w' => x = Flt start 2 ∧ But b w w' := by
  have HN : Hid (Calls Try.prog 86 #[.pointer (some ⟨b, 0, none⟩)] w fun e w' => e = .returned (.int .u64 (n : Int)) ∧ Rdr w' b a xs cap a1 p ∧ But b w w') := rnumber_ok n a1 b a xs cap at' p w h hby hn
  have h1 : (most : Int) < (n : Int) := by omega
  clear h hn hby
  go_enter Try.func113, Try.ntmps113
  go_wp2_with fail
  refine HN.out.mono ?_
  rintro e w1 ⟨rfl, hr1, hb1⟩
  have HR1 : Hid (Rdr w1 b a xs cap a1 p ∧ But b w w1) := ⟨hr1, hb1⟩
  clear hr1 hb1
  go_wp2_with fail
  exact ⟨rfl, rfl, HR1.out.2⟩
set_option maxRecDepth 100000 in
set_option maxHeartbeats 2000000 in
theorem version_bad1 (start : Int) (hby : By xs) (hn : Sp.rn xs at' 10 0 0 = .bad q er) :
    Calls Try.prog 116 #[.pointer (some ⟨b, 0, none⟩), .int .i64 start] w fun x w' => x = Flt q er ∧ But b w w' := by
  have HN : Hid (Calls Try.prog 86 #[.pointer (some ⟨b, 0, none⟩)] w fun e w' => e = Flt q er ∧ But b w w') := rnumber_bad q er b a xs cap at' p w h hby hn
  clear h hn hby
  go_enter Try.func116, Try.ntmps116
  go_wp2_with fail
  refine HN.out.mono ?_
  rintro e w1 ⟨rfl, hb1⟩
  exact ⟨rfl, rfl, hb1⟩
set_option maxRecDepth 100000 in
set_option maxHeartbeats 2000000 in
theorem version_bad2 (start : Nat) (hby : By xs) (n a1 : Nat) (hn : Sp.rn xs at' 10 0 0 = .ok n a1) (hm : n < 1 ∨ 1000 < n) :
    Calls Try.prog 116 #[.pointer (some ⟨b, 0, none⟩), .int .i64 (start : Int)] w fun x w' => x = Flt start 1 ∧ But b w w' := by
  have HN : Hid (Calls Try.prog 86 #[.pointer (some ⟨b, 0, none⟩)] w fun e w' => e = .returned (.int .u64 (n : Int)) ∧ Rdr w' b a xs cap a1 p ∧ But b w w') := rnumber_ok n a1 b a xs cap at' p w h hby hn
  clear h hn hby
  by_cases h0 : n < 1
  · have h1 : (n : Int) < 1 := by omega
    clear hm
    go_enter Try.func116, Try.ntmps116
    go_wp2_with fail
    refine HN.out.mono ?_
    rintro e w1 ⟨rfl, hr1, hb1⟩
    have HR1 : Hid (Rdr w1 b a xs cap a1 p ∧ But b w w1) := ⟨hr1, hb1⟩
    clear hr1 hb1
    go_wp2_with fail
    exact ⟨rfl, rfl, HR1.out.2⟩
  · have h1 : ¬ ((n : Int) < 1) := by omega
    have h2 : (1000 : Int) < (n : Int) := by omega
    clear hm
    go_enter Try.func116, Try.ntmps116
    go_wp2_with fail
    refine HN.out.mono ?_
    rintro e w1 ⟨rfl, hr1, hb1⟩
    have HR1 : Hid (Rdr w1 b a xs cap a1 p ∧ But b w w1) := ⟨hr1, hb1⟩
    clear hr1 hb1
    go_wp2_with fail
    exact ⟨rfl, rfl, HR1.out.2⟩
set_option maxRecDepth 100000 in
set_option maxHeartbeats 2000000 in
theorem rbool_bad1 (hx : xs[at']? = none) :
    Calls Try.prog 111 #[.pointer (some ⟨b, 0, none⟩)] w fun x w' => x = Flt xs.length 4 ∧ But b w w' := by
  have HN : Hid (Calls Try.prog 84 #[.pointer (some ⟨b, 0, none⟩)] w fun e w' => e = Flt xs.length 4 ∧ But b w w') := rbyte_bad b a xs cap at' p w h hx
  obtain ⟨c0, c1, c2, f1, f2, rd, cp, ln, le, np⟩ := h
  clear hx rd
  go_enter Try.func111, Try.ntmps111
  go_wp2_with fail
  refine HN.out.mono ?_
  rintro e w1 ⟨rfl, hb1⟩
  exact ⟨rfl, rfl, hb1⟩
set_option maxRecDepth 100000 in
set_option maxHeartbeats 2000000 in
theorem rbool_bad2 (c : Int) (hx : xs[at']? = some c) (hc : 1 < c) :
    Calls Try.prog 111 #[.pointer (some ⟨b, 0, none⟩)] w fun x w' => x = Flt at' 30 ∧ But b w w' := by
  have HN : Hid (Calls Try.prog 84 #[.pointer (some ⟨b, 0, none⟩)] w fun e w' => e = .returned (.int .u8 c) ∧ Rdr w' b a xs cap (at' + 1) p ∧ But b w w') := rbyte_ok c b a xs cap at' p w h hx
  obtain ⟨c0, c1, c2, f1, f2, rd, cp, ln, le, np⟩ := h
  clear hx rd
  go_enter Try.func111, Try.ntmps111
  go_wp2_with fail
  refine HN.out.mono ?_
  rintro e w1 ⟨rfl, hr1, hb1⟩
  have HR1 : Hid (But b w w1) := hb1
  clear hr1 hb1
  go_wp2_with fail
  exact ⟨rfl, rfl, HR1.out⟩
set_option maxRecDepth 100000 in
set_option maxHeartbeats 2000000 in
theorem kind_bad1 (depth : Int) (hx : xs[at']? = none) :
    Calls Try.prog 110 #[.pointer (some ⟨b, 0, none⟩), .int .i64 depth] w fun x w' => x = Flt xs.length 4 ∧ But b w w' := by
  have hl := List.getElem?_eq_none_iff.1 hx
  have HE : Hid (Calls Try.prog 126 #[.pointer (some ⟨b, 0, none⟩), .int .i64 1] w fun e w' => e = Flt xs.length 4 ∧ Below w.heap.size w w') := endRule_bad 1 b a xs cap at' p w h (by omega)
  have hlt := h.lt
  clear h hx
  go_enter Try.func110, Try.ntmps110
  go_wp2_with fail
  refine HE.out.mono ?_
  rintro e w1 ⟨rfl, hb1⟩
  exact ⟨rfl, rfl, But.of hlt hb1⟩
set_option maxRecDepth 100000 in
set_option maxHeartbeats 2000000 in
theorem kind_bad2 (depth : Int) (x : Int) (hx : xs[at']? = some x) (hp : 16384 ≤ p ∨ 64 < depth) :
    Calls Try.prog 110 #[.pointer (some ⟨b, 0, none⟩), .int .i64 depth] w fun x w' => x = Flt at' 2 ∧ But b w w' := by
  have hl : at' < xs.length := (List.getElem?_eq_some_iff.1 hx).1
  have HE : Hid (Calls Try.prog 126 #[.pointer (some ⟨b, 0, none⟩), .int .i64 1] w fun e w' => e = .returned (.tuple #[]) ∧ Rdr w' b a xs cap at' p ∧ Below w.heap.size w w') := endRule_ok 1 b a xs cap at' p w h (by omega)
  have hlt := h.lt
  clear h hx
  by_cases h1 : 16384 ≤ p
  · have hp1 : (16384 : Int) ≤ (p : Int) := by omega
    clear hp
    go_enter Try.func110, Try.ntmps110
    go_wp2_with fail
    refine HE.out.mono ?_
    rintro e w1 ⟨rfl, hr1, hb1⟩
    have HB1 : Hid (But b w w1) := But.of hlt hb1
    obtain ⟨c0, c1, c2, f1, f2, rd, cp, ln, le, np⟩ := hr1
    clear hb1 HE rd
    go_wp2_with fail
    exact ⟨rfl, rfl, HB1.out⟩
  · have hp1 : ¬ ((16384 : Int) ≤ (p : Int)) := by omega
    have hd1 : (64 : Int) < depth := by omega
    clear hp
    go_enter Try.func110, Try.ntmps110
    go_wp2_with fail
    refine HE.out.mono ?_
    rintro e w1 ⟨rfl, hr1, hb1⟩
    have HB1 : Hid (But b w w1) := But.of hlt hb1
    obtain ⟨c0, c1, c2, f1, f2, rd, cp, ln, le, np⟩ := hr1
    clear hb1 HE rd
    go_wp2_with fail
    exact ⟨rfl, rfl, HB1.out⟩
set_option maxRecDepth 100000 in
set_option maxHeartbeats 2000000 in
theorem rname_bad1 (start : Int) (hby : By xs) (hn : Sp.rn xs at' 10 0 0 = .bad q er) :
    Calls Try.prog 115 #[.pointer (some ⟨b, 0, none⟩), .int .i64 start] w fun x w' => x = Flt q er ∧ But b w w' := by
  have HN : Hid (Calls Try.prog 86 #[.pointer (some ⟨b, 0, none⟩)] w fun e w' => e = Flt q er ∧ But b w w') := rnumber_bad q er b a xs cap at' p w h hby hn
  clear h hn hby
  go_enter Try.func115, Try.ntmps115
  go_wp2_with fail
  refine HN.out.mono ?_
  rintro e w1 ⟨rfl, hb1⟩
  exact ⟨rfl, rfl, hb1⟩
set_option maxRecDepth 100000 in
set_option maxHeartbeats 2000000 in
theorem rname_bad2 (start : Nat) (hby : By xs) (n a1 : Nat) (hn : Sp.rn xs at' 10 0 0 = .ok n a1) (hm : 32 < n) :
    Calls Try.prog 115 #[.pointer (some ⟨b, 0, none⟩), .int .i64 (start : Int)] w fun x w' => x = Flt start 8 ∧ But b w w' := by
  have HN : Hid (Calls Try.prog 86 #[.pointer (some ⟨b, 0, none⟩)] w fun e w' => e = .returned (.int .u64 (n : Int)) ∧ Rdr w' b a xs cap a1 p ∧ But b w w') := rnumber_ok n a1 b a xs cap at' p w h hby hn
  have h1 : (32 : Int) < (n : Int) := by omega
  clear h hn hby
  go_enter Try.func115, Try.ntmps115
  go_wp2_with fail
  refine HN.out.mono ?_
  rintro e w1 ⟨rfl, hr1, hb1⟩
  have HR1 : Hid (Rdr w1 b a xs cap a1 p ∧ But b w w1) := ⟨hr1, hb1⟩
  clear hr1 hb1
  go_wp2_with fail
  exact ⟨rfl, rfl, HR1.out.2⟩
set_option maxRecDepth 100000 in
set_option maxHeartbeats 2000000 in
theorem rname_bad3 (start : Nat) (hby : By xs) (n a1 : Nat) (hn : Sp.rn xs at' 10 0 0 = .ok n a1) (hm : n ≤ 32) (hl : ¬ a1 + n ≤ xs.length) :
    Calls Try.prog 115 #[.pointer (some ⟨b, 0, none⟩), .int .i64 (start : Int)] w fun x w' => x = Flt xs.length 4 ∧ But b w w' := by
  have HN : Hid (Calls Try.prog 86 #[.pointer (some ⟨b, 0, none⟩)] w fun e w' => e = .returned (.int .u64 (n : Int)) ∧ Rdr w' b a xs cap a1 p ∧ But b w w') := rnumber_ok n a1 b a xs cap at' p w h hby hn
  have h1 : ¬ ((32 : Int) < (n : Int)) := by omega
  clear h hn hby
  go_enter Try.func115, Try.ntmps115
  go_wp2_with fail
  refine HN.out.mono ?_
  rintro e w1 ⟨rfl, hr1, hb1⟩
  have HR1 : Hid (Rdr w1 b a xs cap a1 p ∧ But b w w1) := ⟨hr1, hb1⟩
  clear hr1 hb1
  go_wp2_with fail
  refine (take_bad n b a xs cap a1 p w1 HR1.out.1 hl).mono ?_
  rintro e w2 ⟨rfl, hb2⟩
  exact ⟨rfl, rfl, HR1.out.2.trans hb2⟩
set_option maxRecDepth 100000 in
set_option maxHeartbeats 2000000 in
theorem rname_bad4 (start : Nat) (hby : By xs) (n a1 : Nat) (hn : Sp.rn xs at' 10 0 0 = .ok n a1) (hm : n ≤ 32) (hl : a1 + n ≤ xs.length) (hnm : ¬ Sp.isNm (Sp.txt ((xs.drop a1).take n)) = true) :
    Calls Try.prog 115 #[.pointer (some ⟨b, 0, none⟩), .int .i64 (start : Int)] w fun x w' => x = Flt start 8 ∧ But b w w' := by
  have HN : Hid (Calls Try.prog 86 #[.pointer (some ⟨b, 0, none⟩)] w fun e w' => e = .returned (.int .u64 (n : Int)) ∧ Rdr w' b a xs cap a1 p ∧ But b w w') := rnumber_ok n a1 b a xs cap at' p w h hby hn
  have h1 : ¬ ((32 : Int) < (n : Int)) := by omega
  have hlen : ((xs.drop a1).take n).length = n := by rw [List.length_take, List.length_drop]; omega
  have HIs : Hid (∀ W, Calls Try.prog 103 #[.string (Sp.txt ((xs.drop a1).take n))] W fun e w' => e = .returned (.bool false) ∧ W = w') := fun W => by
    have := isName_any (Sp.txt ((xs.drop a1).take n)) W (by rw [txt_size, hlen]; unfold maxLen; omega)
    rw [Bool.not_eq_true _ |>.mp hnm] at this; exact this
  have HCV : Hid (∀ W a7 cap7, RdB W (Lo b) a7 ((xs.drop a1).take n) → (convert 23 9 (.slice a7 n cap7)).run Try.prog W = .ok (.string (Sp.txt ((xs.drop a1).take n))) W) := fun W a7 cap7 hW => by
    have := conv_rd _ a7 cap7 (Lo b) W hW
    rw [hlen] at this; exact this
  have HL : Hid (a1 + n ≤ xs.length) := hl
  clear h hn hby hnm hlen hl
  go_enter Try.func115, Try.ntmps115
  go_wp2_with fail
  refine HN.out.mono ?_
  rintro e w1 ⟨rfl, hr1, hb1⟩
  have HR1 : Hid (Rdr w1 b a xs cap a1 p ∧ But b w w1) := ⟨hr1, hb1⟩
  clear hr1 hb1
  go_wp2_with fail
  refine (take_ok n b a xs cap a1 p w1 HR1.out.1 HL.out).mono ?_
  rintro e w2 ⟨a7, cap7, rfl, hrd2, hr2, hb2⟩
  have hcv := HCV.out w2 a7 cap7 hrd2
  have HR2 : Hid (But b w w2) := HR1.out.2.trans hb2
  clear hrd2 hr2 hb2
  go_wp2_with (go_at_call 103; refine (HIs.out _).mono ?_; rintro e w' ⟨rfl, rfl⟩)
  exact ⟨rfl, rfl, HR2.out⟩
end
theorem rname_bad (q : Nat) (er : Int) (start : Nat) (b : Nat) (a : Option Addr) (xs : List Int) (cap at' p : Nat) (w : World) (h : Rdr w b a xs cap at' p) (hby : By xs) (hr : Sp.rdN xs at' start = .bad q er) :
    Calls Try.prog 115 #[.pointer (some ⟨b, 0, none⟩), .int .i64 (start : Int)] w fun x w' => x = Flt q er ∧ But b w w' := by
  unfold Sp.rdN at hr
  cases hn : Sp.rn xs at' 10 0 0 with
  | bad q1 e1 =>
    rw [hn] at hr
    injection hr with e1 e2; subst e1; subst e2
    exact rname_bad1 _ _ b a xs cap at' p w h _ hby hn
  | ok n a1 =>
    rw [hn] at hr
    simp only at hr
    split at hr
    · rename_i h32
      injection hr with e1 e2; subst e1; subst e2
      exact rname_bad2 b a xs cap at' p w h start hby n a1 hn h32
    · rename_i h32
      unfold Sp.tk at hr
      by_cases hl : a1 + n ≤ xs.length
      · rw [if_pos hl] at hr
        simp only at hr
        split at hr
        · simp at hr
        · rename_i hnm
          injection hr with e1 e2; subst e1; subst e2
          exact rname_bad4 b a xs cap at' p w h start hby n a1 hn (by omega) hl hnm
      · rw [if_neg hl] at hr
        injection hr with e1 e2; subst e1; subst e2
        exact rname_bad3 b a xs cap at' p w h start hby n a1 hn (by omega) hl
theorem count_bad (q : Nat) (er : Int) (start most : Nat) (hm2 : most ≤ 65536) (b : Nat) (a : Option Addr) (xs : List Int) (cap at' p : Nat) (w : World) (h : Rdr w b a xs cap at' p) (hby : By xs) (hr : Sp.cnt xs at' start most = .bad q er) :
    Calls Try.prog 113 #[.pointer (some ⟨b, 0, none⟩), .int .i64 (start : Int), .int .i64 (most : Int)] w fun x w' => x = Flt q er ∧ But b w w' := by
  unfold Sp.cnt at hr
  cases hn : Sp.rn xs at' 10 0 0 with
  | bad q1 e1 =>
    rw [hn] at hr
    injection hr with e1 e2; subst e1; subst e2
    exact count_bad1 _ _ b a xs cap at' p w h _ most hby hn
  | ok n a1 =>
    rw [hn] at hr
    simp only at hr
    split at hr
    · rename_i hm
      injection hr with e1 e2; subst e1; subst e2
      exact count_bad2 b a xs cap at' p w h start most hby n a1 hn hm hm2
    · simp at hr
end Go.Proofs.Ytmmiiapfefmcjaa

/- The reader's fields where something is wrong. -/
namespace Go.Proofs.Ytmmiiapfefmcjaa
open Go.RowKit

/-- the contract of the reader's value where it can't be read, so deep -/
def VB (xs : List Int) (f : Nat) : Prop := ∀ (b : Nat) (a : Option Addr) (cap at' p : Nat) (q : Nat) (er : Int) (w : World) (d : Int), d = 65 - (f : Int) → Rdr w b a xs cap at' p → Sp.rdV xs f at' p = .bad q er →
  Calls Try.prog 83 #[.pointer (some ⟨b, 0, none⟩), .int .i64 d] w fun x w' => x = Flt q er ∧ But b w w'

theorem rdF_rest {xs : List Int} {start j : Nat} {s0 : List Int} {step : Nat → Nat → Rs (Tm × Nat)} {a0 pp q : Nat} {er : Int} (h : (match step a0 pp with
    | .bad q e => Rs.bad q e
    | .ok (t, p1) a1 => match Sp.rdF xs start step j s0 a1 p1 with
      | .bad q e => .bad q e
      | .ok (l, p2) a2 => .ok (TmF.cons (Sp.txt s0) t l, p2) a2) = .bad q er) : step a0 pp = .bad q er ∨ ∃ t p1 a1, step a0 pp = .ok (t, p1) a1 ∧ Sp.rdF xs start step j s0 a1 p1 = .bad q er := by
  cases hv : step a0 pp with
  | bad q1 e1 => rw [hv] at h; injection h with e1 e2; subst e1; subst e2; exact .inl rfl
  | ok tp a1 =>
    obtain ⟨t, p1⟩ := tp
    rw [hv] at h
    simp only at h
    refine .inr ⟨t, p1, a1, rfl, ?_⟩
    cases hq : Sp.rdF xs start step j s0 a1 p1 with
    | bad q e => rw [hq] at h; exact h
    | ok lp a3 => rw [hq] at h; simp at h

set_option maxRecDepth 100000 in
set_option maxHeartbeats 4000000 in
theorem dfields_bad (f : Nat) (xs : List Int) (hby : By xs) (HC : VC xs f) (HV : VB xs f) (start : Nat) (depth : Int) (hd : depth + 1 = 65 - (f : Int)) (hf : f ≤ 64) (b : Nat) (a : Option Addr) (cap at' p : Nat) (q : Nat) (er : Int) (w : World) (h : Rdr w b a xs cap at' p) (hr : Sp.rdD xs start (Sp.rdV xs f) at' p = .bad q er) :
    Calls Try.prog 114 #[.pointer (some ⟨b, 0, none⟩), .int .i64 (start : Int), .int .i64 depth] w fun x w' => x = Flt q er ∧ But b w w' := by
  unfold Sp.rdD at hr
  cases hc : Sp.cnt xs at' start 4096 with
  | bad q1 e1 =>
    rw [hc] at hr
    injection hr with e1 e2; subst e1; subst e2
    have HCT : Hid (Calls Try.prog 113 #[.pointer (some ⟨b, 0, none⟩), .int .i64 (start : Int), .int .i64 4096] w fun x w' => x = Flt q1 e1 ∧ But b w w') := count_bad _ _ start 4096 (by decide) b a xs cap at' p w h hby hc
    clear h hc HC HV hby
    go_enter Try.func114, Try.ntmps114
    go_wp2_with fail
    refine HCT.out.mono ?_
    rintro e w1 ⟨rfl, hb1⟩
    exact ⟨rfl, rfl, hb1⟩
  | ok n a1 =>
    rw [hc] at hr
    simp only at hr
    obtain ⟨hrn, hn4⟩ := cnt_ok hc
    have HCT : Hid (Calls Try.prog 113 #[.pointer (some ⟨b, 0, none⟩), .int .i64 (start : Int), .int .i64 4096] w fun e w' => e = .returned (.int .i64 (n : Int)) ∧ Rdr w' b a xs cap a1 p ∧ But b w w') := count_ok n a1 start 4096 b a xs cap at' p w h hby hrn hn4 (by decide)
    have HR : Hid (Sp.rdF xs start (Sp.rdV xs f) n [] a1 p = .bad q er) := hr
    have HCH : Hid (VC xs f ∧ By xs ∧ VB xs f) := ⟨HC, hby, HV⟩
    have hwd : IntKind.i64.wrap (depth + 1) = depth + 1 := Go.wrap_small _ (by omega) (by omega)
    clear h hr hc hrn HC hby HV
    go_enter Try.func114, Try.ntmps114
    go_wp2_with fail
    refine HCT.out.mono ?_
    rintro e w1 ⟨rfl, hr1, hb1⟩
    have HR1 : Hid (Rdr w1 b a xs cap a1 p ∧ But b w w1) := ⟨hr1, hb1⟩
    clear hr1 hb1 HCT
    go_wp2_with fail
    go_loopw [6, 11] (fun u x wr => ∃ (k j pp aa : Nat) (ahd : List Int) (a9 : Option Addr) (m9 cap9 : Nat), u = .slice a9 m9 cap9 ∧ x = .int .i64 (k : Int) ∧ k + j = n ∧ Hid (m9 = ahd.length ∧ RdB wr (Lo b) a9 ahd ∧ Sp.rdF xs start (Sp.rdV xs f) j ahd aa pp = .bad q er ∧ Rdr wr b a xs cap aa pp ∧ But b w wr)) (fun _ x _ => n - (intOf x).toNat)
    case atStart => exact ⟨0, n, p, a1, [], none, 0, 0, rfl, rfl, by omega, rfl, fun j u hu => by simp at hu, HR.out, HR1.out⟩
    case round =>
      obtain ⟨k, j, pp, aa, ahd, a9, m9, cap9, rfl, rfl, hkj, HI⟩ := hrel
      clear HR HR1
      cases j with
      | zero =>
        obtain ⟨_, _, hrf, hrd, hbl⟩ := HI.out
        rw [Sp.rdF] at hrf
        simp at hrf
      | succ j =>
        have h1 : (k : Int) < (n : Int) := by omega
        obtain ⟨hm9, hrb, hrf, hrd, hbl⟩ := HI.out
        rw [Sp.rdF] at hrf
        have HBL : Hid (But b w wr) := hbl
        cases hn : Sp.rdN xs aa start with
        | bad q1 e1 =>
          rw [hn] at hrf
          injection hrf with e1 e2; subst e1; subst e2
          have HNM : Hid (Calls Try.prog 115 #[.pointer (some ⟨b, 0, none⟩), .int .i64 (start : Int)] wr fun x w' => x = Flt q1 e1 ∧ But b wr w') := rname_bad _ _ start b a xs cap aa pp wr hrd HCH.out.2.1 hn
          clear hm9 hrb hrd hbl HI hn
          go_wp2_with fail
          refine HNM.out.mono ?_
          rintro e w2 ⟨rfl, hb2⟩
          exact ⟨rfl, rfl, HBL.out.trans hb2⟩
        | ok nm a0 =>
          rw [hn] at hrf
          simp only at hrf
          obtain ⟨nn, an, hrn, hn32, hle, rfl, rfl, hnm⟩ := rdN_ok hn
          have HNM : Hid (Calls Try.prog 115 #[.pointer (some ⟨b, 0, none⟩), .int .i64 (start : Int)] wr fun e w' => ∃ a' cap', e = .returned (.slice a' nn cap') ∧ RdB w' (Lo b) a' ((xs.drop an).take nn) ∧ Rdr w' b a xs cap (an + nn) pp ∧ But b wr w') := rname_ok nn an start b a xs cap aa pp wr hrd HCH.out.2.1 hrn hn32 hle hnm
          have HLN : Hid (nn = ((xs.drop an).take nn).length) := by show _ = _; rw [List.length_take, List.length_drop]; omega
          have HM9 : Hid (m9 = ahd.length ∧ RdB wr (Lo b) a9 ahd) := ⟨hm9, hrb⟩
          clear hm9 hrb hrd hbl HI hn hrn hnm hle
          by_cases hc : Sp.cmpS (Sp.txt ((xs.drop an).take nn)) (Sp.txt ahd) ≤ 0
          · rw [if_pos hc] at hrf
            injection hrf with e1 e2; subst e1; subst e2
            have HCM : Hid (Sp.cmpS (Sp.txt ((xs.drop an).take nn)) (Sp.txt ahd) ≤ 0) := hc
            clear hc
            go_wp2_with fail
            refine HNM.out.mono ?_
            rintro e w2 ⟨a7, cap7, rfl, hrd2, hr2, hb2⟩
            have HB2 : Hid (But b wr w2) := hb2
            have HCP : Hid (Calls Try.prog 72 #[.slice a7 nn cap7, .slice a9 m9 cap9] w2 fun e w' => e = .returned (.int .i64 (Sp.cmpS (Sp.txt ((xs.drop an).take nn)) (Sp.txt ahd))) ∧ w2 = w') := bytesCmp_rd _ ahd a7 a9 cap7 cap9 nn m9 HLN.out HM9.out.1 (Lo b) w2 hrd2 (HM9.out.2.same hb2.same (fun _ h => h))
            clear hrd2 hr2 hb2 HNM
            generalize Sp.cmpS (Sp.txt ((xs.drop an).take nn)) (Sp.txt ahd) = cm at HCP HCM
            have hcm : cm ≤ 0 := HCM.out
            clear HCM
            go_wp2_with fail
            refine HCP.out.mono ?_
            rintro e w3 ⟨rfl, rfl⟩
            clear HCP
            go_wp2_with fail
            exact ⟨rfl, rfl, HBL.out.trans HB2.out⟩
          · rw [if_neg hc] at hrf
            have HCM : Hid (¬ Sp.cmpS (Sp.txt ((xs.drop an).take nn)) (Sp.txt ahd) ≤ 0) := hc
            clear hc
            have HRF : Hid (Sp.rdV xs f (an + nn) pp = .bad q er ∨ ∃ t p1 a1, Sp.rdV xs f (an + nn) pp = .ok (t, p1) a1 ∧ Sp.rdF xs start (Sp.rdV xs f) j ((xs.drop an).take nn) a1 p1 = .bad q er) := rdF_rest hrf
            clear hrf
            go_wp2_with fail
            refine HNM.out.mono ?_
            rintro e w2 ⟨a7, cap7, rfl, hrd2, hr2, hb2⟩
            have HR2 : Hid (RdB w2 (Lo b) a7 ((xs.drop an).take nn) ∧ Rdr w2 b a xs cap (an + nn) pp ∧ But b wr w2) := ⟨hrd2, hr2, hb2⟩
            have HCP : Hid (Calls Try.prog 72 #[.slice a7 nn cap7, .slice a9 m9 cap9] w2 fun e w' => e = .returned (.int .i64 (Sp.cmpS (Sp.txt ((xs.drop an).take nn)) (Sp.txt ahd))) ∧ w2 = w') := bytesCmp_rd _ ahd a7 a9 cap7 cap9 nn m9 HLN.out HM9.out.1 (Lo b) w2 hrd2 (HM9.out.2.same hb2.same (fun _ h => h))
            clear hrd2 hr2 hb2 HNM
            generalize Sp.cmpS (Sp.txt ((xs.drop an).take nn)) (Sp.txt ahd) = cm at HCP HCM
            have hcm : ¬ cm ≤ 0 := by have := HCM.out; omega
            clear HCM
            go_wp2_with fail
            refine HCP.out.mono ?_
            rintro e w3 ⟨rfl, rfl⟩
            clear HCP
            go_wp2_with fail
            rcases HRF.out with hv | ⟨t, p1, av, hv, hq⟩
            · refine (HCH.out.2.2 b a cap (an + nn) pp _ _ w2 _ (by omega) HR2.out.2.1 hv).mono ?_
              rintro e w4 ⟨rfl, hb4⟩
              exact ⟨rfl, rfl, HBL.out.trans (HR2.out.2.2.trans hb4)⟩
            · refine (HCH.out.1 b a cap (an + nn) pp t p1 av w2 _ (by omega) HR2.out.2.1 hv).mono ?_
              have HQ : Hid (Sp.rdF xs start (Sp.rdV xs f) j ((xs.drop an).take nn) av p1 = .bad q er) := hq
              clear hv hq
              rintro e w4 ⟨rfl, hr4, hb4⟩
              have HR4 : Hid (Rdr w4 b a xs cap av p1 ∧ But b w2 w4) := ⟨hr4, hb4⟩
              clear hr4 hb4
              go_wp2_with fail
              go_roundw
              case rel => exact ⟨k + 1, j, p1, av, (xs.drop an).take nn, a7, nn, cap7, rfl, by go_num, by omega, HLN.out, HR2.out.1.same HR4.out.2.same (fun _ h => h), HQ.out, HR4.out.1, HBL.out.trans (HR2.out.2.2.trans HR4.out.2)⟩
              case measure => simp [intOf]; omega
end Go.Proofs.Ytmmiiapfefmcjaa

