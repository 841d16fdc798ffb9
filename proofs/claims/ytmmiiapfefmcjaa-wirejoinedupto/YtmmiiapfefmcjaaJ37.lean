/- The reader's value where something is wrong, kind by kind. -/
import Derived.Test.YtmmiiapfefmcjaaJ36
import Derived.Test.YtmmiiapfefmcjaaJ30
namespace Go.Proofs.Ytmmiiapfefmcjaa
open Go.RowKit

section
variable (d : Int) (b : Nat) (a : Option Addr) (xs : List Int) (cap at' p : Nat) (w : World) (h : Rdr w b a xs cap at' p) (hp : p < 16384) (hd : d ≤ 64)
include h hp hd
set_option maxRecDepth 100000 in
set_option maxHeartbeats 2000000 in
theorem bval_2a (hx : xs[at']? = some 2) (hc : xs[at' + 1]? = none) : Calls Try.prog 83 #[.pointer (some ⟨b, 0, none⟩), .int .i64 d] w fun x w' => x = Flt xs.length 4 ∧ But b w w' := by
  have HX : Hid (xs[at' + 1]? = none) := hc
  have HK : Hid (Calls Try.prog 110 #[.pointer (some ⟨b, 0, none⟩), .int .i64 d] w fun e w' => e = .returned (.int .u8 2) ∧ Rdr w' b a xs cap (at' + 1) (p + 1) ∧ But b w w') := kind_ok 2 d b a xs cap at' p w h hx hp hd
  obtain ⟨c0, c1, c2, f1, f2, rd, cp, ln, le, np⟩ := h
  clear rd hx hc
  go_enter Try.func83, Try.ntmps83
  go_wp2_with fail
  refine HK.out.mono ?_
  rintro e w1 ⟨rfl, hr1, hb1⟩
  have HR1 : Hid (Rdr w1 b a xs cap (at' + 1) (p + 1) ∧ But b w w1) := ⟨hr1, hb1⟩
  clear hr1 hb1 HK
  go_wp2_with fail
  refine (rbool_bad1 b a xs cap (at' + 1) (p + 1) w1 HR1.out.1 HX.out).mono ?_
  rintro e w2 ⟨rfl, hb2⟩
  exact ⟨rfl, rfl, HR1.out.2.trans hb2⟩
set_option maxRecDepth 100000 in
set_option maxHeartbeats 2000000 in
theorem bval_2b (hx : xs[at']? = some 2) (c : Int) (hc : xs[at' + 1]? = some c) (hc1 : 1 < c) : Calls Try.prog 83 #[.pointer (some ⟨b, 0, none⟩), .int .i64 d] w fun x w' => x = Flt (at' + 1) 30 ∧ But b w w' := by
  have HX : Hid (xs[at' + 1]? = some c) := hc
  have HK : Hid (Calls Try.prog 110 #[.pointer (some ⟨b, 0, none⟩), .int .i64 d] w fun e w' => e = .returned (.int .u8 2) ∧ Rdr w' b a xs cap (at' + 1) (p + 1) ∧ But b w w') := kind_ok 2 d b a xs cap at' p w h hx hp hd
  obtain ⟨c0, c1, c2, f1, f2, rd, cp, ln, le, np⟩ := h
  clear rd hx hc
  go_enter Try.func83, Try.ntmps83
  go_wp2_with fail
  refine HK.out.mono ?_
  rintro e w1 ⟨rfl, hr1, hb1⟩
  have HR1 : Hid (Rdr w1 b a xs cap (at' + 1) (p + 1) ∧ But b w w1) := ⟨hr1, hb1⟩
  clear hr1 hb1 HK
  go_wp2_with fail
  refine (rbool_bad2 b a xs cap (at' + 1) (p + 1) w1 HR1.out.1 c HX.out hc1).mono ?_
  rintro e w2 ⟨rfl, hb2⟩
  exact ⟨rfl, rfl, HR1.out.2.trans hb2⟩
set_option maxRecDepth 100000 in
set_option maxHeartbeats 2000000 in
theorem bval_3 (hx : xs[at']? = some 3) (hby : By xs) (q : Nat) (er : Int) (hn : Sp.rn xs (at' + 1) 10 0 0 = .bad q er) : Calls Try.prog 83 #[.pointer (some ⟨b, 0, none⟩), .int .i64 d] w fun x w' => x = Flt q er ∧ But b w w' := by
  have HX : Hid (By xs ∧ Sp.rn xs (at' + 1) 10 0 0 = .bad q er) := ⟨hby, hn⟩
  have HK : Hid (Calls Try.prog 110 #[.pointer (some ⟨b, 0, none⟩), .int .i64 d] w fun e w' => e = .returned (.int .u8 3) ∧ Rdr w' b a xs cap (at' + 1) (p + 1) ∧ But b w w') := kind_ok 3 d b a xs cap at' p w h hx hp hd
  obtain ⟨c0, c1, c2, f1, f2, rd, cp, ln, le, np⟩ := h
  clear rd hx hby hn
  go_enter Try.func83, Try.ntmps83
  go_wp2_with fail
  refine HK.out.mono ?_
  rintro e w1 ⟨rfl, hr1, hb1⟩
  have HR1 : Hid (Rdr w1 b a xs cap (at' + 1) (p + 1) ∧ But b w w1) := ⟨hr1, hb1⟩
  clear hr1 hb1 HK
  go_wp2_with fail
  refine (rnumber_bad q er b a xs cap (at' + 1) (p + 1) w1 HR1.out.1 HX.out.1 HX.out.2).mono ?_
  rintro e w2 ⟨rfl, hb2⟩
  exact ⟨rfl, rfl, HR1.out.2.trans hb2⟩
set_option maxRecDepth 100000 in
set_option maxHeartbeats 2000000 in
theorem bval_7 (hx : xs[at']? = some 7) (hby : By xs) (q : Nat) (er : Int) (hn : Sp.rn xs (at' + 1) 10 0 0 = .bad q er) : Calls Try.prog 83 #[.pointer (some ⟨b, 0, none⟩), .int .i64 d] w fun x w' => x = Flt q er ∧ But b w w' := by
  have HX : Hid (By xs ∧ Sp.rn xs (at' + 1) 10 0 0 = .bad q er) := ⟨hby, hn⟩
  have HK : Hid (Calls Try.prog 110 #[.pointer (some ⟨b, 0, none⟩), .int .i64 d] w fun e w' => e = .returned (.int .u8 7) ∧ Rdr w' b a xs cap (at' + 1) (p + 1) ∧ But b w w') := kind_ok 7 d b a xs cap at' p w h hx hp hd
  obtain ⟨c0, c1, c2, f1, f2, rd, cp, ln, le, np⟩ := h
  clear rd hx hby hn
  go_enter Try.func83, Try.ntmps83
  go_wp2_with fail
  refine HK.out.mono ?_
  rintro e w1 ⟨rfl, hr1, hb1⟩
  have HR1 : Hid (Rdr w1 b a xs cap (at' + 1) (p + 1) ∧ But b w w1) := ⟨hr1, hb1⟩
  clear hr1 hb1 HK
  go_wp2_with fail
  refine (rnumber_bad q er b a xs cap (at' + 1) (p + 1) w1 HR1.out.1 HX.out.1 HX.out.2).mono ?_
  rintro e w2 ⟨rfl, hb2⟩
  exact ⟨rfl, rfl, HR1.out.2.trans hb2⟩
set_option maxRecDepth 100000 in
set_option maxHeartbeats 2000000 in
theorem bval_4 (hx : xs[at']? = some 4) (hl : ¬ at' + 1 + 8 ≤ xs.length) : Calls Try.prog 83 #[.pointer (some ⟨b, 0, none⟩), .int .i64 d] w fun x w' => x = Flt xs.length 4 ∧ But b w w' := by
  have HX : Hid (¬ at' + 1 + 8 ≤ xs.length) := hl
  have HK : Hid (Calls Try.prog 110 #[.pointer (some ⟨b, 0, none⟩), .int .i64 d] w fun e w' => e = .returned (.int .u8 4) ∧ Rdr w' b a xs cap (at' + 1) (p + 1) ∧ But b w w') := kind_ok 4 d b a xs cap at' p w h hx hp hd
  obtain ⟨c0, c1, c2, f1, f2, rd, cp, ln, le, np⟩ := h
  clear rd hx hl
  go_enter Try.func83, Try.ntmps83
  go_wp2_with fail
  refine HK.out.mono ?_
  rintro e w1 ⟨rfl, hr1, hb1⟩
  have HR1 : Hid (Rdr w1 b a xs cap (at' + 1) (p + 1) ∧ But b w w1) := ⟨hr1, hb1⟩
  clear hr1 hb1 HK
  go_wp2_with fail
  refine (take_bad 8 b a xs cap (at' + 1) (p + 1) w1 HR1.out.1 HX.out).mono ?_
  rintro e w2 ⟨rfl, hb2⟩
  exact ⟨rfl, rfl, HR1.out.2.trans hb2⟩
set_option maxRecDepth 100000 in
set_option maxHeartbeats 2000000 in
theorem bval_5a (hx : xs[at']? = some 5) (hby : By xs) (q : Nat) (er : Int) (hn : Sp.cnt xs (at' + 1) at' 65536 = .bad q er) : Calls Try.prog 83 #[.pointer (some ⟨b, 0, none⟩), .int .i64 d] w fun x w' => x = Flt q er ∧ But b w w' := by
  have HX : Hid (By xs ∧ Sp.cnt xs (at' + 1) at' 65536 = .bad q er) := ⟨hby, hn⟩
  have HK : Hid (Calls Try.prog 110 #[.pointer (some ⟨b, 0, none⟩), .int .i64 d] w fun e w' => e = .returned (.int .u8 5) ∧ Rdr w' b a xs cap (at' + 1) (p + 1) ∧ But b w w') := kind_ok 5 d b a xs cap at' p w h hx hp hd
  obtain ⟨c0, c1, c2, f1, f2, rd, cp, ln, le, np⟩ := h
  clear rd hx hby hn
  go_enter Try.func83, Try.ntmps83
  go_wp2_with fail
  refine HK.out.mono ?_
  rintro e w1 ⟨rfl, hr1, hb1⟩
  have HR1 : Hid (Rdr w1 b a xs cap (at' + 1) (p + 1) ∧ But b w w1) := ⟨hr1, hb1⟩
  clear hr1 hb1 HK
  go_wp2_with fail
  refine (count_bad q er at' 65536 (by decide) b a xs cap (at' + 1) (p + 1) w1 HR1.out.1 HX.out.1 HX.out.2).mono ?_
  rintro e w2 ⟨rfl, hb2⟩
  exact ⟨rfl, rfl, HR1.out.2.trans hb2⟩
set_option maxRecDepth 100000 in
set_option maxHeartbeats 2000000 in
theorem bval_5b (hx : xs[at']? = some 5) (hby : By xs) (n a2 : Nat) (hn : Sp.rn xs (at' + 1) 10 0 0 = .ok n a2) (hm : n ≤ 65536) (hl : ¬ a2 + n ≤ xs.length) : Calls Try.prog 83 #[.pointer (some ⟨b, 0, none⟩), .int .i64 d] w fun x w' => x = Flt xs.length 4 ∧ But b w w' := by
  have HX : Hid (By xs ∧ Sp.rn xs (at' + 1) 10 0 0 = .ok n a2 ∧ n ≤ 65536 ∧ ¬ a2 + n ≤ xs.length) := ⟨hby, hn, hm, hl⟩
  have HK : Hid (Calls Try.prog 110 #[.pointer (some ⟨b, 0, none⟩), .int .i64 d] w fun e w' => e = .returned (.int .u8 5) ∧ Rdr w' b a xs cap (at' + 1) (p + 1) ∧ But b w w') := kind_ok 5 d b a xs cap at' p w h hx hp hd
  obtain ⟨c0, c1, c2, f1, f2, rd, cp, ln, le, np⟩ := h
  clear rd hx hby hn hl
  go_enter Try.func83, Try.ntmps83
  go_wp2_with fail
  refine HK.out.mono ?_
  rintro e w1 ⟨rfl, hr1, hb1⟩
  have HR1 : Hid (Rdr w1 b a xs cap (at' + 1) (p + 1) ∧ But b w w1) := ⟨hr1, hb1⟩
  clear hr1 hb1 HK
  go_wp2_with fail
  refine (count_ok n a2 at' 65536 b a xs cap (at' + 1) (p + 1) w1 HR1.out.1 HX.out.1 HX.out.2.1 HX.out.2.2.1 (by decide)).mono ?_
  rintro e w3 ⟨rfl, hr3, hb3⟩
  have HR3 : Hid (Rdr w3 b a xs cap a2 (p + 1) ∧ But b w w3) := ⟨hr3, HR1.out.2.trans hb3⟩
  clear hr3 hb3
  go_wp2_with fail
  refine (take_bad n b a xs cap a2 (p + 1) w3 HR3.out.1 HX.out.2.2.2).mono ?_
  rintro e w2 ⟨rfl, hb2⟩
  exact ⟨rfl, rfl, HR3.out.2.trans hb2⟩
set_option maxRecDepth 100000 in
set_option maxHeartbeats 2000000 in
theorem bval_6a (hx : xs[at']? = some 6) (hby : By xs) (q : Nat) (er : Int) (hn : Sp.cnt xs (at' + 1) at' 65536 = .bad q er) : Calls Try.prog 83 #[.pointer (some ⟨b, 0, none⟩), .int .i64 d] w fun x w' => x = Flt q er ∧ But b w w' := by
  have HX : Hid (By xs ∧ Sp.cnt xs (at' + 1) at' 65536 = .bad q er) := ⟨hby, hn⟩
  have HK : Hid (Calls Try.prog 110 #[.pointer (some ⟨b, 0, none⟩), .int .i64 d] w fun e w' => e = .returned (.int .u8 6) ∧ Rdr w' b a xs cap (at' + 1) (p + 1) ∧ But b w w') := kind_ok 6 d b a xs cap at' p w h hx hp hd
  obtain ⟨c0, c1, c2, f1, f2, rd, cp, ln, le, np⟩ := h
  clear rd hx hby hn
  go_enter Try.func83, Try.ntmps83
  go_wp2_with fail
  refine HK.out.mono ?_
  rintro e w1 ⟨rfl, hr1, hb1⟩
  have HR1 : Hid (Rdr w1 b a xs cap (at' + 1) (p + 1) ∧ But b w w1) := ⟨hr1, hb1⟩
  clear hr1 hb1 HK
  go_wp2_with fail
  refine (count_bad q er at' 65536 (by decide) b a xs cap (at' + 1) (p + 1) w1 HR1.out.1 HX.out.1 HX.out.2).mono ?_
  rintro e w2 ⟨rfl, hb2⟩
  exact ⟨rfl, rfl, HR1.out.2.trans hb2⟩
set_option maxRecDepth 100000 in
set_option maxHeartbeats 2000000 in
theorem bval_6b (hx : xs[at']? = some 6) (hby : By xs) (n a2 : Nat) (hn : Sp.rn xs (at' + 1) 10 0 0 = .ok n a2) (hm : n ≤ 65536) (hl : ¬ a2 + n ≤ xs.length) : Calls Try.prog 83 #[.pointer (some ⟨b, 0, none⟩), .int .i64 d] w fun x w' => x = Flt xs.length 4 ∧ But b w w' := by
  have HX : Hid (By xs ∧ Sp.rn xs (at' + 1) 10 0 0 = .ok n a2 ∧ n ≤ 65536 ∧ ¬ a2 + n ≤ xs.length) := ⟨hby, hn, hm, hl⟩
  have HK : Hid (Calls Try.prog 110 #[.pointer (some ⟨b, 0, none⟩), .int .i64 d] w fun e w' => e = .returned (.int .u8 6) ∧ Rdr w' b a xs cap (at' + 1) (p + 1) ∧ But b w w') := kind_ok 6 d b a xs cap at' p w h hx hp hd
  obtain ⟨c0, c1, c2, f1, f2, rd, cp, ln, le, np⟩ := h
  clear rd hx hby hn hl
  go_enter Try.func83, Try.ntmps83
  go_wp2_with fail
  refine HK.out.mono ?_
  rintro e w1 ⟨rfl, hr1, hb1⟩
  have HR1 : Hid (Rdr w1 b a xs cap (at' + 1) (p + 1) ∧ But b w w1) := ⟨hr1, hb1⟩
  clear hr1 hb1 HK
  go_wp2_with fail
  refine (count_ok n a2 at' 65536 b a xs cap (at' + 1) (p + 1) w1 HR1.out.1 HX.out.1 HX.out.2.1 HX.out.2.2.1 (by decide)).mono ?_
  rintro e w3 ⟨rfl, hr3, hb3⟩
  have HR3 : Hid (Rdr w3 b a xs cap a2 (p + 1) ∧ But b w w3) := ⟨hr3, HR1.out.2.trans hb3⟩
  clear hr3 hb3
  go_wp2_with fail
  refine (take_bad n b a xs cap a2 (p + 1) w3 HR3.out.1 HX.out.2.2.2).mono ?_
  rintro e w2 ⟨rfl, hb2⟩
  exact ⟨rfl, rfl, HR3.out.2.trans hb2⟩
set_option maxRecDepth 100000 in
set_option maxHeartbeats 2000000 in
theorem bval_9 (hx : xs[at']? = some 9) (hby : By xs) (f : Nat) (HC : VC xs f) (HV : VB xs f) (hdf : d + 1 = 65 - (f : Int)) (hf : f ≤ 64) (q : Nat) (er : Int) (hr : Sp.rdD xs at' (Sp.rdV xs f) (at' + 1) (p + 1) = .bad q er) : Calls Try.prog 83 #[.pointer (some ⟨b, 0, none⟩), .int .i64 d] w fun x w' => x = Flt q er ∧ But b w w' := by
  have HX : Hid (By xs ∧ VC xs f ∧ VB xs f ∧ Sp.rdD xs at' (Sp.rdV xs f) (at' + 1) (p + 1) = .bad q er) := ⟨hby, HC, HV, hr⟩
  have HK : Hid (Calls Try.prog 110 #[.pointer (some ⟨b, 0, none⟩), .int .i64 d] w fun e w' => e = .returned (.int .u8 9) ∧ Rdr w' b a xs cap (at' + 1) (p + 1) ∧ But b w w') := kind_ok 9 d b a xs cap at' p w h hx hp hd
  obtain ⟨c0, c1, c2, f1, f2, rd, cp, ln, le, np⟩ := h
  clear rd hx hby HC HV hr
  go_enter Try.func83, Try.ntmps83
  go_wp2_with fail
  refine HK.out.mono ?_
  rintro e w1 ⟨rfl, hr1, hb1⟩
  have HR1 : Hid (Rdr w1 b a xs cap (at' + 1) (p + 1) ∧ But b w w1) := ⟨hr1, hb1⟩
  clear hr1 hb1 HK
  go_wp2_with fail
  refine (dfields_bad f xs HX.out.1 HX.out.2.1 HX.out.2.2.1 at' d hdf hf b a cap (at' + 1) (p + 1) q er w1 HR1.out.1 HX.out.2.2.2).mono ?_
  rintro e w2 ⟨rfl, hb2⟩
  exact ⟨rfl, rfl, HR1.out.2.trans hb2⟩
set_option maxRecDepth 100000 in
set_option maxHeartbeats 2000000 in
theorem bval_10a (hx : xs[at']? = some 10) (hby : By xs) (q : Nat) (er : Int) (hn : Sp.rdN xs (at' + 1) at' = .bad q er) : Calls Try.prog 83 #[.pointer (some ⟨b, 0, none⟩), .int .i64 d] w fun x w' => x = Flt q er ∧ But b w w' := by
  have HX : Hid (By xs ∧ Sp.rdN xs (at' + 1) at' = .bad q er) := ⟨hby, hn⟩
  have HK : Hid (Calls Try.prog 110 #[.pointer (some ⟨b, 0, none⟩), .int .i64 d] w fun e w' => e = .returned (.int .u8 10) ∧ Rdr w' b a xs cap (at' + 1) (p + 1) ∧ But b w w') := kind_ok 10 d b a xs cap at' p w h hx hp hd
  obtain ⟨c0, c1, c2, f1, f2, rd, cp, ln, le, np⟩ := h
  clear rd hx hby hn
  go_enter Try.func83, Try.ntmps83
  go_wp2_with fail
  refine HK.out.mono ?_
  rintro e w1 ⟨rfl, hr1, hb1⟩
  have HR1 : Hid (Rdr w1 b a xs cap (at' + 1) (p + 1) ∧ But b w w1) := ⟨hr1, hb1⟩
  clear hr1 hb1 HK
  go_wp2_with fail
  refine (rname_bad q er at' b a xs cap (at' + 1) (p + 1) w1 HR1.out.1 HX.out.1 HX.out.2).mono ?_
  rintro e w2 ⟨rfl, hb2⟩
  exact ⟨rfl, rfl, HR1.out.2.trans hb2⟩
set_option maxRecDepth 100000 in
set_option maxHeartbeats 2000000 in
theorem bval_10b (hx : xs[at']? = some 10) (hby : By xs) (n a3 : Nat) (hn : Sp.rn xs (at' + 1) 10 0 0 = .ok n a3) (hn32 : n ≤ 32) (hl : a3 + n ≤ xs.length) (hnm : Sp.isNm (Sp.txt ((xs.drop a3).take n)) = true) (q : Nat) (er : Int) (hv : Sp.rn xs (a3 + n) 10 0 0 = .bad q er) : Calls Try.prog 83 #[.pointer (some ⟨b, 0, none⟩), .int .i64 d] w fun x w' => x = Flt q er ∧ But b w w' := by
  have HY : Hid (By xs ∧ Sp.rn xs (at' + 1) 10 0 0 = .ok n a3 ∧ a3 + n ≤ xs.length ∧ Sp.isNm (Sp.txt ((xs.drop a3).take n)) = true) := ⟨hby, hn, hl, hnm⟩
  have HX : Hid (Sp.rn xs (a3 + n) 10 0 0 = .bad q er) := hv
  have HK : Hid (Calls Try.prog 110 #[.pointer (some ⟨b, 0, none⟩), .int .i64 d] w fun e w' => e = .returned (.int .u8 10) ∧ Rdr w' b a xs cap (at' + 1) (p + 1) ∧ But b w w') := kind_ok 10 d b a xs cap at' p w h hx hp hd
  obtain ⟨c0, c1, c2, f1, f2, rd, cp, ln, le, np⟩ := h
  clear rd hx hby hn hl hnm hv
  go_enter Try.func83, Try.ntmps83
  go_wp2_with fail
  refine HK.out.mono ?_
  rintro e w1 ⟨rfl, hr1, hb1⟩
  have HR1 : Hid (Rdr w1 b a xs cap (at' + 1) (p + 1) ∧ But b w w1) := ⟨hr1, hb1⟩
  clear hr1 hb1 HK
  go_wp2_with fail
  refine (rname_ok n a3 at' b a xs cap (at' + 1) (p + 1) w1 HR1.out.1 HY.out.1 HY.out.2.1 hn32 HY.out.2.2.1 HY.out.2.2.2).mono ?_
  rintro e w3 ⟨_, _, rfl, _, hr3, hb3⟩
  have HR3 : Hid (Rdr w3 b a xs cap (a3 + n) (p + 1) ∧ But b w w3) := ⟨hr3, HR1.out.2.trans hb3⟩
  clear hr3 hb3
  go_wp2_with fail
  refine (version_bad1 q er b a xs cap (a3 + n) (p + 1) w3 HR3.out.1 at' HY.out.1 HX.out).mono ?_
  rintro e w2 ⟨rfl, hb2⟩
  exact ⟨rfl, rfl, HR3.out.2.trans hb2⟩
set_option maxRecDepth 100000 in
set_option maxHeartbeats 2000000 in
theorem bval_10c (hx : xs[at']? = some 10) (hby : By xs) (n a3 : Nat) (hn : Sp.rn xs (at' + 1) 10 0 0 = .ok n a3) (hn32 : n ≤ 32) (hl : a3 + n ≤ xs.length) (hnm : Sp.isNm (Sp.txt ((xs.drop a3).take n)) = true) (v a4 : Nat) (hv : Sp.rn xs (a3 + n) 10 0 0 = .ok v a4) (hv1 : v < 1 ∨ 1000 < v) : Calls Try.prog 83 #[.pointer (some ⟨b, 0, none⟩), .int .i64 d] w fun x w' => x = Flt at' 1 ∧ But b w w' := by
  have HY : Hid (By xs ∧ Sp.rn xs (at' + 1) 10 0 0 = .ok n a3 ∧ a3 + n ≤ xs.length ∧ Sp.isNm (Sp.txt ((xs.drop a3).take n)) = true) := ⟨hby, hn, hl, hnm⟩
  have HX : Hid (Sp.rn xs (a3 + n) 10 0 0 = .ok v a4 ∧ (v < 1 ∨ 1000 < v)) := ⟨hv, hv1⟩
  have HK : Hid (Calls Try.prog 110 #[.pointer (some ⟨b, 0, none⟩), .int .i64 d] w fun e w' => e = .returned (.int .u8 10) ∧ Rdr w' b a xs cap (at' + 1) (p + 1) ∧ But b w w') := kind_ok 10 d b a xs cap at' p w h hx hp hd
  obtain ⟨c0, c1, c2, f1, f2, rd, cp, ln, le, np⟩ := h
  clear rd hx hby hn hl hnm hv hv1
  go_enter Try.func83, Try.ntmps83
  go_wp2_with fail
  refine HK.out.mono ?_
  rintro e w1 ⟨rfl, hr1, hb1⟩
  have HR1 : Hid (Rdr w1 b a xs cap (at' + 1) (p + 1) ∧ But b w w1) := ⟨hr1, hb1⟩
  clear hr1 hb1 HK
  go_wp2_with fail
  refine (rname_ok n a3 at' b a xs cap (at' + 1) (p + 1) w1 HR1.out.1 HY.out.1 HY.out.2.1 hn32 HY.out.2.2.1 HY.out.2.2.2).mono ?_
  rintro e w3 ⟨_, _, rfl, _, hr3, hb3⟩
  have HR3 : Hid (Rdr w3 b a xs cap (a3 + n) (p + 1) ∧ But b w w3) := ⟨hr3, HR1.out.2.trans hb3⟩
  clear hr3 hb3
  go_wp2_with fail
  refine (version_bad2 b a xs cap (a3 + n) (p + 1) w3 HR3.out.1 at' HY.out.1 v a4 HX.out.1 HX.out.2).mono ?_
  rintro e w2 ⟨rfl, hb2⟩
  exact ⟨rfl, rfl, HR3.out.2.trans hb2⟩
set_option maxRecDepth 100000 in
set_option maxHeartbeats 2000000 in
theorem bval_10d (hx : xs[at']? = some 10) (hby : By xs) (n a3 : Nat) (hn : Sp.rn xs (at' + 1) 10 0 0 = .ok n a3) (hn32 : n ≤ 32) (hl : a3 + n ≤ xs.length) (hnm : Sp.isNm (Sp.txt ((xs.drop a3).take n)) = true) (v a4 : Nat) (hv : Sp.rn xs (a3 + n) 10 0 0 = .ok v a4) (hv1 : 1 ≤ v ∧ v ≤ 1000) (f : Nat) (HC : VC xs f) (HV : VB xs f) (hdf : d + 1 = 65 - (f : Int)) (hf : f ≤ 64) (q : Nat) (er : Int) (hr : Sp.rdD xs at' (Sp.rdV xs f) a4 (p + 1) = .bad q er) : Calls Try.prog 83 #[.pointer (some ⟨b, 0, none⟩), .int .i64 d] w fun x w' => x = Flt q er ∧ But b w w' := by
  have HY : Hid (By xs ∧ Sp.rn xs (at' + 1) 10 0 0 = .ok n a3 ∧ a3 + n ≤ xs.length ∧ Sp.isNm (Sp.txt ((xs.drop a3).take n)) = true) := ⟨hby, hn, hl, hnm⟩
  have HX : Hid (Sp.rn xs (a3 + n) 10 0 0 = .ok v a4 ∧ VC xs f ∧ VB xs f ∧ Sp.rdD xs at' (Sp.rdV xs f) a4 (p + 1) = .bad q er) := ⟨hv, HC, HV, hr⟩
  have HK : Hid (Calls Try.prog 110 #[.pointer (some ⟨b, 0, none⟩), .int .i64 d] w fun e w' => e = .returned (.int .u8 10) ∧ Rdr w' b a xs cap (at' + 1) (p + 1) ∧ But b w w') := kind_ok 10 d b a xs cap at' p w h hx hp hd
  obtain ⟨c0, c1, c2, f1, f2, rd, cp, ln, le, np⟩ := h
  clear rd hx hby hn hl hnm hv HC HV hr
  go_enter Try.func83, Try.ntmps83
  go_wp2_with fail
  refine HK.out.mono ?_
  rintro e w1 ⟨rfl, hr1, hb1⟩
  have HR1 : Hid (Rdr w1 b a xs cap (at' + 1) (p + 1) ∧ But b w w1) := ⟨hr1, hb1⟩
  clear hr1 hb1 HK
  go_wp2_with fail
  refine (rname_ok n a3 at' b a xs cap (at' + 1) (p + 1) w1 HR1.out.1 HY.out.1 HY.out.2.1 hn32 HY.out.2.2.1 HY.out.2.2.2).mono ?_
  rintro e w3 ⟨_, _, rfl, _, hr3, hb3⟩
  have HR3 : Hid (Rdr w3 b a xs cap (a3 + n) (p + 1) ∧ But b w w3) := ⟨hr3, HR1.out.2.trans hb3⟩
  clear hr3 hb3
  go_wp2_with fail
  refine (version_ok v a4 at' b a xs cap (a3 + n) (p + 1) w3 HR3.out.1 HY.out.1 HX.out.1 hv1).mono ?_
  rintro e w4 ⟨rfl, hr4, hb4⟩
  have HR4 : Hid (Rdr w4 b a xs cap a4 (p + 1) ∧ But b w w4) := ⟨hr4, HR3.out.2.trans hb4⟩
  clear hr4 hb4
  go_wp2_with fail
  refine (dfields_bad f xs HY.out.1 HX.out.2.1 HX.out.2.2.1 at' d hdf hf b a cap a4 (p + 1) q er w4 HR4.out.1 HX.out.2.2.2).mono ?_
  rintro e w2 ⟨rfl, hb2⟩
  exact ⟨rfl, rfl, HR4.out.2.trans hb2⟩
set_option maxRecDepth 100000 in
set_option maxHeartbeats 2000000 in
theorem bval_8a (hx : xs[at']? = some 8) (hby : By xs) (q : Nat) (er : Int) (hn : Sp.cnt xs (at' + 1) at' 4096 = .bad q er) : Calls Try.prog 83 #[.pointer (some ⟨b, 0, none⟩), .int .i64 d] w fun x w' => x = Flt q er ∧ But b w w' := by
  have HX : Hid (By xs ∧ Sp.cnt xs (at' + 1) at' 4096 = .bad q er) := ⟨hby, hn⟩
  have HK : Hid (Calls Try.prog 110 #[.pointer (some ⟨b, 0, none⟩), .int .i64 d] w fun e w' => e = .returned (.int .u8 8) ∧ Rdr w' b a xs cap (at' + 1) (p + 1) ∧ But b w w') := kind_ok 8 d b a xs cap at' p w h hx hp hd
  obtain ⟨c0, c1, c2, f1, f2, rd, cp, ln, le, np⟩ := h
  clear rd hx hby hn
  go_enter Try.func83, Try.ntmps83
  go_wp2_with fail
  refine HK.out.mono ?_
  rintro e w1 ⟨rfl, hr1, hb1⟩
  have HR1 : Hid (Rdr w1 b a xs cap (at' + 1) (p + 1) ∧ But b w w1) := ⟨hr1, hb1⟩
  clear hr1 hb1 HK
  go_wp2_with fail
  refine (count_bad q er at' 4096 (by decide) b a xs cap (at' + 1) (p + 1) w1 HR1.out.1 HX.out.1 HX.out.2).mono ?_
  rintro e w2 ⟨rfl, hb2⟩
  exact ⟨rfl, rfl, HR1.out.2.trans hb2⟩
set_option maxRecDepth 100000 in
set_option maxHeartbeats 2000000 in
theorem bval_8b (hx : xs[at']? = some 8) (hby : By xs) (f : Nat) (HC : VC xs f) (HV : VB xs f) (hdf : d + 1 = 65 - (f : Int)) (hf : f ≤ 64) (q : Nat) (er : Int) (n a1 : Nat) (hn : Sp.rn xs (at' + 1) 10 0 0 = .ok n a1) (hn4 : n ≤ 4096) (hr : Sp.rdL (Sp.rdV xs f) n a1 (p + 1) = .bad q er) : Calls Try.prog 83 #[.pointer (some ⟨b, 0, none⟩), .int .i64 d] w fun x w' => x = Flt q er ∧ But b w w' := by
  have HX : Hid (By xs ∧ VC xs f ∧ Sp.rn xs (at' + 1) 10 0 0 = .ok n a1 ∧ n ≤ 4096 ∧ VB xs f) := ⟨hby, HC, hn, hn4, HV⟩
  have HR : Hid (Sp.rdL (Sp.rdV xs f) n a1 (p + 1) = .bad q er) := hr
  have hwd : IntKind.i64.wrap (d + 1) = d + 1 := Go.wrap_small _ (by omega) (by omega)
  have HK : Hid (Calls Try.prog 110 #[.pointer (some ⟨b, 0, none⟩), .int .i64 d] w fun e w' => e = .returned (.int .u8 8) ∧ Rdr w' b a xs cap (at' + 1) (p + 1) ∧ But b w w') := kind_ok 8 d b a xs cap at' p w h hx hp hd
  obtain ⟨c0, c1, c2, f1, f2, rd, cp, ln, le, np⟩ := h
  clear rd hx hby HC HV hr hn
  go_enter Try.func83, Try.ntmps83
  go_wp2_with fail
  refine HK.out.mono ?_
  rintro e w1 ⟨rfl, hr1, hb1⟩
  have HR1 : Hid (Rdr w1 b a xs cap (at' + 1) (p + 1) ∧ But b w w1) := ⟨hr1, hb1⟩
  clear hr1 hb1 HK
  go_wp2_with fail
  refine (count_ok n a1 at' 4096 b a xs cap (at' + 1) (p + 1) w1 HR1.out.1 HX.out.1 HX.out.2.2.1 HX.out.2.2.2.1 (by decide)).mono ?_
  rintro e w2 ⟨rfl, hr2, hb2⟩
  have HR2 : Hid (Rdr w2 b a xs cap a1 (p + 1) ∧ But b w w2) := ⟨hr2, HR1.out.2.trans hb2⟩
  clear hr2 hb2
  go_wp2_with fail
  go_loopw [43] (fun x wr => ∃ (k j pp aa : Nat), x = .int .i64 (k : Int) ∧ k + j = n ∧ Hid (Sp.rdL (Sp.rdV xs f) j aa pp = .bad q er ∧ Rdr wr b a xs cap aa pp ∧ But b w wr)) (fun x _ => n - (intOf x).toNat)
  case atStart => exact ⟨0, n, p + 1, a1, rfl, by omega, HR.out, HR2.out⟩
  case round =>
    obtain ⟨k, j, pp, aa, rfl, hkj, HI⟩ := hrel
    clear HR HR1 HR2
    cases j with
    | zero =>
      obtain ⟨hrf, hrd, hbl⟩ := HI.out
      rw [Sp.rdL] at hrf
      simp at hrf
    | succ j =>
      have h1 : (k : Int) < (n : Int) := by omega
      obtain ⟨hrf, hrd, hbl⟩ := HI.out
      rw [Sp.rdL] at hrf
      have HBL : Hid (Rdr wr b a xs cap aa pp ∧ But b w wr) := ⟨hrd, hbl⟩
      clear hrd hbl HI
      cases hv : Sp.rdV xs f aa pp with
      | bad q1 e1 =>
        rw [hv] at hrf
        injection hrf with e1 e2; subst e1; subst e2
        have HVV : Hid (Sp.rdV xs f aa pp = .bad q1 e1) := hv
        clear hv
        go_wp2_with fail
        refine (HX.out.2.2.2.2 b a cap aa pp _ _ wr _ (by omega) HBL.out.1 HVV.out).mono ?_
        rintro e w4 ⟨rfl, hb4⟩
        exact ⟨rfl, rfl, HBL.out.2.trans hb4⟩
      | ok tp av =>
        obtain ⟨t, p1⟩ := tp
        rw [hv] at hrf
        simp only at hrf
        have HQ : Hid (Sp.rdL (Sp.rdV xs f) j av p1 = .bad q er) := by
          show _ = _
          cases hq : Sp.rdL (Sp.rdV xs f) j av p1 with
          | bad q2 e2 => rw [hq] at hrf; exact hrf
          | ok lp a3 => rw [hq] at hrf; simp at hrf
        have HVV : Hid (Sp.rdV xs f aa pp = .ok (t, p1) av) := hv
        clear hv hrf
        go_wp2_with fail
        refine (HX.out.2.1 b a cap aa pp t p1 av wr _ (by omega) HBL.out.1 HVV.out).mono ?_
        rintro e w4 ⟨rfl, hr4, hb4⟩
        have HR4 : Hid (Rdr w4 b a xs cap av p1 ∧ But b wr w4) := ⟨hr4, hb4⟩
        clear hr4 hb4
        go_wp2_with fail
        go_roundw
        case rel => exact ⟨k + 1, j, p1, av, by go_num, by omega, HQ.out, HR4.out.1, HBL.out.2.trans HR4.out.2⟩
        case measure => simp [intOf]; omega
set_option maxRecDepth 100000 in
set_option maxHeartbeats 2000000 in
theorem bval_0 (k : Int) (hx : xs[at']? = some k) (k1 : k ≠ 1) (k2 : k ≠ 2) (k3 : k ≠ 3) (k4 : k ≠ 4) (k5 : k ≠ 5) (k6 : k ≠ 6) (k7 : k ≠ 7) (k8 : k ≠ 8) (k9 : k ≠ 9) (k10 : k ≠ 10) : Calls Try.prog 83 #[.pointer (some ⟨b, 0, none⟩), .int .i64 d] w fun x w' => x = Flt at' 30 ∧ But b w w' := by
  have b1 : (k == 1) = false := by simp [k1]
  have b2 : (k == 2) = false := by simp [k2]
  have b3 : (k == 3) = false := by simp [k3]
  have b4 : (k == 4) = false := by simp [k4]
  have b5 : (k == 5) = false := by simp [k5]
  have b6 : (k == 6) = false := by simp [k6]
  have b7 : (k == 7) = false := by simp [k7]
  have b8 : (k == 8) = false := by simp [k8]
  have b9 : (k == 9) = false := by simp [k9]
  have b10 : (k == 10) = false := by simp [k10]
  clear k1 k2 k3 k4 k5 k6 k7 k8 k9 k10
  have HK : Hid (Calls Try.prog 110 #[.pointer (some ⟨b, 0, none⟩), .int .i64 d] w fun e w' => e = .returned (.int .u8 k) ∧ Rdr w' b a xs cap (at' + 1) (p + 1) ∧ But b w w') := kind_ok k d b a xs cap at' p w h hx hp hd
  obtain ⟨c0, c1, c2, f1, f2, rd, cp, ln, le, np⟩ := h
  clear rd hx
  go_enter Try.func83, Try.ntmps83
  go_wp2_with fail
  refine HK.out.mono ?_
  rintro e w1 ⟨rfl, hr1, hb1⟩
  have HR1 : Hid (Rdr w1 b a xs cap (at' + 1) (p + 1) ∧ But b w w1) := ⟨hr1, hb1⟩
  clear hr1 hb1 HK
  go_wp2_with fail
  exact ⟨rfl, rfl, HR1.out.2⟩
end
end Go.Proofs.Ytmmiiapfefmcjaa

