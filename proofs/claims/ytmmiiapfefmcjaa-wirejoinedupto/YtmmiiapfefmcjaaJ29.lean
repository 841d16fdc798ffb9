/- The reader's value where nothing is wrong, kind by kind. -/
import Derived.Test.YtmmiiapfefmcjaaJ8
namespace Go.Proofs.Ytmmiiapfefmcjaa
open Go.RowKit

section
variable (d : Int) (b : Nat) (a : Option Addr) (xs : List Int) (cap at' p : Nat) (w : World) (h : Rdr w b a xs cap at' p) (hp : p < 16384) (hd : d ≤ 64)
include h hp hd
set_option maxRecDepth 100000 in
set_option maxHeartbeats 2000000 in
theorem dval_1 (hx : xs[at']? = some 1) : Calls Try.prog 83 #[.pointer (some ⟨b, 0, none⟩), .int .i64 d] w fun e w' => e = .returned (.tuple #[]) ∧ Rdr w' b a xs cap (at' + 1) (p + 1) ∧ But b w w' := by
  have HK : Hid (Calls Try.prog 110 #[.pointer (some ⟨b, 0, none⟩), .int .i64 d] w fun e w' => e = .returned (.int .u8 1) ∧ Rdr w' b a xs cap (at' + 1) (p + 1) ∧ But b w w') := kind_ok 1 d b a xs cap at' p w h hx hp hd
  obtain ⟨c0, c1, c2, f1, f2, rd, cp, ln, le, np⟩ := h
  clear rd hx
  go_enter Try.func83, Try.ntmps83
  go_wp2_with fail
  refine HK.out.mono ?_
  rintro e w1 ⟨rfl, hr1, hb1⟩
  have HR1 : Hid (Rdr w1 b a xs cap (at' + 1) (p + 1) ∧ But b w w1) := ⟨hr1, hb1⟩
  clear hr1 hb1 HK
  go_wp2_with fail
  go_end0
  exact ⟨rfl, HR1.out⟩
set_option maxRecDepth 100000 in
set_option maxHeartbeats 2000000 in
theorem dval_2 (hx : xs[at']? = some 2) (c : Int) (hc : xs[at' + 1]? = some c) (hc1 : c ≤ 1) : Calls Try.prog 83 #[.pointer (some ⟨b, 0, none⟩), .int .i64 d] w fun e w' => e = .returned (.tuple #[]) ∧ Rdr w' b a xs cap (at' + 2) (p + 1) ∧ But b w w' := by
  have HX : Hid (xs[at' + 1]? = some c) := hc
  have HK : Hid (Calls Try.prog 110 #[.pointer (some ⟨b, 0, none⟩), .int .i64 d] w fun e w' => e = .returned (.int .u8 2) ∧ Rdr w' b a xs cap (at' + 1) (p + 1) ∧ But b w w') := kind_ok 2 d b a xs cap at' p w h hx hp hd
  obtain ⟨c0, c1, c2, f1, f2, rd, cp, ln, le, np⟩ := h
  clear rd hx hc
  go_enter Try.func83, Try.ntmps83
  go_wp2_with fail
  refine HK.out.mono ?_
  rintro e w1 ⟨rfl, hr1, hb1⟩
  have HR1 : Hid (Rdr w1 b a xs cap (at' + 1) (p + 1) ∧ But b w w1) := ⟨hr1, hb1⟩
  clear hr1 hb1 HK
  go_wp2_with fail
  refine (rbool_ok c b a xs cap (at' + 1) (p + 1) w1 HR1.out.1 HX.out hc1).mono ?_
  rintro e w2 ⟨rfl, hr2, hb2⟩
  have HR2 : Hid (Rdr w2 b a xs cap (at' + 2) (p + 1) ∧ But b w1 w2) := ⟨hr2, hb2⟩
  clear hr2 hb2
  go_wp2_with fail
  go_end0
  exact ⟨rfl, HR2.out.1, HR1.out.2.trans HR2.out.2⟩
set_option maxRecDepth 100000 in
set_option maxHeartbeats 2000000 in
theorem dval_3 (hx : xs[at']? = some 3) (hby : By xs) (n a2 : Nat) (hn : Sp.rn xs (at' + 1) 10 0 0 = .ok n a2) : Calls Try.prog 83 #[.pointer (some ⟨b, 0, none⟩), .int .i64 d] w fun e w' => e = .returned (.tuple #[]) ∧ Rdr w' b a xs cap a2 (p + 1) ∧ But b w w' := by
  have HX : Hid (By xs ∧ Sp.rn xs (at' + 1) 10 0 0 = .ok n a2) := ⟨hby, hn⟩
  have HK : Hid (Calls Try.prog 110 #[.pointer (some ⟨b, 0, none⟩), .int .i64 d] w fun e w' => e = .returned (.int .u8 3) ∧ Rdr w' b a xs cap (at' + 1) (p + 1) ∧ But b w w') := kind_ok 3 d b a xs cap at' p w h hx hp hd
  obtain ⟨c0, c1, c2, f1, f2, rd, cp, ln, le, np⟩ := h
  clear rd hx hby hn
  go_enter Try.func83, Try.ntmps83
  go_wp2_with fail
  refine HK.out.mono ?_
  rintro e w1 ⟨rfl, hr1, hb1⟩
  have HR1 : Hid (Rdr w1 b a xs cap (at' + 1) (p + 1) ∧ But b w w1) := ⟨hr1, hb1⟩
  clear hr1 hb1 HK
  go_wp2_with fail
  refine (rnumber_ok n a2 b a xs cap (at' + 1) (p + 1) w1 HR1.out.1 HX.out.1 HX.out.2).mono ?_
  rintro e w2 ⟨rfl, hr2, hb2⟩
  have HR2 : Hid (Rdr w2 b a xs cap a2 (p + 1) ∧ But b w1 w2) := ⟨hr2, hb2⟩
  clear hr2 hb2
  go_wp2_with fail
  go_end0
  exact ⟨rfl, HR2.out.1, HR1.out.2.trans HR2.out.2⟩
set_option maxRecDepth 100000 in
set_option maxHeartbeats 2000000 in
theorem dval_7 (hx : xs[at']? = some 7) (hby : By xs) (n a2 : Nat) (hn : Sp.rn xs (at' + 1) 10 0 0 = .ok n a2) : Calls Try.prog 83 #[.pointer (some ⟨b, 0, none⟩), .int .i64 d] w fun e w' => e = .returned (.tuple #[]) ∧ Rdr w' b a xs cap a2 (p + 1) ∧ But b w w' := by
  have HX : Hid (By xs ∧ Sp.rn xs (at' + 1) 10 0 0 = .ok n a2) := ⟨hby, hn⟩
  have HK : Hid (Calls Try.prog 110 #[.pointer (some ⟨b, 0, none⟩), .int .i64 d] w fun e w' => e = .returned (.int .u8 7) ∧ Rdr w' b a xs cap (at' + 1) (p + 1) ∧ But b w w') := kind_ok 7 d b a xs cap at' p w h hx hp hd
  obtain ⟨c0, c1, c2, f1, f2, rd, cp, ln, le, np⟩ := h
  clear rd hx hby hn
  go_enter Try.func83, Try.ntmps83
  go_wp2_with fail
  refine HK.out.mono ?_
  rintro e w1 ⟨rfl, hr1, hb1⟩
  have HR1 : Hid (Rdr w1 b a xs cap (at' + 1) (p + 1) ∧ But b w w1) := ⟨hr1, hb1⟩
  clear hr1 hb1 HK
  go_wp2_with fail
  refine (rnumber_ok n a2 b a xs cap (at' + 1) (p + 1) w1 HR1.out.1 HX.out.1 HX.out.2).mono ?_
  rintro e w2 ⟨rfl, hr2, hb2⟩
  have HR2 : Hid (Rdr w2 b a xs cap a2 (p + 1) ∧ But b w1 w2) := ⟨hr2, hb2⟩
  clear hr2 hb2
  go_wp2_with fail
  go_end0
  exact ⟨rfl, HR2.out.1, HR1.out.2.trans HR2.out.2⟩
set_option maxRecDepth 100000 in
set_option maxHeartbeats 2000000 in
theorem dval_4 (hx : xs[at']? = some 4) (hl : at' + 1 + 8 ≤ xs.length) : Calls Try.prog 83 #[.pointer (some ⟨b, 0, none⟩), .int .i64 d] w fun e w' => e = .returned (.tuple #[]) ∧ Rdr w' b a xs cap (at' + 1 + 8) (p + 1) ∧ But b w w' := by
  have HX : Hid (at' + 1 + 8 ≤ xs.length) := hl
  have HK : Hid (Calls Try.prog 110 #[.pointer (some ⟨b, 0, none⟩), .int .i64 d] w fun e w' => e = .returned (.int .u8 4) ∧ Rdr w' b a xs cap (at' + 1) (p + 1) ∧ But b w w') := kind_ok 4 d b a xs cap at' p w h hx hp hd
  obtain ⟨c0, c1, c2, f1, f2, rd, cp, ln, le, np⟩ := h
  clear rd hx hl
  go_enter Try.func83, Try.ntmps83
  go_wp2_with fail
  refine HK.out.mono ?_
  rintro e w1 ⟨rfl, hr1, hb1⟩
  have HR1 : Hid (Rdr w1 b a xs cap (at' + 1) (p + 1) ∧ But b w w1) := ⟨hr1, hb1⟩
  clear hr1 hb1 HK
  go_wp2_with fail
  refine (take_ok 8 b a xs cap (at' + 1) (p + 1) w1 HR1.out.1 HX.out).mono ?_
  rintro e w2 ⟨_, _, rfl, _, hr2, hb2⟩
  have HR2 : Hid (Rdr w2 b a xs cap (at' + 1 + 8) (p + 1) ∧ But b w1 w2) := ⟨hr2, hb2⟩
  clear hr2 hb2
  go_wp2_with fail
  go_end0
  exact ⟨rfl, HR2.out.1, HR1.out.2.trans HR2.out.2⟩
set_option maxRecDepth 100000 in
set_option maxHeartbeats 2000000 in
theorem dval_5 (hx : xs[at']? = some 5) (hby : By xs) (n a2 : Nat) (hn : Sp.rn xs (at' + 1) 10 0 0 = .ok n a2) (hm : n ≤ 65536) (hl : a2 + n ≤ xs.length) : Calls Try.prog 83 #[.pointer (some ⟨b, 0, none⟩), .int .i64 d] w fun e w' => e = .returned (.tuple #[]) ∧ Rdr w' b a xs cap (a2 + n) (p + 1) ∧ But b w w' := by
  have HX : Hid (By xs ∧ Sp.rn xs (at' + 1) 10 0 0 = .ok n a2 ∧ n ≤ 65536 ∧ a2 + n ≤ xs.length) := ⟨hby, hn, hm, hl⟩
  have HK : Hid (Calls Try.prog 110 #[.pointer (some ⟨b, 0, none⟩), .int .i64 d] w fun e w' => e = .returned (.int .u8 5) ∧ Rdr w' b a xs cap (at' + 1) (p + 1) ∧ But b w w') := kind_ok 5 d b a xs cap at' p w h hx hp hd
  obtain ⟨c0, c1, c2, f1, f2, rd, cp, ln, le, np⟩ := h
  clear rd hx hby hn hl
  go_enter Try.func83, Try.ntmps83
  go_wp2_with fail
  refine HK.out.mono ?_
  rintro e w1 ⟨rfl, hr1, hb1⟩
  have HR1 : Hid (Rdr w1 b a xs cap (at' + 1) (p + 1) ∧ But b w w1) := ⟨hr1, hb1⟩
  clear hr1 hb1 HK
  go_wp2_with fail
  refine (count_ok n a2 at' 65536 b a xs cap (at' + 1) (p + 1) w1 HR1.out.1 HX.out.1 HX.out.2.1 HX.out.2.2.1 (by decide)).mono ?_
  rintro e w3 ⟨rfl, hr3, hb3⟩
  have HR3 : Hid (Rdr w3 b a xs cap a2 (p + 1) ∧ But b w1 w3) := ⟨hr3, hb3⟩
  clear hr3 hb3
  go_wp2_with fail
  refine (take_ok n b a xs cap a2 (p + 1) w3 HR3.out.1 HX.out.2.2.2).mono ?_
  rintro e w2 ⟨_, _, rfl, _, hr2, hb2⟩
  have HR2 : Hid (Rdr w2 b a xs cap (a2 + n) (p + 1) ∧ But b w3 w2) := ⟨hr2, hb2⟩
  clear hr2 hb2
  go_wp2_with fail
  go_end0
  exact ⟨rfl, HR2.out.1, HR1.out.2.trans (HR3.out.2.trans HR2.out.2)⟩
set_option maxRecDepth 100000 in
set_option maxHeartbeats 2000000 in
theorem dval_6 (hx : xs[at']? = some 6) (hby : By xs) (n a2 : Nat) (hn : Sp.rn xs (at' + 1) 10 0 0 = .ok n a2) (hm : n ≤ 65536) (hl : a2 + n ≤ xs.length) : Calls Try.prog 83 #[.pointer (some ⟨b, 0, none⟩), .int .i64 d] w fun e w' => e = .returned (.tuple #[]) ∧ Rdr w' b a xs cap (a2 + n) (p + 1) ∧ But b w w' := by
  have HX : Hid (By xs ∧ Sp.rn xs (at' + 1) 10 0 0 = .ok n a2 ∧ n ≤ 65536 ∧ a2 + n ≤ xs.length) := ⟨hby, hn, hm, hl⟩
  have HK : Hid (Calls Try.prog 110 #[.pointer (some ⟨b, 0, none⟩), .int .i64 d] w fun e w' => e = .returned (.int .u8 6) ∧ Rdr w' b a xs cap (at' + 1) (p + 1) ∧ But b w w') := kind_ok 6 d b a xs cap at' p w h hx hp hd
  obtain ⟨c0, c1, c2, f1, f2, rd, cp, ln, le, np⟩ := h
  clear rd hx hby hn hl
  go_enter Try.func83, Try.ntmps83
  go_wp2_with fail
  refine HK.out.mono ?_
  rintro e w1 ⟨rfl, hr1, hb1⟩
  have HR1 : Hid (Rdr w1 b a xs cap (at' + 1) (p + 1) ∧ But b w w1) := ⟨hr1, hb1⟩
  clear hr1 hb1 HK
  go_wp2_with fail
  refine (count_ok n a2 at' 65536 b a xs cap (at' + 1) (p + 1) w1 HR1.out.1 HX.out.1 HX.out.2.1 HX.out.2.2.1 (by decide)).mono ?_
  rintro e w3 ⟨rfl, hr3, hb3⟩
  have HR3 : Hid (Rdr w3 b a xs cap a2 (p + 1) ∧ But b w1 w3) := ⟨hr3, hb3⟩
  clear hr3 hb3
  go_wp2_with fail
  refine (take_ok n b a xs cap a2 (p + 1) w3 HR3.out.1 HX.out.2.2.2).mono ?_
  rintro e w2 ⟨_, _, rfl, _, hr2, hb2⟩
  have HR2 : Hid (Rdr w2 b a xs cap (a2 + n) (p + 1) ∧ But b w3 w2) := ⟨hr2, hb2⟩
  clear hr2 hb2
  go_wp2_with fail
  go_end0
  exact ⟨rfl, HR2.out.1, HR1.out.2.trans (HR3.out.2.trans HR2.out.2)⟩
set_option maxRecDepth 100000 in
set_option maxHeartbeats 2000000 in
theorem dval_9 (hx : xs[at']? = some 9) (hby : By xs) (f : Nat) (HC : VC xs f) (hdf : d + 1 = 65 - (f : Int)) (hf : f ≤ 64) (L : TmF) (p2 a2 : Nat) (hr : Sp.rdD xs at' (Sp.rdV xs f) (at' + 1) (p + 1) = .ok (L, p2) a2) : Calls Try.prog 83 #[.pointer (some ⟨b, 0, none⟩), .int .i64 d] w fun e w' => e = .returned (.tuple #[]) ∧ Rdr w' b a xs cap a2 p2 ∧ But b w w' := by
  have HX : Hid (By xs ∧ VC xs f ∧ Sp.rdD xs at' (Sp.rdV xs f) (at' + 1) (p + 1) = .ok (L, p2) a2) := ⟨hby, HC, hr⟩
  have HK : Hid (Calls Try.prog 110 #[.pointer (some ⟨b, 0, none⟩), .int .i64 d] w fun e w' => e = .returned (.int .u8 9) ∧ Rdr w' b a xs cap (at' + 1) (p + 1) ∧ But b w w') := kind_ok 9 d b a xs cap at' p w h hx hp hd
  obtain ⟨c0, c1, c2, f1, f2, rd, cp, ln, le, np⟩ := h
  clear rd hx hby HC hr
  go_enter Try.func83, Try.ntmps83
  go_wp2_with fail
  refine HK.out.mono ?_
  rintro e w1 ⟨rfl, hr1, hb1⟩
  have HR1 : Hid (Rdr w1 b a xs cap (at' + 1) (p + 1) ∧ But b w w1) := ⟨hr1, hb1⟩
  clear hr1 hb1 HK
  go_wp2_with fail
  refine (dfields_ok f xs HX.out.1 HX.out.2.1 at' d hdf hf b a cap (at' + 1) (p + 1) L p2 a2 w1 HR1.out.1 HX.out.2.2).mono ?_
  rintro e w2 ⟨rfl, hr2, hb2⟩
  have HR2 : Hid (Rdr w2 b a xs cap a2 p2 ∧ But b w1 w2) := ⟨hr2, hb2⟩
  clear hr2 hb2
  go_wp2_with fail
  go_end0
  exact ⟨rfl, HR2.out.1, HR1.out.2.trans HR2.out.2⟩
set_option maxRecDepth 100000 in
set_option maxHeartbeats 2000000 in
theorem dval_10 (hx : xs[at']? = some 10) (hby : By xs) (f : Nat) (HC : VC xs f) (hdf : d + 1 = 65 - (f : Int)) (hf : f ≤ 64) (L : TmF) (p2 a2 : Nat) (n a3 v a4 : Nat) (hn : Sp.rn xs (at' + 1) 10 0 0 = .ok n a3) (hn32 : n ≤ 32) (hl : a3 + n ≤ xs.length) (hnm : Sp.isNm (Sp.txt ((xs.drop a3).take n)) = true) (hv : Sp.rn xs (a3 + n) 10 0 0 = .ok v a4) (hv1 : 1 ≤ v ∧ v ≤ 1000) (hr : Sp.rdD xs at' (Sp.rdV xs f) a4 (p + 1) = .ok (L, p2) a2) : Calls Try.prog 83 #[.pointer (some ⟨b, 0, none⟩), .int .i64 d] w fun e w' => e = .returned (.tuple #[]) ∧ Rdr w' b a xs cap a2 p2 ∧ But b w w' := by
  have HX : Hid (By xs ∧ VC xs f ∧ Sp.rdD xs at' (Sp.rdV xs f) a4 (p + 1) = .ok (L, p2) a2) := ⟨hby, HC, hr⟩
  have HY : Hid (Sp.rn xs (at' + 1) 10 0 0 = .ok n a3 ∧ a3 + n ≤ xs.length ∧ Sp.isNm (Sp.txt ((xs.drop a3).take n)) = true ∧ Sp.rn xs (a3 + n) 10 0 0 = .ok v a4) := ⟨hn, hl, hnm, hv⟩
  have HK : Hid (Calls Try.prog 110 #[.pointer (some ⟨b, 0, none⟩), .int .i64 d] w fun e w' => e = .returned (.int .u8 10) ∧ Rdr w' b a xs cap (at' + 1) (p + 1) ∧ But b w w') := kind_ok 10 d b a xs cap at' p w h hx hp hd
  obtain ⟨c0, c1, c2, f1, f2, rd, cp, ln, le, np⟩ := h
  clear rd hx hby HC hr hn hl hnm hv
  go_enter Try.func83, Try.ntmps83
  go_wp2_with fail
  refine HK.out.mono ?_
  rintro e w1 ⟨rfl, hr1, hb1⟩
  have HR1 : Hid (Rdr w1 b a xs cap (at' + 1) (p + 1) ∧ But b w w1) := ⟨hr1, hb1⟩
  clear hr1 hb1 HK
  go_wp2_with fail
  refine (rname_ok n a3 at' b a xs cap (at' + 1) (p + 1) w1 HR1.out.1 HX.out.1 HY.out.1 hn32 HY.out.2.1 HY.out.2.2.1).mono ?_
  rintro e w3 ⟨_, _, rfl, _, hr3, hb3⟩
  have HR3 : Hid (Rdr w3 b a xs cap (a3 + n) (p + 1) ∧ But b w1 w3) := ⟨hr3, hb3⟩
  clear hr3 hb3
  go_wp2_with fail
  refine (version_ok v a4 at' b a xs cap (a3 + n) (p + 1) w3 HR3.out.1 HX.out.1 HY.out.2.2.2 hv1).mono ?_
  rintro e w4 ⟨rfl, hr4, hb4⟩
  have HR4 : Hid (Rdr w4 b a xs cap a4 (p + 1) ∧ But b w3 w4) := ⟨hr4, hb4⟩
  clear hr4 hb4
  go_wp2_with fail
  refine (dfields_ok f xs HX.out.1 HX.out.2.1 at' d hdf hf b a cap a4 (p + 1) L p2 a2 w4 HR4.out.1 HX.out.2.2).mono ?_
  rintro e w2 ⟨rfl, hr2, hb2⟩
  have HR2 : Hid (Rdr w2 b a xs cap a2 p2 ∧ But b w4 w2) := ⟨hr2, hb2⟩
  clear hr2 hb2
  go_wp2_with fail
  go_end0
  exact ⟨rfl, HR2.out.1, HR1.out.2.trans (HR3.out.2.trans (HR4.out.2.trans HR2.out.2))⟩
end
end Go.Proofs.Ytmmiiapfefmcjaa

