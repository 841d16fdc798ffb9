/- Making a value of bytes that were looked at: the kinds without parts. -/
import Derived.Test.YtmmiiapfefmcjaaJ15
namespace Go.Proofs.Ytmmiiapfefmcjaa
open Go.RowKit

theorem byte_txt {l : List Int} {j : Nat} (hj : j < l.length) (hb : By l) : Sp.byte (Sp.txt l) j = l[j] := by
  have h := hb.get (List.getElem?_eq_getElem hj)
  simp [Sp.byte, Sp.txt, strOfNums, Array.getD, hj]
  omega
theorem bytesAt_rd {w : World} {B : Nat → Prop} {a : Option Addr} {l : List Int} (h : RdB w B a l) (hb : By l) : BytesAt w B a (Sp.txt l) := fun j hj => by
  have hj' : j < l.length := by rw [txt_size] at hj; exact hj
  obtain ⟨g, o, e, hg, hc⟩ := h j l[j] (List.getElem?_eq_getElem hj')
  exact ⟨g, o, e, hg, by rw [hc, byte_txt hj' hb]⟩
section
variable (b : Nat) (a : Option Addr) (xs : List Int) (cap at' p : Nat) (w : World) (h : Rdr w b a xs cap at' p)
include h
set_option maxRecDepth 100000 in
set_option maxHeartbeats 2000000 in
theorem made_1 (hx : xs[at']? = some 1) : Calls Try.prog 48 #[.pointer (some ⟨b, 0, none⟩)] w fun e w' => e = .returned (.nilIface) ∧ Rdr w' b a xs cap (at' + 1) p ∧ But b w w' := by
  have HB : Hid (Calls Try.prog 84 #[.pointer (some ⟨b, 0, none⟩)] w fun e w' => e = .returned (.int .u8 1) ∧ Rdr w' b a xs cap (at' + 1) p ∧ But b w w') := rbyte_ok 1 b a xs cap at' p w h hx
  clear h hx
  go_enter Try.func48, Try.ntmps48
  go_wp2_with fail
  refine HB.out.mono ?_
  rintro e w1 ⟨rfl, hr1, hb1⟩
  have HR1 : Hid (Rdr w1 b a xs cap (at' + 1) p ∧ But b w w1) := ⟨hr1, hb1⟩
  clear hr1 hb1 HB
  go_wp2_with fail
  go_ret
  exact ⟨rfl, HR1.out⟩
set_option maxRecDepth 100000 in
set_option maxHeartbeats 2000000 in
theorem made_2 (hx : xs[at']? = some 2) (c : Int) (hc : xs[at' + 1]? = some c) : Calls Try.prog 48 #[.pointer (some ⟨b, 0, none⟩)] w fun e w' => e = .returned (.iface 4 (.bool (c == 1))) ∧ Rdr w' b a xs cap (at' + 2) p ∧ But b w w' := by
  have HX : Hid (xs[at' + 1]? = some c) := hc
  have HB : Hid (Calls Try.prog 84 #[.pointer (some ⟨b, 0, none⟩)] w fun e w' => e = .returned (.int .u8 2) ∧ Rdr w' b a xs cap (at' + 1) p ∧ But b w w') := rbyte_ok 2 b a xs cap at' p w h hx
  clear h hx hc
  go_enter Try.func48, Try.ntmps48
  go_wp2_with fail
  refine HB.out.mono ?_
  rintro e w1 ⟨rfl, hr1, hb1⟩
  have HR1 : Hid (Rdr w1 b a xs cap (at' + 1) p ∧ But b w w1) := ⟨hr1, hb1⟩
  clear hr1 hb1 HB
  go_wp2_with fail
  refine (rbyte_ok c b a xs cap (at' + 1) p w1 HR1.out.1 HX.out).mono ?_
  rintro e w2 ⟨rfl, hr2, hb2⟩
  have HR2 : Hid (Rdr w2 b a xs cap (at' + 2) p ∧ But b w1 w2) := ⟨hr2, hb2⟩
  clear hr2 hb2
  go_wp2_with fail
  go_ret
  exact ⟨rfl, HR2.out.1, HR1.out.2.trans HR2.out.2⟩
set_option maxRecDepth 100000 in
set_option maxHeartbeats 2000000 in
theorem made_3 (hx : xs[at']? = some 3) (hby : By xs) (n a2 : Nat) (hn : Sp.rn xs (at' + 1) 10 0 0 = .ok n a2) (hl : n < 18446744073709551616) : Calls Try.prog 48 #[.pointer (some ⟨b, 0, none⟩)] w fun e w' => e = .returned ((.iface 2 (.int .i64 (Sp.unfold' n)))) ∧ Rdr w' b a xs cap a2 p ∧ But b w w' := by
  have HX : Hid (By xs ∧ Sp.rn xs (at' + 1) 10 0 0 = .ok n a2 ∧ n < 18446744073709551616) := ⟨hby, hn, hl⟩
  have HB : Hid (Calls Try.prog 84 #[.pointer (some ⟨b, 0, none⟩)] w fun e w' => e = .returned (.int .u8 3) ∧ Rdr w' b a xs cap (at' + 1) p ∧ But b w w') := rbyte_ok 3 b a xs cap at' p w h hx
  clear h hx hby hn hl
  go_enter Try.func48, Try.ntmps48
  go_wp2_with fail
  refine HB.out.mono ?_
  rintro e w1 ⟨rfl, hr1, hb1⟩
  have HR1 : Hid (Rdr w1 b a xs cap (at' + 1) p ∧ But b w w1) := ⟨hr1, hb1⟩
  clear hr1 hb1 HB
  go_wp2_with fail
  refine (rnumber_ok n a2 b a xs cap (at' + 1) p w1 HR1.out.1 HX.out.1 HX.out.2.1).mono ?_
  rintro e w2 ⟨rfl, hr2, hb2⟩
  have HR2 : Hid (Rdr w2 b a xs cap a2 p ∧ But b w1 w2) := ⟨hr2, hb2⟩
  clear hr2 hb2
  go_wp2_with fail
  refine (unfolded_any n w2 HX.out.2.2).mono ?_
  rintro e w3 ⟨rfl, rfl⟩
  go_wp2_with fail
  go_ret
  exact ⟨rfl, HR2.out.1, HR1.out.2.trans HR2.out.2⟩
set_option maxRecDepth 100000 in
set_option maxHeartbeats 2000000 in
theorem made_7 (hx : xs[at']? = some 7) (hby : By xs) (n a2 : Nat) (hn : Sp.rn xs (at' + 1) 10 0 0 = .ok n a2) : Calls Try.prog 48 #[.pointer (some ⟨b, 0, none⟩)] w fun e w' => e = .returned ((.iface 25 (.int .u64 (n : Int)))) ∧ Rdr w' b a xs cap a2 p ∧ But b w w' := by
  have HX : Hid (By xs ∧ Sp.rn xs (at' + 1) 10 0 0 = .ok n a2) := ⟨hby, hn⟩
  have HB : Hid (Calls Try.prog 84 #[.pointer (some ⟨b, 0, none⟩)] w fun e w' => e = .returned (.int .u8 7) ∧ Rdr w' b a xs cap (at' + 1) p ∧ But b w w') := rbyte_ok 7 b a xs cap at' p w h hx
  clear h hx hby hn
  go_enter Try.func48, Try.ntmps48
  go_wp2_with fail
  refine HB.out.mono ?_
  rintro e w1 ⟨rfl, hr1, hb1⟩
  have HR1 : Hid (Rdr w1 b a xs cap (at' + 1) p ∧ But b w w1) := ⟨hr1, hb1⟩
  clear hr1 hb1 HB
  go_wp2_with fail
  refine (rnumber_ok n a2 b a xs cap (at' + 1) p w1 HR1.out.1 HX.out.1 HX.out.2).mono ?_
  rintro e w2 ⟨rfl, hr2, hb2⟩
  have HR2 : Hid (Rdr w2 b a xs cap a2 p ∧ But b w1 w2) := ⟨hr2, hb2⟩
  clear hr2 hb2
  go_wp2_with fail
  go_ret
  exact ⟨rfl, HR2.out.1, HR1.out.2.trans HR2.out.2⟩
set_option maxRecDepth 100000 in
set_option maxHeartbeats 2000000 in
theorem made_4 (hx : xs[at']? = some 4) (hby : By xs) (hl : at' + 1 + 8 ≤ xs.length) : Calls Try.prog 48 #[.pointer (some ⟨b, 0, none⟩)] w fun e w' => e = .returned ((.iface 22 (.float .f64 (Sp.cat ((xs.drop (at' + 1)).take 8))))) ∧ Rdr w' b a xs cap (at' + 1 + 8) p ∧ But b w w' := by
  have HX : Hid (By xs ∧ at' + 1 + 8 ≤ xs.length) := ⟨hby, hl⟩
  have HB : Hid (Calls Try.prog 84 #[.pointer (some ⟨b, 0, none⟩)] w fun e w' => e = .returned (.int .u8 4) ∧ Rdr w' b a xs cap (at' + 1) p ∧ But b w w') := rbyte_ok 4 b a xs cap at' p w h hx
  clear h hx hby hl
  go_enter Try.func48, Try.ntmps48
  go_wp2_with fail
  refine HB.out.mono ?_
  rintro e w1 ⟨rfl, hr1, hb1⟩
  have HR1 : Hid (Rdr w1 b a xs cap (at' + 1) p ∧ But b w w1) := ⟨hr1, hb1⟩
  clear hr1 hb1 HB
  go_wp2_with fail
  refine (rbits_ok b a xs cap (at' + 1) p w1 HR1.out.1 HX.out.1 HX.out.2).mono ?_
  rintro e w2 ⟨rfl, hr2, hb2⟩
  have HR2 : Hid (Rdr w2 b a xs cap (at' + 1 + 8) p ∧ But b w1 w2) := ⟨hr2, hb2⟩
  clear hr2 hb2
  have hfb := frombits_run (Sp.cat ((xs.drop (at' + 1)).take 8)) w2
  go_wp2_with fail
  go_ret
  exact ⟨rfl, HR2.out.1, HR1.out.2.trans HR2.out.2⟩
set_option maxRecDepth 100000 in
set_option maxHeartbeats 2000000 in
theorem made_5 (hx : xs[at']? = some 5) (hby : By xs) (n a2 : Nat) (hn : Sp.rn xs (at' + 1) 10 0 0 = .ok n a2) (hl : a2 + n ≤ xs.length) : Calls Try.prog 48 #[.pointer (some ⟨b, 0, none⟩)] w fun e w' => e = .returned ((.iface 9 (.string (Sp.txt ((xs.drop a2).take n))))) ∧ Rdr w' b a xs cap (a2 + n) p ∧ But b w w' := by
  have HX : Hid (By xs ∧ Sp.rn xs (at' + 1) 10 0 0 = .ok n a2 ∧ a2 + n ≤ xs.length) := ⟨hby, hn, hl⟩
  have HB : Hid (Calls Try.prog 84 #[.pointer (some ⟨b, 0, none⟩)] w fun e w' => e = .returned (.int .u8 5) ∧ Rdr w' b a xs cap (at' + 1) p ∧ But b w w') := rbyte_ok 5 b a xs cap at' p w h hx
  clear h hx hby hn hl
  go_enter Try.func48, Try.ntmps48
  go_wp2_with fail
  refine HB.out.mono ?_
  rintro e w1 ⟨rfl, hr1, hb1⟩
  have HR1 : Hid (Rdr w1 b a xs cap (at' + 1) p ∧ But b w w1) := ⟨hr1, hb1⟩
  clear hr1 hb1 HB
  go_wp2_with fail
  refine (rtext_ok n a2 b a xs cap (at' + 1) p w1 HR1.out.1 HX.out.1 HX.out.2.1 HX.out.2.2).mono ?_
  rintro e w2 ⟨a7, cap7, rfl, hrd2, hr2, hb2⟩
  have HR2 : Hid (RdB w2 (Lo b) a7 ((xs.drop a2).take n) ∧ Rdr w2 b a xs cap (a2 + n) p ∧ But b w1 w2) := ⟨hrd2, hr2, hb2⟩
  clear hrd2 hr2 hb2
  have hcv : (convert 23 9 (.slice a7 n cap7)).run Try.prog w2 = .ok (.string (Sp.txt ((xs.drop a2).take n))) w2 := by
    have := conv_rd _ a7 cap7 (Lo b) w2 HR2.out.1
    rw [part_len HX.out.2.2] at this; exact this
  go_wp2_with fail
  go_ret
  exact ⟨rfl, HR2.out.2.1, HR1.out.2.trans HR2.out.2.2⟩
set_option maxRecDepth 100000 in
set_option maxHeartbeats 2000000 in
theorem made_6 (hx : xs[at']? = some 6) (hby : By xs) (n a2 : Nat) (hn : Sp.rn xs (at' + 1) 10 0 0 = .ok n a2) (hl : a2 + n ≤ xs.length) (hm : n ≤ 65536) : Calls Try.prog 48 #[.pointer (some ⟨b, 0, none⟩)] w fun e w' => ∃ a' cap', e = .returned ((.iface 23 (.slice a' (Sp.txt ((xs.drop a2).take n)).size cap'))) ∧ Rdr w' b a xs cap (a2 + n) p ∧ But b w w' ∧ BytesLV w' (Fr w w') a' (Sp.txt ((xs.drop a2).take n)) cap' := by
  have HX : Hid (By xs ∧ Sp.rn xs (at' + 1) 10 0 0 = .ok n a2 ∧ a2 + n ≤ xs.length) := ⟨hby, hn, hl⟩
  have HB : Hid (Calls Try.prog 84 #[.pointer (some ⟨b, 0, none⟩)] w fun e w' => e = .returned (.int .u8 6) ∧ Rdr w' b a xs cap (at' + 1) p ∧ But b w w') := rbyte_ok 6 b a xs cap at' p w h hx
  clear h hx hby hn hl
  go_enter Try.func48, Try.ntmps48
  go_wp2_with fail
  refine HB.out.mono ?_
  rintro e w1 ⟨rfl, hr1, hb1⟩
  have HR1 : Hid (Rdr w1 b a xs cap (at' + 1) p ∧ But b w w1) := ⟨hr1, hb1⟩
  clear hr1 hb1 HB
  go_wp2_with fail
  refine (rtext_ok n a2 b a xs cap (at' + 1) p w1 HR1.out.1 HX.out.1 HX.out.2.1 HX.out.2.2).mono ?_
  rintro e w2 ⟨a7, cap7, rfl, hrd2, hr2, hb2⟩
  have HR2 : Hid (RdB w2 (Lo b) a7 ((xs.drop a2).take n) ∧ Rdr w2 b a xs cap (a2 + n) p ∧ But b w1 w2) := ⟨hrd2, hr2, hb2⟩
  clear hrd2 hr2 hb2
  have hsz : (Sp.txt ((xs.drop a2).take n)).size = n := by rw [txt_size, part_len HX.out.2.2]
  have HCL : Hid (Calls Try.prog 57 #[.slice a7 n cap7] w2 fun e w' => ∃ a' cap', e = .returned (.slice a' n cap') ∧ Below w2.heap.size w2 w' ∧ BytesLV w' (Fr w2 w') a' (Sp.txt ((xs.drop a2).take n)) cap') := by
    have := bClone_any (Sp.txt ((xs.drop a2).take n)) a7 cap7 (Lo b) w2 (fun k hk => Nat.lt_trans hk HR2.out.2.1.lt) (bytesAt_rd HR2.out.1 (HX.out.1.part _ _)) (by rw [hsz]; omega)
    rw [hsz] at this
    exact this
  have HSZ : Hid ((Sp.txt ((xs.drop a2).take n)).size = n) := hsz
  clear hsz
  go_wp2_with fail
  refine HCL.out.mono ?_
  rintro e w3 ⟨a8, cap8, rfl, hb3, hlv⟩
  have HR3 : Hid (Below w2.heap.size w2 w3 ∧ BytesLV w3 (Fr w2 w3) a8 (Sp.txt ((xs.drop a2).take n)) cap8) := ⟨hb3, hlv⟩
  clear hb3 hlv HCL
  go_wp2_with fail
  go_ret
  have hB := HR1.out.2.trans HR2.out.2.2
  exact ⟨a8, cap8, by rw [HSZ.out]; rfl, HR2.out.2.1.call HR3.out.1, hB.call HR3.out.1, HR3.out.2.same (Same.refl _ _) (fun k hk => ⟨Nat.le_trans hB.size hk.1, hk.2⟩)⟩
end
end Go.Proofs.Ytmmiiapfefmcjaa

