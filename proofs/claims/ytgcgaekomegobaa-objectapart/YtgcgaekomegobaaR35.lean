/- Ask of a Thing for a name that it has; New; ID; tenonlaw10.told. -/
import Derived.Test.YtgcgaekomegobaaR27
import Derived.Test.YtgcgaekomegobaaR33
import Derived.Test.YtgcgaekomegobaaR34
namespace Go.Proofs.Ytgcgaekomegobaa
open Go.RowKit

set_option maxRecDepth 100000 in
set_option maxHeartbeats 2000000 in
theorem got_th (b : Nat) (id : Int) (L : TmF) (J : Nat) (nm : ByteArray) (t : Tm) (w : World) (hT : Th w b id L) (hu : Sp.up L.names) (hg : L.gd) (hl : L.len ≤ 4096) (hJ : L.nth J = some (nm, t)) :
    Calls Try.prog 38 #[.iface 29 (.pointer (some ⟨b, 0, none⟩)), .string nm] w fun e w' => ∃ v, e = .returned (.tuple #[v, .bool true, .int .i64 0]) ∧ Below w.heap.size w w' ∧ t.V w' (Fr w w') v := by
  have hmf : ∀ (fn : Fn) (first cap : Array Value) (w : World), (Instr.makeFunc fn first cap).run Try.prog w = .ok (.func fn first cap) w := fun _ _ _ _ => rfl
  have HS : Hid (∀ W, W = _ → _) := fun W hW => got_safe_th b id L J nm t w W hT hu hg hl hJ hW
  have HC : Hid (∀ W v, t.V W (Lo W.heap.size) v → Calls Try.prog 21 #[v] W fun e w' => ∃ v', e = .returned (.tuple #[v', .int .i64 0]) ∧ Below W.heap.size W w' ∧ t.V w' (Fr W w') v') := fun W v hv => Copy_ok t v W.heap.size W (Nat.le_refl _) hv (L.nth_gd J nm t hg hJ)
  clear hT hu hg hl hJ
  go_enter Try.func38, Try.ntmps38
  go_wp2_with fail
  refine (HS.out _ rfl).mono ?_
  rintro e w1 ⟨rfl, v, c2, c3, hb1, hv⟩
  have HB1 : Hid (Below w.heap.size w w1 ∧ t.V w1 (Lo w1.heap.size) v) := ⟨hb1, hv⟩
  replace c2 : w1.cell? ⟨w.heap.size + 1 + 1, 0, none⟩ = some v := c2
  replace c3 : w1.cell? ⟨w.heap.size + 1 + 1 + 1, 0, none⟩ = some (.bool true) := c3
  clear hb1 hv HS
  go_wp2_with fail
  refine (HC.out _ _ HB1.out.2).mono ?_
  rintro e w2 ⟨v', rfl, hb2, hv2⟩
  have HR : Hid (Below w.heap.size w w2 ∧ t.V w2 (Fr w w2) v') := ⟨HB1.out.1.trans (hb2.mono HB1.out.1.size), t.V_same (Same.refl _ _) (fun k hk => ⟨Nat.le_trans HB1.out.1.size hk.1, hk.2⟩) v' hv2⟩
  clear hb2 hv2 c2 c3
  go_wp2_with fail
  go_ret3
  exact ⟨v', rfl, HR.out⟩

set_option maxRecDepth 100000 in
set_option maxHeartbeats 2000000 in
theorem Ask_th (b : Nat) (id : Int) (L : TmF) (J : Nat) (nm : ByteArray) (t : Tm) (w : World) (hT : Th w b id L) (hu : Sp.up L.names) (hg : L.gd) (hl : L.len ≤ 4096) (hJ : L.nth J = some (nm, t)) (hn : Sp.isNm nm = true) :
    Calls Try.prog 18 #[.iface 29 (.pointer (some ⟨b, 0, none⟩)), .string nm] w fun e w' => ∃ v, e = .returned (.tuple #[v, .bool true, .int .i64 0]) ∧ Below w.heap.size w w' ∧ t.V w' (Fr w w') v := by
  have hsz : nm.size ≤ 32 := by simp [Sp.isNm] at hn; omega
  have HS : Hid (∀ W, Calls Try.prog 35 #[.iface 29 (.pointer (some ⟨b, 0, none⟩))] W fun e w' => e = .returned (.int .i64 0) ∧ W = w') := fun W => holds_thing _ W
  have HN : Hid (∀ W, Calls Try.prog 36 #[.string nm] W fun e w' => e = .returned (.bool true) ∧ W = w') := fun W => by have := isName_any nm W (by unfold maxLen; omega); rw [hn] at this; exact this
  have HL : Hid (∀ W, Calls Try.prog 37 #[.iface 29 (.pointer (some ⟨b, 0, none⟩))] W fun e w' => e = .returned (.int .i64 0) ∧ Below W.heap.size W w') := fun W => Load_thing b W
  have HG : Hid (∀ W, Th W b id L → Calls Try.prog 38 #[.iface 29 (.pointer (some ⟨b, 0, none⟩)), .string nm] W fun e w' => ∃ v, e = .returned (.tuple #[v, .bool true, .int .i64 0]) ∧ Below W.heap.size W w' ∧ t.V w' (Fr W w') v) := fun W h => got_th b id L J nm t W h hu hg hl hJ
  have HT : Hid (Th w b id L) := hT
  clear hT hu hg hl hJ hn hsz
  go_enter Try.func18, Try.ntmps18
  go_wp2_with (first | (go_at_call 35; refine (HS.out _).mono ?_; rintro e w' ⟨rfl, rfl⟩) | (go_at_call 36; refine (HN.out _).mono ?_; rintro e w' ⟨rfl, rfl⟩))
  refine (HL.out _).mono ?_
  rintro e w1 ⟨rfl, hb1⟩
  have HB1 : Hid (Below w.heap.size w w1) := hb1
  clear hb1
  go_wp2_with fail
  refine (HG.out _ (HT.out.keep HB1.out)).mono ?_
  rintro e w2 ⟨v', rfl, hb2, hv2⟩
  have HR : Hid (Below w.heap.size w w2 ∧ t.V w2 (Fr w w2) v') := ⟨HB1.out.trans (hb2.mono HB1.out.size), t.V_same (Same.refl _ _) (fun k hk => ⟨Nat.le_trans HB1.out.size hk.1, hk.2⟩) v' hv2⟩
  clear hb2 hv2
  go_wp2_with fail
  go_ret3
  exact ⟨v', rfl, HR.out⟩

set_option maxRecDepth 100000 in
set_option maxHeartbeats 2000000 in
theorem New_ok (id : Int) (L : TmF) (a : Option Addr) (cap : Nat) (w : World) (hi : (id == 0) = false) (hL : L.LV w (Lo w.heap.size) a cap) (he : (dctT L).all.e = 0) :
    Calls Try.prog 6 #[.int .u64 id, .slice a L.len cap] w fun e w' => ∃ b, e = .returned (.tuple #[.pointer (some ⟨b, 0, none⟩), .int .i64 0]) ∧ Below w.heap.size w w' ∧ Th w' b id L := by
  have HC : Hid (Calls Try.prog 21 #[.iface 27 (.slice a L.len cap)] w fun e w' => ∃ a' cap', e = .returned (.tuple #[.iface 27 (.slice a' L.len cap'), .int .i64 0]) ∧ Below w.heap.size w w' ∧ L.LV w' (Lo w'.heap.size) a' cap') := by
    refine (Copy_ok (dctT L) _ w.heap.size w (Nat.le_refl _) (Tm.V_of9 hL) he).mono ?_
    rintro e w' ⟨v', rfl, hb, hv⟩
    simp only [dctT, Tm.V] at hv
    obtain ⟨_, _, _, _, _, _, _, _, h9, _⟩ := hv
    obtain ⟨a', cap', rfl, h1, h2⟩ := h9 trivial
    exact ⟨a', cap', rfl, hb, L.LV_same (Same.refl _ _) (fun k hk => hk.2) a' cap' ⟨h1, h2⟩⟩
  clear hL he
  go_enter Try.func6, Try.ntmps6
  go_wp2_with fail
  refine HC.out.mono ?_
  rintro e w1 ⟨a', cap', rfl, hb1, hL1⟩
  have HB : Hid (Below w.heap.size w w1 ∧ L.LV w1 (Lo w1.heap.size) a' cap') := ⟨hb1, hL1⟩
  have HT : Hid (∀ T, Th (w1.alloc (.cells #[.int .u64 id, .slice a' L.len cap'] T)) w1.heap.size id L) := fun T =>
    ⟨by simp, a', cap', by simp, L.LV_same (fun k hk => Below.heap_alloc _ _ _ hk) (fun k hk => Nat.lt_of_lt_of_le hk (by simp)) a' cap' HB.out.2⟩
  clear hb1 hL1 HC
  go_wp2_with fail
  go_ret2
  exact ⟨_, rfl, HB.out.1.alloc HB.out.1.size _, HT.out _⟩

set_option maxRecDepth 100000 in
set_option maxHeartbeats 2000000 in
theorem New_zero (x : Value) (w : World) :
    Calls Try.prog 6 #[.int .u64 0, x] w fun e w' => e = .returned (.tuple #[.pointer none, .int .i64 1]) ∧ w = w' := by
  go_enter Try.func6, Try.ntmps6
  go_wp2_with fail
  go_ret2
  exact ⟨rfl, rfl⟩

set_option maxRecDepth 100000 in
set_option maxHeartbeats 2000000 in
theorem New_err (id : Int) (L : TmF) (a : Option Addr) (cap : Nat) (w : World) (hi : (id == 0) = false) (hL : L.LV w (Lo w.heap.size) a cap) (he : (dctT L).all.e ≠ 0) :
    Calls Try.prog 6 #[.int .u64 id, .slice a L.len cap] w fun e w' => e = .returned (.tuple #[.pointer none, .int .i64 (dctT L).all.e]) ∧ Below w.heap.size w w' := by
  have HC : Hid (Calls Try.prog 21 #[.iface 27 (.slice a L.len cap)] w fun e w' => e = .returned (.tuple #[.nilIface, .int .i64 (dctT L).all.e]) ∧ Below w.heap.size w w') := Copy_err (dctT L) _ w.heap.size w (Nat.le_refl _) (Tm.V_of9 hL) he
  have hb : ((dctT L).all.e != 0) = true := by simp [he]
  clear hL he
  generalize (dctT L).all.e = q at HC hb ⊢
  go_enter Try.func6, Try.ntmps6
  go_wp2_with fail
  refine HC.out.mono ?_
  rintro e w1 ⟨rfl, hb1⟩
  have HB : Hid (Below w.heap.size w w1) := hb1
  clear hb1 HC
  go_wp2_with fail
  go_ret2
  exact ⟨rfl, HB.out⟩

set_option maxRecDepth 100000 in
set_option maxHeartbeats 2000000 in
theorem ID_th (b : Nat) (id : Int) (w : World) (hc : w.cell? ⟨b, 0, none⟩ = some (.int .u64 id)) :
    Calls Try.prog 13 #[.pointer (some ⟨b, 0, none⟩)] w fun e w' => e = .returned (.int .u64 id) ∧ w = w' := by
  have hq : ∀ W, (binOp .eql 29 (.pointer (some ⟨b, 0, none⟩)) (.pointer none)).run Try.prog W = .ok (.bool false) W := fun W => by kernel_rfl
  have hgq : ∀ x y W, (eqGuard .eql 29 x y (.pointer (some ⟨b, 0, none⟩)) (.pointer none)).run Try.prog W = .ok () W := fun x y W => by kernel_rfl
  go_enter Try.func13, Try.ntmps13
  go_wp2_with fail
  go_ret
  exact ⟨rfl, rfl⟩

set_option maxRecDepth 100000 in
set_option maxHeartbeats 2000000 in
theorem told_any (t : Tm) (v : Value) (k : Int) (b' : Bool) (i : Int) (f : Nat) (tx : ByteArray) (ab : Option Addr) (nb cb : Nat) (rf : Int) (al : Option Addr) (nl cl : Nat) (af : Option Addr) (nf cf : Nat) (c : ByteArray) (vr : Int) (w : World) (hv : t.V w (Lo w.heap.size) v) (hi : t.clean.In w (Lo w.heap.size) (tcells k b' i f tx (.slice ab nb cb) rf (.slice al nl cl) (.slice af nf cf) c vr)) (he : t.all.e = 0) :
    Calls Try.prog 19 #[v, .agg (tcells k b' i f tx (.slice ab nb cb) rf (.slice al nl cl) (.slice af nf cf) c vr)] w fun e w' => e = .returned (.bool true) ∧ Below w.heap.size w w' := by
  have HI : Hid (∀ W, Below w.heap.size w W → Calls Try.prog 15 #[v, .agg (tcells k b' i f tx (.slice ab nb cb) rf (.slice al nl cl) (.slice af nf cf) c vr)] W fun e w' => e = .returned (.bool true) ∧ Below W.heap.size W w') := fun W hW =>
    Is_any t.clean v _ W (Lo W.heap.size) (Tm.V_clean t v (t.V_same (Same.of_below hW (Nat.le_refl _)) (fun k hk => Nat.lt_of_lt_of_le hk hW.size) v hv)) (t.clean.In_same (Same.of_below hW (Nat.le_refl _)) (fun k hk => Nat.lt_of_lt_of_le hk hW.size) _ hi) (fun _ h => h) (by rw [Tm.clean_all]; exact he)
  clear hv hi he
  unfold tcells at HI ⊢
  go_enter Try.func19, Try.ntmps19
  go_wp2_with fail
  refine (HI.out _ ((Below.refl _ _).alloc (Nat.le_refl _) _)).mono ?_
  rintro e w1 ⟨rfl, hb1⟩
  have HB : Hid (Below w.heap.size w w1) := ((Below.refl _ _).alloc (Nat.le_refl _) _).trans (hb1.mono (by simp))
  clear hb1 HI
  go_wp2_with fail
  go_ret
  exact ⟨rfl, HB.out⟩
end Go.Proofs.Ytgcgaekomegobaa

