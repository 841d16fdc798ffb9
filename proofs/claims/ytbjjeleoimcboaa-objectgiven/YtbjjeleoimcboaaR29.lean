/- object.ownerOf, OwnerOf, answered, Give, of a made object that is owned. -/
import Derived.Test.YtbjjeleoimcboaaR10
import Derived.Test.YtbjjeleoimcboaaR28
namespace Go.Proofs.Ytbjjeleoimcboaa
open Go.RowKit

theorem Kc.step {c B : Nat} {w X Y : World} (h : Kc c w X) (hb : Below B X Y) (hB : w.heap.size ≤ B) : Kc c w Y := ⟨hb.os.trans h.os, hb.tape.trans h.tape, hb.output.trans h.output, Nat.le_trans h.size hb.size, fun j h1 h2 => (hb.block j (by omega)).trans (h.block j h1 h2)⟩

set_option maxRecDepth 100000 in
set_option maxHeartbeats 2000000 in
theorem ownerOf_1_any (T : Nat) (v : Value) (c p : Nat) (ow x : ByteArray) (gv : Int) (w : World) (hD : DxO T v c w) (hG : Cg w c ow gv) (hp : w.cell? ⟨p, 0, none⟩ = some (.iface T v)) (hq : w.cell? ⟨p + 1, 0, none⟩ = some (.string x)) (hz : w.frozen? ⟨p + 1, 0, none⟩ = false) (hn : c ≠ p + 1) :
    Calls Try.prog 42 #[.pointer (some ⟨p, 0, none⟩), .pointer (some ⟨p + 1, 0, none⟩)] w fun e w' => e = .returned (.tuple #[]) ∧ ∃ w1, Cg w1 c ow gv ∧ Kc c w w1 ∧ w' = w1.setCell ⟨p + 1, 0, none⟩ (.string ow) ∧ w1.cell? ⟨p + 1, 0, none⟩ = some (.string x) := by
  have hm := hD.own w (fun _ _ _ => rfl)
  have HO : Hid (Calls Try.prog 104 #[.agg #[.pointer (some ⟨c, 0, none⟩)]] w fun e w' => e = .returned (.string ow) ∧ Cg w' c ow gv ∧ Kc c w w') := Owner_any c ow gv w hG
  have hcf : ∀ W, Sem.run Try.prog (callFunc 104 #[.agg #[.pointer (some ⟨c, 0, none⟩)]]) W = .ok (.enter 104 #[.agg #[.pointer (some ⟨c, 0, none⟩)]]) W := fun W => by kernel_rfl
  have HL : Hid (p + 1 < w.heap.size ∧ c ≠ p + 1) := ⟨World.block_lt_of_cell? _ _ hq, hn⟩
  clear hD hG hn
  go_enter Try.func42, Try.ntmps42
  go_wp2_with fail
  refine HO.out.mono ?_
  rintro e w1 ⟨rfl, hg1, hk1⟩
  have hb := hk1.block (p + 1) HL.out.1 (fun e => HL.out.2 e.symm)
  have d1 : w1.cell? ⟨p + 1, 0, none⟩ = some (.string x) := by rw [World.cell?_of_block (w := w) hb]; exact hq
  have z1 : w1.frozen? ⟨p + 1, 0, none⟩ = false := by rw [World.frozen?_of_block (w := w) hb]; exact hz
  have HR : Hid (Cg w1 c ow gv ∧ Kc c w w1) := ⟨hg1, hk1⟩
  clear hg1 hk1 hb hp hq hz hm
  go_wp2_with fail
  go_end0
  exact ⟨rfl, w1, HR.out.1, HR.out.2, rfl, d1⟩

theorem ownerOf_safe (T : Nat) (v : Value) (c : Nat) (ow : ByteArray) (gv : Int) (w W : World) (hD : DxO T v c w) (hG : Cg w c ow gv) (hW : W = (w.alloc (.cells #[.iface T v] 65)).alloc (.cells #[.string ⟨#[]⟩] 9)) :
    Calls Try.prog 40 #[.func (.func 42) #[] #[.pointer (some ⟨w.heap.size, 0, none⟩), .pointer (some ⟨w.heap.size + 1, 0, none⟩)]] W fun e w' => e = .returned (.int .i64 0) ∧ w'.cell? ⟨w.heap.size + 1, 0, none⟩ = some (.string ow) ∧ Cg w' c ow gv ∧ Kc c w w' := by
  have hs : W.heap.size = w.heap.size + 2 := by subst hW; simp only [World.size_alloc]
  have hb : Below w.heap.size w W := by subst hW; exact ((Below.refl _ _).alloc (Nat.le_refl _) _).alloc (by simp) _
  have g0 : W.heap[w.heap.size]? = some (.cells #[.iface T v] 65) := by subst hW; exact al2_old _ _ _
  have g1 : W.heap[w.heap.size + 1]? = some (.cells #[.string ⟨#[]⟩] 9) := by subst hW; exact al2_new _ _ _
  have hc := hG.lt
  clear hW
  refine (safely_ok _ _ W (fun w' => w'.cell? ⟨w.heap.size + 1, 0, none⟩ = some (.string ow) ∧ Cg w' c ow gv ∧ Kc c w w') (fun W => by kernel_rfl) ?_ ?_)
  · intro X Y hXY ⟨h1, h2, h3⟩
    rw [hs] at hXY
    exact ⟨(hXY.cell (p := ⟨w.heap.size + 1, 0, none⟩) (by show w.heap.size + 1 < _; omega)).trans h1, h2.keep (hXY.block c (by omega)), h3.step hXY (by omega)⟩
  · intro W1 hb1 hs1
    rw [hs] at hb1 hs1
    have k0 := (hb1.block w.heap.size (by omega)).trans g0
    have k1 := (hb1.block (w.heap.size + 1) (by omega)).trans g1
    have hwb : Below w.heap.size w W1 := hb.trans (hb1.mono (by omega))
    refine (ownerOf_1_any T v c w.heap.size ow ⟨#[]⟩ gv W1 (hD.keep (fun j _ h2 => hwb.block j h2) hwb.size) (hG.keep (hwb.block c hc)) (by rw [cell_of_row _ _ 0 _ _ _ k0]; rfl) (by rw [cell_of_row _ _ 0 _ _ _ k1]; rfl) (frozen_of_row _ _ 0 _ _ k1) (by omega)).mono ?_
    rintro e w' ⟨rfl, w1, hg2, hk2, rfl, hx⟩
    refine ⟨.inl ⟨rfl, rfl, rfl⟩, ?_, ?_, ?_, ?_, ?_⟩
    · rw [hs]; exact (Below.heap_setCell _ _ _ _ (by show w.heap.size + 2 ≠ w.heap.size + 1; omega)).trans (hk2.block _ (by omega) (by omega))
    · rw [hs]; exact (Below.heap_setCell _ _ _ _ (by show w.heap.size + 2 + 1 ≠ w.heap.size + 1; omega)).trans (hk2.block _ (by omega) (by omega))
    · exact sc_eq' hx
    · exact hg2.keep (Below.heap_setCell _ _ _ _ (by show c ≠ w.heap.size + 1; omega))
    · exact ((Kc.of hwb).trans hk2).step ((Below.refl w.heap.size w1).setCell (p := ⟨w.heap.size + 1, 0, none⟩) (Nat.le_succ _) _) (Nat.le_refl _)

/-- what OwnerOf tells of an owner -/
def ownT (ow : ByteArray) : ByteArray := if Sp.isNm ow = true then ow else ⟨#[]⟩
def ownE (ow : ByteArray) : Int := if Sp.isNm ow = true then 0 else 8

set_option maxRecDepth 100000 in
set_option maxHeartbeats 2000000 in
theorem ownerOf_yes (T : Nat) (v : Value) (c : Nat) (ow : ByteArray) (gv : Int) (w : World) (hD : DxO T v c w) (hG : Cg w c ow gv) (hm : ow.size ≤ maxLen) (hb : Sp.isNm ow = true) :
    Calls Try.prog 30 #[.iface T v] w fun e w' => e = .returned (.tuple #[.string ow, .int .i64 0]) ∧ Cg w' c ow gv ∧ Kc c w w' := by
  have hmf : ∀ (fn : Fn) (first cap : Array Value) (w : World), (Instr.makeFunc fn first cap).run Try.prog w = .ok (.func fn first cap) w := fun _ _ _ _ => rfl
  have HS : Hid (∀ W, W = _ → _) := fun W hW => ownerOf_safe T v c ow gv w W hD hG hW
  have HN : Hid (∀ W, Calls Try.prog 31 #[.string ow] W fun e w' => e = .returned (.bool true) ∧ W = w') := fun W => by have := isName_any ow W hm; rw [hb] at this; exact this
  clear hD hG hm hb
  go_enter Try.func30, Try.ntmps30
  go_wp2_with fail
  refine (HS.out _ rfl).mono ?_
  rintro e w1 ⟨rfl, c1, hg1, hk1⟩
  have HR : Hid (Cg w1 c ow gv ∧ Kc c w w1) := ⟨hg1, hk1⟩
  clear hg1 hk1 HS
  go_wp2_with (go_at_call 31; refine (HN.out _).mono ?_; rintro e w' ⟨rfl, rfl⟩)
  go_ret2
  exact ⟨rfl, HR.out⟩

set_option maxRecDepth 100000 in
set_option maxHeartbeats 2000000 in
theorem ownerOf_no (T : Nat) (v : Value) (c : Nat) (ow : ByteArray) (gv : Int) (w : World) (hD : DxO T v c w) (hG : Cg w c ow gv) (hm : ow.size ≤ maxLen) (hb : Sp.isNm ow = false) :
    Calls Try.prog 30 #[.iface T v] w fun e w' => e = .returned (.tuple #[.string ⟨#[]⟩, .int .i64 8]) ∧ Cg w' c ow gv ∧ Kc c w w' := by
  have hmf : ∀ (fn : Fn) (first cap : Array Value) (w : World), (Instr.makeFunc fn first cap).run Try.prog w = .ok (.func fn first cap) w := fun _ _ _ _ => rfl
  have HS : Hid (∀ W, W = _ → _) := fun W hW => ownerOf_safe T v c ow gv w W hD hG hW
  have HN : Hid (∀ W, Calls Try.prog 31 #[.string ow] W fun e w' => e = .returned (.bool false) ∧ W = w') := fun W => by have := isName_any ow W hm; rw [hb] at this; exact this
  clear hD hG hm hb
  go_enter Try.func30, Try.ntmps30
  go_wp2_with fail
  refine (HS.out _ rfl).mono ?_
  rintro e w1 ⟨rfl, c1, hg1, hk1⟩
  have HR : Hid (Cg w1 c ow gv ∧ Kc c w w1) := ⟨hg1, hk1⟩
  clear hg1 hk1 HS
  go_wp2_with (go_at_call 31; refine (HN.out _).mono ?_; rintro e w' ⟨rfl, rfl⟩)
  go_ret2
  exact ⟨rfl, HR.out⟩

theorem ownerOf_any (T : Nat) (v : Value) (c : Nat) (ow : ByteArray) (gv : Int) (w : World) (hD : DxO T v c w) (hG : Cg w c ow gv) (hm : ow.size ≤ maxLen) :
    Calls Try.prog 30 #[.iface T v] w fun e w' => e = .returned (.tuple #[.string (ownT ow), .int .i64 (ownE ow)]) ∧ Cg w' c ow gv ∧ Kc c w w' := by
  cases hb : Sp.isNm ow
  · have := ownerOf_no T v c ow gv w hD hG hm hb
    simp only [ownT, ownE, hb, Bool.false_eq_true, if_false]
    exact this
  · have := ownerOf_yes T v c ow gv w hD hG hm hb
    simp only [ownT, ownE, hb, if_true]
    exact this

set_option maxRecDepth 100000 in
set_option maxHeartbeats 2000000 in
theorem OwnerOf_any (T n : Nat) (v : Value) (c : Nat) (ow : ByteArray) (gv : Int) (w : World) (hA : Ab T n) (hn : n.testBit 2 = true) (hT : T ≠ 55) (hD : DxO T v c w) (hG : Cg w c ow gv) (hm : ow.size ≤ maxLen) :
    Calls Try.prog 13 #[.iface T v] w fun e w' => e = .returned (.tuple #[.string (ownT ow), .bool true, .int .i64 (ownE ow)]) ∧ Cg w' c ow gv ∧ Kc c w w' := by
  have HS : Hid (∀ W, Calls Try.prog 25 #[.iface T v] W fun e w' => e = .returned (.int .i64 0) ∧ W = w') := fun W => holds_other T hT v W
  have HA : Hid (∀ W, Calls Try.prog 29 #[.iface T v] W fun e w' => e = .returned (.tuple #[.iface T v, .bool true]) ∧ W = w') := fun W => by have := as_Owned hA v W; rw [hn] at this; exact this
  have HO : Hid (Calls Try.prog 30 #[.iface T v] w fun e w' => e = .returned (.tuple #[.string (ownT ow), .int .i64 (ownE ow)]) ∧ Cg w' c ow gv ∧ Kc c w w') := ownerOf_any T v c ow gv w hD hG hm
  clear hA hn hT hD hG hm
  generalize ownT ow = ot at HO ⊢
  generalize ownE ow = oe at HO ⊢
  go_enter Try.func13, Try.ntmps13
  go_wp2_with (first | (go_at_call 25; refine (HS.out _).mono ?_; rintro e w' ⟨rfl, rfl⟩) | (go_at_call 29; refine (HA.out _).mono ?_; rintro e w' ⟨rfl, rfl⟩))
  refine HO.out.mono ?_
  rintro e w1 ⟨rfl, hg1, hk1⟩
  have HR : Hid (Cg w1 c ow gv ∧ Kc c w w1) := ⟨hg1, hk1⟩
  clear hg1 hk1 HO
  go_wp2_with fail
  go_ret3
  exact ⟨rfl, HR.out⟩
end Go.Proofs.Ytbjjeleoimcboaa

/- object.answered, Give, of a made object that is owned. -/
namespace Go.Proofs.Ytbjjeleoimcboaa
open Go.RowKit

set_option maxRecDepth 100000 in
set_option maxHeartbeats 2000000 in
theorem answered_1_any (f : Nat) (cap : Array Value) (k : Int) (p : Nat) (w : World) (Q : World → Prop) (hcf : ∀ W, Sem.run Try.prog (callFunc f cap) W = .ok (.enter f cap) W) (hp : w.cell? ⟨p, 0, none⟩ = some (.func (.func f) #[] cap)) (hq : w.cell? ⟨p + 1, 0, none⟩ = some (.int .i64 0)) (hz : w.frozen? ⟨p + 1, 0, none⟩ = false)
    (HC : Hid (Calls Try.prog f cap w fun e w' => e = .returned (.int .i64 k) ∧ w'.heap[p + 1]? = w.heap[p + 1]? ∧ Q w')) :
    Calls Try.prog 41 #[.pointer (some ⟨p, 0, none⟩), .pointer (some ⟨p + 1, 0, none⟩)] w fun e w' => e = .returned (.tuple #[]) ∧ ∃ w1, Q w1 ∧ w1.heap[p + 1]? = w.heap[p + 1]? ∧ w1.cell? ⟨p + 1, 0, none⟩ = some (.int .i64 0) ∧ w' = w1.setCell ⟨p + 1, 0, none⟩ (.int .i64 k) := by
  go_enter Try.func41, Try.ntmps41
  go_wp2_with fail
  refine HC.out.mono ?_
  rintro e w1 ⟨rfl, hb, hQ⟩
  have d1 : w1.cell? ⟨p + 1, 0, none⟩ = some (.int .i64 0) := by rw [World.cell?_of_block (w := w) hb]; exact hq
  have z1 : w1.frozen? ⟨p + 1, 0, none⟩ = false := by rw [World.frozen?_of_block (w := w) hb]; exact hz
  have HR : Hid (Q w1 ∧ w1.heap[p + 1]? = w.heap[p + 1]?) := ⟨hQ, hb⟩
  clear hb hQ hp hq hz HC
  go_wp2_with fail
  go_end0
  exact ⟨rfl, w1, HR.out.1, HR.out.2, d1, rfl⟩

theorem answered_safe (f : Nat) (cap : Array Value) (k : Int) (w W : World) (Q : World → Prop) (hcf : ∀ W, Sem.run Try.prog (callFunc f cap) W = .ok (.enter f cap) W) (hQ : ∀ X Y, Below w.heap.size X Y → Q X → Q Y)
    (HC : ∀ W1, Below w.heap.size w W1 → Calls Try.prog f cap W1 fun e w' => e = .returned (.int .i64 k) ∧ (∀ j, w.heap.size ≤ j → j < W1.heap.size → w'.heap[j]? = W1.heap[j]?) ∧ Q w')
    (hW : W = (w.alloc (.cells #[.func (.func f) #[] cap] 77)).alloc (.cells #[.int .i64 0] 22)) :
    Calls Try.prog 40 #[.func (.func 41) #[] #[.pointer (some ⟨w.heap.size, 0, none⟩), .pointer (some ⟨w.heap.size + 1, 0, none⟩)]] W fun e w' => e = .returned (.int .i64 0) ∧ w'.cell? ⟨w.heap.size + 1, 0, none⟩ = some (.int .i64 k) ∧ Q w' := by
  have hs : W.heap.size = w.heap.size + 2 := by subst hW; simp only [World.size_alloc]
  have hb : Below w.heap.size w W := by subst hW; exact ((Below.refl _ _).alloc (Nat.le_refl _) _).alloc (by simp) _
  have g0 : W.heap[w.heap.size]? = some (.cells #[.func (.func f) #[] cap] 77) := by subst hW; exact al2_old _ _ _
  have g1 : W.heap[w.heap.size + 1]? = some (.cells #[.int .i64 0] 22) := by subst hW; exact al2_new _ _ _
  clear hW
  refine (safely_ok _ _ W (fun w' => w'.cell? ⟨w.heap.size + 1, 0, none⟩ = some (.int .i64 k) ∧ Q w') (fun W => by kernel_rfl) ?_ ?_)
  · intro X Y hXY ⟨h1, h2⟩
    rw [hs] at hXY
    exact ⟨(hXY.cell (p := ⟨w.heap.size + 1, 0, none⟩) (by show w.heap.size + 1 < _; omega)).trans h1, hQ X Y (hXY.mono (by omega)) h2⟩
  · intro W1 hb1 hs1
    rw [hs] at hb1 hs1
    have k0 := (hb1.block w.heap.size (by omega)).trans g0
    have k1 := (hb1.block (w.heap.size + 1) (by omega)).trans g1
    have hwb : Below w.heap.size w W1 := hb.trans (hb1.mono (by omega))
    refine (answered_1_any f cap k w.heap.size W1 (fun w' => Q w' ∧ ∀ j, w.heap.size ≤ j → j < W1.heap.size → w'.heap[j]? = W1.heap[j]?) hcf (by rw [cell_of_row _ _ 0 _ _ _ k0]; rfl) (by rw [cell_of_row _ _ 0 _ _ _ k1]; rfl) (frozen_of_row _ _ 0 _ _ k1) ((HC W1 hwb).mono fun e w' ⟨h1, h2, h3⟩ => ⟨h1, h2 _ (by omega) (by omega), h3, h2⟩)).mono ?_
    rintro e w' ⟨rfl, w1, ⟨hq1, hk1⟩, hb2, hx, rfl⟩
    refine ⟨.inl ⟨rfl, rfl, rfl⟩, ?_, ?_, ?_, ?_⟩
    · rw [hs]; exact (Below.heap_setCell _ _ _ _ (by show w.heap.size + 2 ≠ w.heap.size + 1; omega)).trans (hk1 _ (by omega) (by omega))
    · rw [hs]; exact (Below.heap_setCell _ _ _ _ (by show w.heap.size + 2 + 1 ≠ w.heap.size + 1; omega)).trans (hk1 _ (by omega) (by omega))
    · exact sc_eq' hx
    · exact hQ _ _ ((Below.refl w.heap.size w1).setCell (p := ⟨w.heap.size + 1, 0, none⟩) (Nat.le_succ _) _) hq1

set_option maxRecDepth 100000 in
set_option maxHeartbeats 2000000 in
theorem answered_any (f : Nat) (cap : Array Value) (k : Int) (w : World) (Q : World → Prop) (hcf : ∀ W, Sem.run Try.prog (callFunc f cap) W = .ok (.enter f cap) W) (hQ : Hid (∀ X Y, Below w.heap.size X Y → Q X → Q Y))
    (HC : Hid (∀ W1, Below w.heap.size w W1 → Calls Try.prog f cap W1 fun e w' => e = .returned (.int .i64 k) ∧ (∀ j, w.heap.size ≤ j → j < W1.heap.size → w'.heap[j]? = W1.heap[j]?) ∧ Q w')) :
    Calls Try.prog 27 #[.func (.func f) #[] cap] w fun e w' => e = .returned (.int .i64 k) ∧ Q w' := by
  have hmf : ∀ (fn : Fn) (first cap : Array Value) (w : World), (Instr.makeFunc fn first cap).run Try.prog w = .ok (.func fn first cap) w := fun _ _ _ _ => rfl
  have HS : Hid (∀ W, W = _ → _) := fun W hW => answered_safe f cap k w W Q hcf hQ.out HC.out hW
  clear hcf hQ HC
  go_enter Try.func27, Try.ntmps27
  go_wp2_with fail
  refine (HS.out _ rfl).mono ?_
  rintro e w1 ⟨rfl, c1, hq1⟩
  have HQ : Hid (Q w1) := hq1
  clear hq1 HS
  go_wp2_with fail
  go_ret
  exact ⟨rfl, HQ.out⟩

/-- whose it is then -/
def ownG (ow to : ByteArray) (gv : Int) : ByteArray := if gv = 0 then to else ow
theorem GiveM_any (c : Nat) (ow to : ByteArray) (gv : Int) (w : World) (h : Cg w c ow gv) :
    Calls Try.prog 103 #[.agg #[.pointer (some ⟨c, 0, none⟩)], .string to] w fun e w' => e = .returned (.int .i64 gv) ∧ Cg w' c (ownG ow to gv) gv ∧ Kc c w w' := by
  by_cases hg : gv = 0
  · subst hg; exact GiveM_yes c ow to w h
  · have := GiveM_no c ow to gv w h hg
    simp only [ownG, hg, if_false]
    exact this

set_option maxRecDepth 100000 in
set_option maxHeartbeats 2000000 in
theorem Give_1_any (T : Nat) (v : Value) (c p q : Nat) (ow to : ByteArray) (gv : Int) (w : World) (hD : DxO T v c w) (hG : Cg w c ow gv) (hp : w.cell? ⟨p, 0, none⟩ = some (.iface T v)) (hq : w.cell? ⟨q, 0, none⟩ = some (.string to)) :
    Calls Try.prog 32 #[.pointer (some ⟨p, 0, none⟩), .pointer (some ⟨q, 0, none⟩)] w fun e w' => e = .returned (.int .i64 gv) ∧ Cg w' c (ownG ow to gv) gv ∧ Kc c w w' := by
  have hm := hD.give w (fun _ _ _ => rfl)
  have HO : Hid (Calls Try.prog 103 #[.agg #[.pointer (some ⟨c, 0, none⟩)], .string to] w fun e w' => e = .returned (.int .i64 gv) ∧ Cg w' c (ownG ow to gv) gv ∧ Kc c w w') := GiveM_any c ow to gv w hG
  have hcf : ∀ W, Sem.run Try.prog (callFunc 103 #[.agg #[.pointer (some ⟨c, 0, none⟩)], .string to]) W = .ok (.enter 103 #[.agg #[.pointer (some ⟨c, 0, none⟩)], .string to]) W := fun W => by kernel_rfl
  clear hD hG
  go_enter Try.func32, Try.ntmps32
  go_wp2_with fail
  refine HO.out.mono ?_
  rintro e w1 ⟨rfl, hg1, hk1⟩
  have HR : Hid (Cg w1 c (ownG ow to gv) gv ∧ Kc c w w1) := ⟨hg1, hk1⟩
  clear hg1 hk1 hp hq hm
  go_wp2_with fail
  go_ret
  exact ⟨rfl, HR.out⟩

theorem Give_answered (T : Nat) (v : Value) (c : Nat) (ow to : ByteArray) (gv : Int) (w W : World) (hD : DxO T v c w) (hG : Cg w c ow gv) (hW : W = (w.alloc (.cells #[.string to] 9)).alloc (.cells #[.iface T v] 65)) :
    Calls Try.prog 27 #[.func (.func 32) #[] #[.pointer (some ⟨w.heap.size + 1, 0, none⟩), .pointer (some ⟨w.heap.size, 0, none⟩)]] W fun e w' => e = .returned (.int .i64 gv) ∧ Cg w' c (ownG ow to gv) gv ∧ Kc c w w' := by
  have hs : W.heap.size = w.heap.size + 2 := by subst hW; simp only [World.size_alloc]
  have hb : Below w.heap.size w W := by subst hW; exact ((Below.refl _ _).alloc (Nat.le_refl _) _).alloc (by simp) _
  have g0 : W.heap[w.heap.size]? = some (.cells #[.string to] 9) := by subst hW; exact al2_old _ _ _
  have g1 : W.heap[w.heap.size + 1]? = some (.cells #[.iface T v] 65) := by subst hW; exact al2_new _ _ _
  have hc := hG.lt
  clear hW
  refine answered_any _ _ gv W (fun w' => Cg w' c (ownG ow to gv) gv ∧ Kc c w w') (fun W => by kernel_rfl) ?_ ?_
  · intro X Y hXY ⟨h1, h2⟩
    rw [hs] at hXY
    exact ⟨h1.keep (hXY.block c (by omega)), h2.step hXY (by omega)⟩
  · intro W1 hb1
    rw [hs] at hb1
    have k0 := (hb1.block w.heap.size (by omega)).trans g0
    have k1 := (hb1.block (w.heap.size + 1) (by omega)).trans g1
    have hwb : Below w.heap.size w W1 := hb.trans (hb1.mono (by omega))
    refine (Give_1_any T v c (w.heap.size + 1) w.heap.size ow to gv W1 (hD.keep (fun j _ h2 => hwb.block j h2) hwb.size) (hG.keep (hwb.block c hc)) (by rw [cell_of_row _ _ 0 _ _ _ k1]; rfl) (by rw [cell_of_row _ _ 0 _ _ _ k0]; rfl)).mono ?_
    rintro e w' ⟨rfl, hg2, hk2⟩
    exact ⟨rfl, fun j h1 h2 => hk2.block j h2 (by rw [hs] at h1; omega), hg2, (Kc.of hwb).trans hk2⟩

set_option maxRecDepth 100000 in
set_option maxHeartbeats 2000000 in
theorem Give_noname (T : Nat) (v : Value) (to : ByteArray) (w : World) (hT : T ≠ 55) (hm : to.size ≤ maxLen) (hb : Sp.isNm to = false) :
    Calls Try.prog 14 #[.iface T v, .string to] w fun e w' => e = .returned (.int .i64 8) ∧ Below w.heap.size w w' := by
  have HS : Hid (∀ W, Calls Try.prog 25 #[.iface T v] W fun e w' => e = .returned (.int .i64 0) ∧ W = w') := fun W => holds_other T hT v W
  have HN : Hid (∀ W, Calls Try.prog 31 #[.string to] W fun e w' => e = .returned (.bool false) ∧ W = w') := fun W => by have := isName_any to W hm; rw [hb] at this; exact this
  clear hT hm hb
  go_enter Try.func14, Try.ntmps14
  go_wp2_with (first | (go_at_call 25; refine (HS.out _).mono ?_; rintro e w' ⟨rfl, rfl⟩) | (go_at_call 31; refine (HN.out _).mono ?_; rintro e w' ⟨rfl, rfl⟩))
  go_ret
  exact ⟨rfl, (Below.refl _ _).alloc (Nat.le_refl _) _⟩

set_option maxRecDepth 100000 in
set_option maxHeartbeats 2000000 in
theorem Give_name (T n : Nat) (v : Value) (c : Nat) (ow to : ByteArray) (gv : Int) (w : World) (hA : Ab T n) (hn : n.testBit 2 = true) (hT : T ≠ 55) (hD : DxO T v c w) (hG : Cg w c ow gv) (hm : to.size ≤ maxLen) (hb : Sp.isNm to = true) :
    Calls Try.prog 14 #[.iface T v, .string to] w fun e w' => e = .returned (.int .i64 gv) ∧ Cg w' c (ownG ow to gv) gv ∧ Kc c w w' := by
  have hmf : ∀ (fn : Fn) (first cap : Array Value) (w : World), (Instr.makeFunc fn first cap).run Try.prog w = .ok (.func fn first cap) w := fun _ _ _ _ => rfl
  have HS : Hid (∀ W, Calls Try.prog 25 #[.iface T v] W fun e w' => e = .returned (.int .i64 0) ∧ W = w') := fun W => holds_other T hT v W
  have HN : Hid (∀ W, Calls Try.prog 31 #[.string to] W fun e w' => e = .returned (.bool true) ∧ W = w') := fun W => by have := isName_any to W hm; rw [hb] at this; exact this
  have HA : Hid (∀ W, Calls Try.prog 29 #[.iface T v] W fun e w' => e = .returned (.tuple #[.iface T v, .bool true]) ∧ W = w') := fun W => by have := as_Owned hA v W; rw [hn] at this; exact this
  have HG : Hid (∀ W, W = _ → _) := fun W hW => Give_answered T v c ow to gv w W hD hG hW
  clear hA hn hT hD hG hm hb
  generalize ownG ow to gv = og at HG ⊢
  go_enter Try.func14, Try.ntmps14
  go_wp2_with (first | (go_at_call 25; refine (HS.out _).mono ?_; rintro e w' ⟨rfl, rfl⟩) | (go_at_call 31; refine (HN.out _).mono ?_; rintro e w' ⟨rfl, rfl⟩) | (go_at_call 29; refine (HA.out _).mono ?_; rintro e w' ⟨rfl, rfl⟩))
  refine (HG.out _ rfl).mono ?_
  rintro e w1 ⟨rfl, hg1, hk1⟩
  have HR : Hid (Cg w1 c og gv ∧ Kc c w w1) := ⟨hg1, hk1⟩
  clear hg1 hk1 HG
  go_wp2_with fail
  go_ret
  exact ⟨rfl, HR.out⟩
end Go.Proofs.Ytbjjeleoimcboaa

