/- object.ownerOf, OwnerOf, answered, Give, of a made object that is owned. -/
import Derived.Test.YtbjjeleoimcboaaQ10
import Derived.Test.YtbjjeleoimcboaaQ28
import Derived.Test.YtbjjeleoimcboaaQ9
namespace Go.Proofs.Ytbjjeleoimcboaa
open Go.RowKit

theorem Kc.step {c B : Nat} {w X Y : World} (h : Kc c w X) (hb : Below B X Y) (hB : w.heap.size ≤ B) : Kc c w Y := ⟨hb.os.trans h.os, hb.tape.trans h.tape, hb.output.trans h.output, Nat.le_trans h.size hb.size, fun j h1 h2 => (hb.block j (by omega)).trans (h.block j h1 h2)⟩

/-- what OwnerOf tells of an owner -/
def ownT (ow : ByteArray) : ByteArray := if Sp.isNm ow = true then ow else ⟨#[]⟩
def ownE (ow : ByteArray) : Int := if Sp.isNm ow = true then 0 else 8

end Go.Proofs.Ytbjjeleoimcboaa

/- object.answered, Give, of a made object that is owned. -/
namespace Go.Proofs.Ytbjjeleoimcboaa
open Go.RowKit

set_option maxRecDepth 100000 in
set_option maxHeartbeats 2000000 in
theorem answered_1_any (f : Nat) (cap : Array Value) (k : Int) (p : Nat) (w : World) (Q : World → Prop) (hcf : ∀ W, Sem.run Try.prog (callFunc f cap) W = .ok (.enter f cap) W) (hp : w.cell? ⟨p, 0, none⟩ = some (.func (.func f) #[] cap)) (hq : w.cell? ⟨p + 1, 0, none⟩ = some (.int .i64 0)) (hz : w.frozen? ⟨p + 1, 0, none⟩ = false)
    (HC : Hid (Calls Try.prog f cap w fun e w' => e = .returned (.int .i64 k) ∧ w'.heap[p + 1]? = w.heap[p + 1]? ∧ Q w')) :
    Calls Try.prog 41 #[.pointer (some ⟨p, 0, none⟩), .pointer (some ⟨p + 1, 0, none⟩)] w fun e w' => e = .returned (.tuple #[]) ∧ ∃ w1, Q w1 ∧ w1.heap[p + 1]? = w.heap[p + 1]? ∧ w1.cell? ⟨p + 1, 0, none⟩ = some (.int .i64 0) ∧ w' = w1.setCell ⟨p + 1, 0, none⟩ (.int .i64 k) := by
  go_enter Try.func41, Try.ntmps41
  go_wp2_with fail
  refine HC.out.mono ?_
  rintro e w1 ⟨rfl, hb, hQ⟩
  have d1 : w1.cell? ⟨p + 1, 0, none⟩ = some (.int .i64 0) := by rw [World.cell?_of_block (w := w) hb]; exact hq
  have z1 : w1.frozen? ⟨p + 1, 0, none⟩ = false := by rw [World.frozen?_of_block (w := w) hb]; exact hz
  have HR : Hid (Q w1 ∧ w1.heap[p + 1]? = w.heap[p + 1]?) := ⟨hQ, hb⟩
  clear hb hQ hp hq hz HC
  go_wp2_with fail
  go_end0
  exact ⟨rfl, w1, HR.out.1, HR.out.2, d1, rfl⟩

theorem answered_safe (f : Nat) (cap : Array Value) (k : Int) (w W : World) (Q : World → Prop) (hcf : ∀ W, Sem.run Try.prog (callFunc f cap) W = .ok (.enter f cap) W) (hQ : ∀ X Y, Below w.heap.size X Y → Q X → Q Y)
    (HC : ∀ W1, Below w.heap.size w W1 → Calls Try.prog f cap W1 fun e w' => e = .returned (.int .i64 k) ∧ (∀ j, w.heap.size ≤ j → j < W1.heap.size → w'.heap[j]? = W1.heap[j]?) ∧ Q w')
    (hW : W = (w.alloc (.cells #[.func (.func f) #[] cap] 77)).alloc (.cells #[.int .i64 0] 22)) :
    Calls Try.prog 40 #[.func (.func 41) #[] #[.pointer (some ⟨w.heap.size, 0, none⟩), .pointer (some ⟨w.heap.size + 1, 0, none⟩)]] W fun e w' => e = .returned (.int .i64 0) ∧ w'.cell? ⟨w.heap.size + 1, 0, none⟩ = some (.int .i64 k) ∧ Q w' := by
  have hs : W.heap.size = w.heap.size + 2 := by subst hW; simp only [World.size_alloc]
  have hb : Below w.heap.size w W := by subst hW; exact ((Below.refl _ _).alloc (Nat.le_refl _) _).alloc (by simp) _
  have g0 : W.heap[w.heap.size]? = some (.cells #[.func (.func f) #[] cap] 77) := by subst hW; exact al2_old _ _ _
  have g1 : W.heap[w.heap.size + 1]? = some (.cells #[.int .i64 0] 22) := by subst hW; exact al2_new _ _ _
  clear hW
  refine (safely_ok _ _ W (fun w' => w'.cell? ⟨w.heap.size + 1, 0, none⟩ = some (.int .i64 k) ∧ Q w') (fun W => by kernel_rfl) ?_ ?_)
  · intro X Y hXY ⟨h1, h2⟩
    rw [hs] at hXY
    exact ⟨(hXY.cell (p := ⟨w.heap.size + 1, 0, none⟩) (by show w.heap.size + 1 < _; omega)).trans h1, hQ X Y (hXY.mono (by omega)) h2⟩
  · intro W1 hb1 hs1
    rw [hs] at hb1 hs1
    have k0 := (hb1.block w.heap.size (by omega)).trans g0
    have k1 := (hb1.block (w.heap.size + 1) (by omega)).trans g1
    have hwb : Below w.heap.size w W1 := hb.trans (hb1.mono (by omega))
    refine (answered_1_any f cap k w.heap.size W1 (fun w' => Q w' ∧ ∀ j, w.heap.size ≤ j → j < W1.heap.size → w'.heap[j]? = W1.heap[j]?) hcf (by rw [cell_of_row _ _ 0 _ _ _ k0]; rfl) (by rw [cell_of_row _ _ 0 _ _ _ k1]; rfl) (frozen_of_row _ _ 0 _ _ k1) ((HC W1 hwb).mono fun e w' ⟨h1, h2, h3⟩ => ⟨h1, h2 _ (by omega) (by omega), h3, h2⟩)).mono ?_
    rintro e w' ⟨rfl, w1, ⟨hq1, hk1⟩, hb2, hx, rfl⟩
    refine ⟨.inl ⟨rfl, rfl, rfl⟩, ?_, ?_, ?_, ?_⟩
    · rw [hs]; exact (Below.heap_setCell _ _ _ _ (by show w.heap.size + 2 ≠ w.heap.size + 1; omega)).trans (hk1 _ (by omega) (by omega))
    · rw [hs]; exact (Below.heap_setCell _ _ _ _ (by show w.heap.size + 2 + 1 ≠ w.heap.size + 1; omega)).trans (hk1 _ (by omega) (by omega))
    · exact sc_eq' hx
    · exact hQ _ _ ((Below.refl w.heap.size w1).setCell (p := ⟨w.heap.size + 1, 0, none⟩) (Nat.le_succ _) _) hq1

set_option maxRecDepth 100000 in
set_option maxHeartbeats 2000000 in
theorem answered_any (f : Nat) (cap : Array Value) (k : Int) (w : World) (Q : World → Prop) (hcf : ∀ W, Sem.run Try.prog (callFunc f cap) W = .ok (.enter f cap) W) (hQ : Hid (∀ X Y, Below w.heap.size X Y → Q X → Q Y))
    (HC : Hid (∀ W1, Below w.heap.size w W1 → Calls Try.prog f cap W1 fun e w' => e = .returned (.int .i64 k) ∧ (∀ j, w.heap.size ≤ j → j < W1.heap.size → w'.heap[j]? = W1.heap[j]?) ∧ Q w')) :
    Calls Try.prog 27 #[.func (.func f) #[] cap] w fun e w' => e = .returned (.int .i64 k) ∧ Q w' := by
  have hmf : ∀ (fn : Fn) (first cap : Array Value) (w : World), (Instr.makeFunc fn first cap).run Try.prog w = .ok (.func fn first cap) w := fun _ _ _ _ => rfl
  have HS : Hid (∀ W, W = _ → _) := fun W hW => answered_safe f cap k w W Q hcf hQ.out HC.out hW
  clear hcf hQ HC
  go_enter Try.func27, Try.ntmps27
  go_wp2_with fail
  refine (HS.out _ rfl).mono ?_
  rintro e w1 ⟨rfl, c1, hq1⟩
  have HQ : Hid (Q w1) := hq1
  clear hq1 HS
  go_wp2_with fail
  go_ret
  exact ⟨rfl, HQ.out⟩

/-- whose it is then -/
def ownG (ow to : ByteArray) (gv : Int) : ByteArray := if gv = 0 then to else ow
end Go.Proofs.Ytbjjeleoimcboaa

/- What stands behind a made object that is lazy: whether it is loaded, what Load answers, its counts. Core.call, lazy.Loaded, lazy.Load. -/
namespace Go.Proofs.Ytbjjeleoimcboaa
open Go.RowKit

/-- At c lies what stands behind an object whose methods do not panic: whether it is loaded, what Load answers; Loaded was called a times, Load b times, and nothing else. -/
def Cl (w : World) (c : Nat) (lo : Int) (ld : Bool) (a b : Nat) : Prop := ∃ cs, w.heap[c]? = some (.cells cs 45) ∧ cs.size = 23 ∧ cs[10]? = some (.bool ld) ∧ cs[11]? = some (.int .i64 lo) ∧ cs[12]? = some (.int .i64 0) ∧ (∀ j, 14 ≤ j → j < 21 → cs[j]? = some (.int .i64 0)) ∧ cs[21]? = some (.int .i64 (a : Int)) ∧ cs[22]? = some (.int .i64 (b : Int))
theorem Cl.keep {w w' : World} {c : Nat} {lo : Int} {ld : Bool} {a b : Nat} (h : Cl w c lo ld a b) (hb : w'.heap[c]? = w.heap[c]?) : Cl w' c lo ld a b := by
  obtain ⟨cs, h1, h2⟩ := h
  exact ⟨cs, hb.trans h1, h2⟩
theorem Cl.lt {w : World} {c : Nat} {lo : Int} {ld : Bool} {a b : Nat} (h : Cl w c lo ld a b) : c < w.heap.size := by
  obtain ⟨cs, h1, _⟩ := h
  exact (Array.getElem?_eq_some_iff.1 h1).1
theorem Cl.set {w : World} {c : Nat} {lo : Int} {ld : Bool} {a b : Nat} (h : Cl w c lo ld a b) (j : Nat) (v : Value) : ∃ cs, w.heap[c]? = some (.cells cs 45) ∧ cs.size = 23 ∧ (w.setCell ⟨c, j, none⟩ v).heap[c]? = some (.cells (cs.setIfInBounds j v) 45) ∧ cs[10]? = some (.bool ld) ∧ cs[11]? = some (.int .i64 lo) ∧ cs[12]? = some (.int .i64 0) ∧ (∀ j, 14 ≤ j → j < 21 → cs[j]? = some (.int .i64 0)) ∧ cs[21]? = some (.int .i64 (a : Int)) ∧ cs[22]? = some (.int .i64 (b : Int)) := by
  obtain ⟨cs, h1, h2, h3⟩ := h
  exact ⟨cs, h1, h2, by rw [setCell_eq_setRow _ _ _ _ _ _ _ h1]; exact setRow_heap _ _ _ _ _ _ h1, h3⟩
theorem Cl.count7 {w : World} {c : Nat} {lo : Int} {ld : Bool} {a b : Nat} (h : Cl w c lo ld a b) (k : Nat) : Cl (w.setCell ⟨c, 21, none⟩ (.int .i64 (k : Int))) c lo ld k b := by
  obtain ⟨cs, _, h2, h1, e10, e11, e12, ez, e21, e22⟩ := h.set 21 (.int .i64 (k : Int))
  exact ⟨_, h1, by simp [h2], by rw [Array.getElem?_setIfInBounds_ne (by omega)]; exact e10, by rw [Array.getElem?_setIfInBounds_ne (by omega)]; exact e11, by rw [Array.getElem?_setIfInBounds_ne (by omega)]; exact e12, fun j h3 h4 => by rw [Array.getElem?_setIfInBounds_ne (by omega)]; exact ez j h3 h4, by rw [Array.getElem?_setIfInBounds_self_of_lt (by omega)], by rw [Array.getElem?_setIfInBounds_ne (by omega)]; exact e22⟩
theorem Cl.count8 {w : World} {c : Nat} {lo : Int} {ld : Bool} {a b : Nat} (h : Cl w c lo ld a b) (k : Nat) : Cl (w.setCell ⟨c, 22, none⟩ (.int .i64 (k : Int))) c lo ld a k := by
  obtain ⟨cs, _, h2, h1, e10, e11, e12, ez, e21, e22⟩ := h.set 22 (.int .i64 (k : Int))
  exact ⟨_, h1, by simp [h2], by rw [Array.getElem?_setIfInBounds_ne (by omega)]; exact e10, by rw [Array.getElem?_setIfInBounds_ne (by omega)]; exact e11, by rw [Array.getElem?_setIfInBounds_ne (by omega)]; exact e12, fun j h3 h4 => by rw [Array.getElem?_setIfInBounds_ne (by omega)]; exact ez j h3 h4, by rw [Array.getElem?_setIfInBounds_ne (by omega)]; exact e21, by rw [Array.getElem?_setIfInBounds_self_of_lt (by omega)]⟩
theorem Cl.loaded {w : World} {c : Nat} {lo : Int} {ld : Bool} {a b : Nat} (h : Cl w c lo ld a b) (x : Bool) : Cl (w.setCell ⟨c, 10, none⟩ (.bool x)) c lo x a b := by
  obtain ⟨cs, _, h2, h1, e10, e11, e12, ez, e21, e22⟩ := h.set 10 (.bool x)
  exact ⟨_, h1, by simp [h2], by rw [Array.getElem?_setIfInBounds_self_of_lt (by omega)], by rw [Array.getElem?_setIfInBounds_ne (by omega)]; exact e11, by rw [Array.getElem?_setIfInBounds_ne (by omega)]; exact e12, fun j h3 h4 => by rw [Array.getElem?_setIfInBounds_ne (by omega)]; exact ez j h3 h4, by rw [Array.getElem?_setIfInBounds_ne (by omega)]; exact e21, by rw [Array.getElem?_setIfInBounds_ne (by omega)]; exact e22⟩
theorem Cl.cells {w : World} {c : Nat} {lo : Int} {ld : Bool} {a b : Nat} (h : Cl w c lo ld a b) : w.cell? ⟨c, 10, none⟩ = some (.bool ld) ∧ w.cell? ⟨c, 11, none⟩ = some (.int .i64 lo) ∧ w.cell? ⟨c, 12, none⟩ = some (.int .i64 0) ∧ w.cell? ⟨c, 21, none⟩ = some (.int .i64 (a : Int)) ∧ w.cell? ⟨c, 22, none⟩ = some (.int .i64 (b : Int)) ∧ ∀ j, w.frozen? ⟨c, j, none⟩ = false := by
  obtain ⟨cs, h1, h2, h3, h4, h5, _, h6, h7⟩ := h
  have e := fun j => cell_of_row w c j cs _ _ h1
  exact ⟨by rw [e, h3], by rw [e, h4], by rw [e, h5], by rw [e, h6], by rw [e, h7], fun j => frozen_of_row _ _ j _ _ h1⟩

set_option maxRecDepth 100000 in
set_option maxHeartbeats 2000000 in
theorem call_7 (c : Nat) (lo : Int) (ld : Bool) (a b : Nat) (hs : a < 100) (w : World) (h : Cl w c lo ld a b) :
    Calls Try.prog 78 #[.pointer (some ⟨c, 0, none⟩), .int .i64 7] w fun e w' => e = .returned (.tuple #[]) ∧ Cl w' c lo ld (a + 1) b ∧ Kc c w w' ∧ w'.heap.size = w.heap.size := by
  obtain ⟨_, _, e12, e21, e22, ef⟩ := h.cells
  have HG : Hid (Cl w c lo ld a b) := h
  have HW : Hid (wrap64 ((a : Int) + 1) = ((a + 1 : Nat) : Int)) := by show _ = _; unfold wrap64; omega
  clear h hs
  have z := ef 21
  clear ef
  go_enter Try.func78, Try.ntmps78
  go_wp2_with fail
  go_region
  rw [HW.out]
  have HG1 : Hid (Cl ((w.setCell ⟨c, 21, none⟩ (.int .i64 ((a + 1 : Nat) : Int))).drew) c lo ld (a + 1) b) := HG.out.count7 (a + 1)
  have HK1 : Hid (Kc c w ((w.setCell ⟨c, 21, none⟩ (.int .i64 ((a + 1 : Nat) : Int))).drew) ∧ ((w.setCell ⟨c, 21, none⟩ (.int .i64 ((a + 1 : Nat) : Int))).drew).heap.size = w.heap.size) := ⟨(Kc.set _).drew, by simp [World.setCell, World.drew]⟩
  generalize (w.setCell ⟨c, 21, none⟩ (.int .i64 ((a + 1 : Nat) : Int))).drew = w1 at HG1 HK1 ⊢
  have y12 : w1.cell? ⟨c, 12, none⟩ = some (.int .i64 0) := HG1.out.cells.2.2.1
  clear e12 e21 e22 z HG
  go_wp2_with fail
  go_end0
  exact ⟨rfl, HG1.out, HK1.out.1, HK1.out.2⟩

set_option maxRecDepth 100000 in
set_option maxHeartbeats 2000000 in
theorem call_8 (c : Nat) (lo : Int) (ld : Bool) (a b : Nat) (hs : b < 100) (w : World) (h : Cl w c lo ld a b) :
    Calls Try.prog 78 #[.pointer (some ⟨c, 0, none⟩), .int .i64 8] w fun e w' => e = .returned (.tuple #[]) ∧ Cl w' c lo ld a (b + 1) ∧ Kc c w w' ∧ w'.heap.size = w.heap.size := by
  obtain ⟨_, _, e12, e21, e22, ef⟩ := h.cells
  have HG : Hid (Cl w c lo ld a b) := h
  have HW : Hid (wrap64 ((b : Int) + 1) = ((b + 1 : Nat) : Int)) := by show _ = _; unfold wrap64; omega
  clear h hs
  have z := ef 22
  clear ef
  go_enter Try.func78, Try.ntmps78
  go_wp2_with fail
  go_region
  rw [HW.out]
  have HG1 : Hid (Cl ((w.setCell ⟨c, 22, none⟩ (.int .i64 ((b + 1 : Nat) : Int))).drew) c lo ld a (b + 1)) := HG.out.count8 (b + 1)
  have HK1 : Hid (Kc c w ((w.setCell ⟨c, 22, none⟩ (.int .i64 ((b + 1 : Nat) : Int))).drew) ∧ ((w.setCell ⟨c, 22, none⟩ (.int .i64 ((b + 1 : Nat) : Int))).drew).heap.size = w.heap.size) := ⟨(Kc.set _).drew, by simp [World.setCell, World.drew]⟩
  generalize (w.setCell ⟨c, 22, none⟩ (.int .i64 ((b + 1 : Nat) : Int))).drew = w1 at HG1 HK1 ⊢
  have y12 : w1.cell? ⟨c, 12, none⟩ = some (.int .i64 0) := HG1.out.cells.2.2.1
  clear e12 e21 e22 z HG
  go_wp2_with fail
  go_end0
  exact ⟨rfl, HG1.out, HK1.out.1, HK1.out.2⟩

set_option maxRecDepth 100000 in
set_option maxHeartbeats 2000000 in
theorem LoadedM_any (c : Nat) (lo : Int) (ld : Bool) (a b : Nat) (hs : a < 100) (w : World) (h : Cl w c lo ld a b) :
    Calls Try.prog 106 #[.agg #[.pointer (some ⟨c, 0, none⟩)]] w fun e w' => e = .returned (.bool ld) ∧ Cl w' c lo ld (a + 1) b ∧ Kc c w w' := by
  have HC : Hid (∀ W, Cl W c lo ld a b → Calls Try.prog 78 #[.pointer (some ⟨c, 0, none⟩), .int .i64 7] W fun e w' => e = .returned (.tuple #[]) ∧ Cl w' c lo ld (a + 1) b ∧ Kc c W w' ∧ w'.heap.size = W.heap.size) := fun W h => call_7 c lo ld a b hs W h
  have HG : Hid (Cl (w.alloc (.cells #[.pointer (some ⟨c, 0, none⟩)] 107)) c lo ld a b) := h.keep (Below.heap_alloc _ _ _ h.lt)
  have HL : Hid (c < w.heap.size) := h.lt
  have HK : Hid (Kc c w (w.alloc (.cells #[.pointer (some ⟨c, 0, none⟩)] 107))) := Kc.of ((Below.refl _ _).alloc (Nat.le_refl _) _)
  have HA : Hid ((w.alloc (.cells #[.pointer (some ⟨c, 0, none⟩)] 107)).heap[w.heap.size]? = some (.cells #[.pointer (some ⟨c, 0, none⟩)] 107)) := heap_alloc_last _ _
  clear h hs
  go_enter Try.func106, Try.ntmps106
  go_wp2_with fail
  refine (HC.out _ HG.out).mono ?_
  rintro e w1 ⟨rfl, hg1, hk1, hs1⟩
  have x0 : w1.cell? ⟨w.heap.size, 0, none⟩ = some (.pointer (some ⟨c, 0, none⟩)) := by rw [cell_of_row _ _ 0 _ _ _ ((hk1.block w.heap.size (by simp) (by have := HL.out; omega)).trans HA.out)]; rfl
  have x10 := hg1.cells.1
  have x11 := hg1.cells.2.1
  have HR : Hid (Cl w1 c lo ld (a + 1) b ∧ Kc c w w1) := ⟨hg1, HK.out.trans hk1⟩
  clear hg1 hk1 hs1 HG HK HA HC
  go_wp2_with fail
  go_ret
  exact ⟨rfl, HR.out⟩

set_option maxRecDepth 100000 in
set_option maxHeartbeats 2000000 in
theorem LoadM_any (c : Nat) (lo : Int) (ld : Bool) (a b : Nat) (hs : b < 100) (w : World) (h : Cl w c lo ld a b) :
    Calls Try.prog 105 #[.agg #[.pointer (some ⟨c, 0, none⟩)]] w fun e w' => e = .returned (.int .i64 lo) ∧ Cl w' c lo (lo == 0) a (b + 1) ∧ Kc c w w' := by
  have HC : Hid (∀ W, Cl W c lo ld a b → Calls Try.prog 78 #[.pointer (some ⟨c, 0, none⟩), .int .i64 8] W fun e w' => e = .returned (.tuple #[]) ∧ Cl w' c lo ld a (b + 1) ∧ Kc c W w' ∧ w'.heap.size = W.heap.size) := fun W h => call_8 c lo ld a b hs W h
  have HG : Hid (Cl (w.alloc (.cells #[.pointer (some ⟨c, 0, none⟩)] 107)) c lo ld a b) := h.keep (Below.heap_alloc _ _ _ h.lt)
  have HL : Hid (c < w.heap.size) := h.lt
  have HK : Hid (Kc c w (w.alloc (.cells #[.pointer (some ⟨c, 0, none⟩)] 107))) := Kc.of ((Below.refl _ _).alloc (Nat.le_refl _) _)
  have HA : Hid ((w.alloc (.cells #[.pointer (some ⟨c, 0, none⟩)] 107)).heap[w.heap.size]? = some (.cells #[.pointer (some ⟨c, 0, none⟩)] 107)) := heap_alloc_last _ _
  clear h hs
  go_enter Try.func105, Try.ntmps105
  go_wp2_with fail
  refine (HC.out _ HG.out).mono ?_
  rintro e w1 ⟨rfl, hg1, hk1, hs1⟩
  have x0 : w1.cell? ⟨w.heap.size, 0, none⟩ = some (.pointer (some ⟨c, 0, none⟩)) := by rw [cell_of_row _ _ 0 _ _ _ ((hk1.block w.heap.size (by simp) (by have := HL.out; omega)).trans HA.out)]; rfl
  have x10 := hg1.cells.1
  have x11 := hg1.cells.2.1
  have z10 : w1.frozen? ⟨c, 10, none⟩ = false := hg1.cells.2.2.2.2.2 10
  have HG1 : Hid (Cl w1 c lo ld a (b + 1) ∧ Kc c w w1) := ⟨hg1, HK.out.trans hk1⟩
  clear hg1 hk1 hs1 HG HK HA HC
  go_wp2_with fail
  go_region
  have HG2 : Hid (Cl ((w1.setCell ⟨c, 10, none⟩ (.bool (lo == 0))).drew) c lo (lo == 0) a (b + 1)) := HG1.out.1.loaded (lo == 0)
  have HK2 : Hid (Kc c w ((w1.setCell ⟨c, 10, none⟩ (.bool (lo == 0))).drew)) := (HG1.out.2.trans (Kc.set _)).drew
  have y0 : ((w1.setCell ⟨c, 10, none⟩ (.bool (lo == 0))).drew).cell? ⟨w.heap.size, 0, none⟩ = some (.pointer (some ⟨c, 0, none⟩)) := by
    show (w1.setCell ⟨c, 10, none⟩ (.bool (lo == 0))).cell? ⟨w.heap.size, 0, none⟩ = _
    rw [World.cell?_setCell_other _ _ _ _ (by intro e; injection e with e1 _; have := HL.out; omega)]; exact x0
  generalize (w1.setCell ⟨c, 10, none⟩ (.bool (lo == 0))).drew = w2 at HG2 HK2 y0 ⊢
  have y11 : w2.cell? ⟨c, 11, none⟩ = some (.int .i64 lo) := HG2.out.cells.2.1
  clear x0 x10 x11 z10 HG1
  go_wp2_with fail
  go_ret
  exact ⟨rfl, HG2.out, HK2.out⟩

/-- what a Load answers, and what it leaves: where it is loaded already nothing else is called -/
def nLd (lo : Int) (ld : Bool) : Bool := if ld then true else (lo == 0)
def nB (ld : Bool) (b : Nat) : Nat := if ld then b else b + 1
def nR (lo : Int) (ld : Bool) : Int := if ld then 0 else lo

set_option maxRecDepth 100000 in
set_option maxHeartbeats 2000000 in
theorem Load_1_yes (T : Nat) (v : Value) (c p : Nat) (lo : Int) (a b : Nat) (hs : a < 100) (w : World) (hD : DxL T v c w) (hG : Cl w c lo true a b) (hp : w.cell? ⟨p, 0, none⟩ = some (.iface T v)) :
    Calls Try.prog 28 #[.pointer (some ⟨p, 0, none⟩)] w fun e w' => e = .returned (.int .i64 0) ∧ Cl w' c lo true (a + 1) b ∧ Kc c w w' := by
  have hm := hD.ed w (fun _ _ _ => rfl)
  have HO : Hid (Calls Try.prog 106 #[.agg #[.pointer (some ⟨c, 0, none⟩)]] w fun e w' => e = .returned (.bool true) ∧ Cl w' c lo true (a + 1) b ∧ Kc c w w') := LoadedM_any c lo true a b hs w hG
  have hcf : ∀ W, Sem.run Try.prog (callFunc 106 #[.agg #[.pointer (some ⟨c, 0, none⟩)]]) W = .ok (.enter 106 #[.agg #[.pointer (some ⟨c, 0, none⟩)]]) W := fun W => by kernel_rfl
  clear hD hG hs
  go_enter Try.func28, Try.ntmps28
  go_wp2_with fail
  refine HO.out.mono ?_
  rintro e w1 ⟨rfl, hg1, hk1⟩
  have HR : Hid (Cl w1 c lo true (a + 1) b ∧ Kc c w w1) := ⟨hg1, hk1⟩
  clear hg1 hk1 hp hm
  go_wp2_with fail
  go_ret
  exact ⟨rfl, HR.out⟩

set_option maxRecDepth 100000 in
set_option maxHeartbeats 2000000 in
theorem Load_1_no (T : Nat) (v : Value) (c p : Nat) (lo : Int) (a b : Nat) (hs : a < 100) (hsb : b < 100) (w : World) (hD : DxL T v c w) (hG : Cl w c lo false a b) (hp : w.cell? ⟨p, 0, none⟩ = some (.iface T v)) (hn : c ≠ p) :
    Calls Try.prog 28 #[.pointer (some ⟨p, 0, none⟩)] w fun e w' => e = .returned (.int .i64 lo) ∧ Cl w' c lo (lo == 0) (a + 1) (b + 1) ∧ Kc c w w' := by
  have hm := hD.ed w (fun _ _ _ => rfl)
  have HO : Hid (Calls Try.prog 106 #[.agg #[.pointer (some ⟨c, 0, none⟩)]] w fun e w' => e = .returned (.bool false) ∧ Cl w' c lo false (a + 1) b ∧ Kc c w w') := LoadedM_any c lo false a b hs w hG
  have hcf : ∀ W, Sem.run Try.prog (callFunc 106 #[.agg #[.pointer (some ⟨c, 0, none⟩)]]) W = .ok (.enter 106 #[.agg #[.pointer (some ⟨c, 0, none⟩)]]) W := fun W => by kernel_rfl
  have hcf2 : ∀ W, Sem.run Try.prog (callFunc 105 #[.agg #[.pointer (some ⟨c, 0, none⟩)]]) W = .ok (.enter 105 #[.agg #[.pointer (some ⟨c, 0, none⟩)]]) W := fun W => by kernel_rfl
  have HLD : Hid (∀ W, Cl W c lo false (a + 1) b → Calls Try.prog 105 #[.agg #[.pointer (some ⟨c, 0, none⟩)]] W fun e w' => e = .returned (.int .i64 lo) ∧ Cl w' c lo (lo == 0) (a + 1) (b + 1) ∧ Kc c W w') := fun W h => LoadM_any c lo false (a + 1) b hsb W h
  have HDx : Hid (DxL T v c w ∧ p < w.heap.size ∧ c ≠ p) := ⟨hD, World.block_lt_of_cell? _ _ hp, hn⟩
  clear hD hG hs hsb hn
  go_enter Try.func28, Try.ntmps28
  go_wp2_with fail
  refine HO.out.mono ?_
  rintro e w1 ⟨rfl, hg1, hk1⟩
  have hm1 := HDx.out.1.load w1 hk1.kp
  have p1 : w1.cell? ⟨p, 0, none⟩ = some (.iface T v) := by rw [World.cell?_of_block (w := w) (hk1.block p HDx.out.2.1 (fun e => HDx.out.2.2 e.symm))]; exact hp
  have HR : Hid (Cl w1 c lo false (a + 1) b ∧ Kc c w w1) := ⟨hg1, hk1⟩
  clear hg1 hk1 hp hm HO
  go_wp2_with fail
  refine (HLD.out _ HR.out.1).mono ?_
  rintro e w2 ⟨rfl, hg2, hk2⟩
  have HR2 : Hid (Cl w2 c lo (lo == 0) (a + 1) (b + 1) ∧ Kc c w w2) := ⟨hg2, HR.out.2.trans hk2⟩
  clear hg2 hk2 p1 hm1 HLD
  go_wp2_with fail
  go_ret
  exact ⟨rfl, HR2.out⟩

theorem Load_1_any (T : Nat) (v : Value) (c p : Nat) (lo : Int) (ld : Bool) (a b : Nat) (hs : a < 100) (hsb : b < 100) (w : World) (hD : DxL T v c w) (hG : Cl w c lo ld a b) (hp : w.cell? ⟨p, 0, none⟩ = some (.iface T v)) (hn : c ≠ p) :
    Calls Try.prog 28 #[.pointer (some ⟨p, 0, none⟩)] w fun e w' => e = .returned (.int .i64 (nR lo ld)) ∧ Cl w' c lo (nLd lo ld) (a + 1) (nB ld b) ∧ Kc c w w' := by
  cases ld
  · exact Load_1_no T v c p lo a b hs hsb w hD hG hp hn
  · exact Load_1_yes T v c p lo a b hs w hD hG hp

theorem Load_answered (T : Nat) (v : Value) (c : Nat) (lo : Int) (ld : Bool) (a b : Nat) (hs : a < 100) (hsb : b < 100) (w W : World) (hD : DxL T v c w) (hG : Cl w c lo ld a b) (hW : W = w.alloc (.cells #[.iface T v] 73)) :
    Calls Try.prog 27 #[.func (.func 28) #[] #[.pointer (some ⟨w.heap.size, 0, none⟩)]] W fun e w' => e = .returned (.int .i64 (nR lo ld)) ∧ Cl w' c lo (nLd lo ld) (a + 1) (nB ld b) ∧ Kc c w w' := by
  have hz : W.heap.size = w.heap.size + 1 := by subst hW; simp only [World.size_alloc]
  have hb : Below w.heap.size w W := by subst hW; exact (Below.refl _ _).alloc (Nat.le_refl _) _
  have g0 : W.heap[w.heap.size]? = some (.cells #[.iface T v] 73) := by subst hW; exact heap_alloc_last _ _
  have hc := hG.lt
  clear hW
  refine answered_any _ _ (nR lo ld) W (fun w' => Cl w' c lo (nLd lo ld) (a + 1) (nB ld b) ∧ Kc c w w') (fun W => by kernel_rfl) ?_ ?_
  · intro X Y hXY ⟨h1, h2⟩
    rw [hz] at hXY
    exact ⟨h1.keep (hXY.block c (by omega)), h2.step hXY (by omega)⟩
  · intro W1 hb1
    rw [hz] at hb1
    have k0 := (hb1.block w.heap.size (by omega)).trans g0
    have hwb : Below w.heap.size w W1 := hb.trans (hb1.mono (by omega))
    refine (Load_1_any T v c w.heap.size lo ld a b hs hsb W1 (hD.keep (fun j _ h2 => hwb.block j h2) hwb.size) (hG.keep (hwb.block c hc)) (by rw [cell_of_row _ _ 0 _ _ _ k0]; rfl) (by omega)).mono ?_
    rintro e w' ⟨rfl, hg2, hk2⟩
    exact ⟨rfl, fun j h1 h2 => hk2.block j h2 (by rw [hz] at h1; omega), hg2, (Kc.of hwb).trans hk2⟩

set_option maxRecDepth 100000 in
set_option maxHeartbeats 2000000 in
theorem LoadO_any (T n : Nat) (v : Value) (c : Nat) (lo : Int) (ld : Bool) (a b : Nat) (hs : a < 100) (hsb : b < 100) (w : World) (hA : Ab T n) (hn : n.testBit 3 = true) (hT : T ≠ 55) (hD : DxL T v c w) (hG : Cl w c lo ld a b) :
    Calls Try.prog 12 #[.iface T v] w fun e w' => e = .returned (.int .i64 (nR lo ld)) ∧ Cl w' c lo (nLd lo ld) (a + 1) (nB ld b) ∧ Kc c w w' := by
  have hmf : ∀ (fn : Fn) (first cap : Array Value) (w : World), (Instr.makeFunc fn first cap).run Try.prog w = .ok (.func fn first cap) w := fun _ _ _ _ => rfl
  have HS : Hid (∀ W, Calls Try.prog 25 #[.iface T v] W fun e w' => e = .returned (.int .i64 0) ∧ W = w') := fun W => holds_other T hT v W
  have HA : Hid (∀ W, Calls Try.prog 26 #[.iface T v] W fun e w' => e = .returned (.tuple #[.iface T v, .bool true]) ∧ W = w') := fun W => by have := as_Lazy hA v W; rw [hn] at this; exact this
  have HG : Hid (∀ W, W = _ → _) := fun W hW => Load_answered T v c lo ld a b hs hsb w W hD hG hW
  clear hA hn hT hD hG hs hsb
  generalize nR lo ld = rr at HG ⊢
  generalize nLd lo ld = rl at HG ⊢
  generalize nB ld b = rb at HG ⊢
  go_enter Try.func12, Try.ntmps12
  go_wp2_with (first | (go_at_call 25; refine (HS.out _).mono ?_; rintro e w' ⟨rfl, rfl⟩) | (go_at_call 26; refine (HA.out _).mono ?_; rintro e w' ⟨rfl, rfl⟩))
  refine (HG.out _ rfl).mono ?_
  rintro e w1 ⟨rfl, hg1, hk1⟩
  have HR : Hid (Cl w1 c lo rl (a + 1) rb ∧ Kc c w w1) := ⟨hg1, hk1⟩
  clear hg1 hk1 HG
  go_wp2_with fail
  go_ret
  exact ⟨rfl, HR.out⟩
end Go.Proofs.Ytbjjeleoimcboaa

