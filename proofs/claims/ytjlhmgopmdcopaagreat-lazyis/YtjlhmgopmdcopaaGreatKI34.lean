/- object.ownerOf, OwnerOf, answered, Give, of a made object that is owned. -/
import Derived.Test.YtjlhmgopmdcopaaGreatKI33
import Derived.Test.YtjlhmgopmdcopaaGreatKI25
namespace Go.Proofs.YtjlhmgopmdcopaaGreat
open Go.RowKit

theorem Kc.step {c B : Nat} {w X Y : World} (h : Kc c w X) (hb : Below B X Y) (hB : w.heap.size ≤ B) : Kc c w Y := ⟨hb.os.trans h.os, hb.tape.trans h.tape, hb.output.trans h.output, Nat.le_trans h.size hb.size, fun j h1 h2 => (hb.block j (by omega)).trans (h.block j h1 h2)⟩

/-- what OwnerOf tells of an owner -/
def ownT (ow : ByteArray) : ByteArray := if Sp.isNm ow = true then ow else ⟨#[]⟩
def ownE (ow : ByteArray) : Int := if Sp.isNm ow = true then 0 else 8

end Go.Proofs.YtjlhmgopmdcopaaGreat

/- object.answered, Give, of a made object that is owned. -/
namespace Go.Proofs.YtjlhmgopmdcopaaGreat
open Go.RowKit

set_option maxRecDepth 100000 in
set_option maxHeartbeats 2000000 in
theorem answered_1_any (f : Nat) (cap : Array Value) (k : Int) (p : Nat) (w : World) (Q : World → Prop) (hcf : ∀ W, Sem.run Tryz.prog (callFunc f cap) W = .ok (.enter f cap) W) (hp : w.cell? ⟨p, 0, none⟩ = some (.func (.func f) #[] cap)) (hq : w.cell? ⟨p + 1, 0, none⟩ = some (.int .i64 0)) (hz : w.frozen? ⟨p + 1, 0, none⟩ = false)
    (HC : Hid (Calls Tryz.prog f cap w fun e w' => e = .returned (.int .i64 k) ∧ w'.heap[p + 1]? = w.heap[p + 1]? ∧ Q w')) :
    Calls Tryz.prog 50 #[.pointer (some ⟨p, 0, none⟩), .pointer (some ⟨p + 1, 0, none⟩)] w fun e w' => e = .returned (.tuple #[]) ∧ ∃ w1, Q w1 ∧ w1.heap[p + 1]? = w.heap[p + 1]? ∧ w1.cell? ⟨p + 1, 0, none⟩ = some (.int .i64 0) ∧ w' = w1.setCell ⟨p + 1, 0, none⟩ (.int .i64 k) := by
  go_enter Tryz.func50, Tryz.ntmps50
  go_wp2_with fail
  refine HC.out.mono ?_
  rintro e w1 ⟨rfl, hb, hQ⟩
  have d1 : w1.cell? ⟨p + 1, 0, none⟩ = some (.int .i64 0) := by rw [World.cell?_of_block (w := w) hb]; exact hq
  have z1 : w1.frozen? ⟨p + 1, 0, none⟩ = false := by rw [World.frozen?_of_block (w := w) hb]; exact hz
  have HR : Hid (Q w1 ∧ w1.heap[p + 1]? = w.heap[p + 1]?) := ⟨hQ, hb⟩
  clear hb hQ hp hq hz HC
  go_wp2_with fail
  go_end0
  exact ⟨rfl, w1, HR.out.1, HR.out.2, d1, rfl⟩

theorem answered_safe (f : Nat) (cap : Array Value) (k : Int) (w W : World) (Q : World → Prop) (hcf : ∀ W, Sem.run Tryz.prog (callFunc f cap) W = .ok (.enter f cap) W) (hQ : ∀ X Y, Below w.heap.size X Y → Q X → Q Y)
    (HC : ∀ W1, Below w.heap.size w W1 → Calls Tryz.prog f cap W1 fun e w' => e = .returned (.int .i64 k) ∧ (∀ j, w.heap.size ≤ j → j < W1.heap.size → w'.heap[j]? = W1.heap[j]?) ∧ Q w')
    (hW : W = (w.alloc (.cells #[.func (.func f) #[] cap] 62)).alloc (.cells #[.int .i64 0] 33)) :
    Calls Tryz.prog 49 #[.func (.func 50) #[] #[.pointer (some ⟨w.heap.size, 0, none⟩), .pointer (some ⟨w.heap.size + 1, 0, none⟩)]] W fun e w' => e = .returned (.int .i64 0) ∧ w'.cell? ⟨w.heap.size + 1, 0, none⟩ = some (.int .i64 k) ∧ Q w' := by
  have hs : W.heap.size = w.heap.size + 2 := by subst hW; simp only [World.size_alloc]
  have hb : Below w.heap.size w W := by subst hW; exact ((Below.refl _ _).alloc (Nat.le_refl _) _).alloc (by simp) _
  have g0 : W.heap[w.heap.size]? = some (.cells #[.func (.func f) #[] cap] 62) := by subst hW; exact al2_old _ _ _
  have g1 : W.heap[w.heap.size + 1]? = some (.cells #[.int .i64 0] 33) := by subst hW; exact al2_new _ _ _
  clear hW
  refine (safely_ok _ _ W (fun w' => w'.cell? ⟨w.heap.size + 1, 0, none⟩ = some (.int .i64 k) ∧ Q w') (fun W => by kernel_rfl) ?_ ?_)
  · intro X Y hXY ⟨h1, h2⟩
    rw [hs] at hXY
    exact ⟨(hXY.cell (p := ⟨w.heap.size + 1, 0, none⟩) (by show w.heap.size + 1 < _; omega)).trans h1, hQ X Y (hXY.mono (by omega)) h2⟩
  · intro W1 hb1 hs1
    rw [hs] at hb1 hs1
    have k0 := (hb1.block w.heap.size (by omega)).trans g0
    have k1 := (hb1.block (w.heap.size + 1) (by omega)).trans g1
    have hwb : Below w.heap.size w W1 := hb.trans (hb1.mono (by omega))
    refine (answered_1_any f cap k w.heap.size W1 (fun w' => Q w' ∧ ∀ j, w.heap.size ≤ j → j < W1.heap.size → w'.heap[j]? = W1.heap[j]?) hcf (by rw [cell_of_row _ _ 0 _ _ _ k0]; rfl) (by rw [cell_of_row _ _ 0 _ _ _ k1]; rfl) (frozen_of_row _ _ 0 _ _ k1) ((HC W1 hwb).mono fun e w' ⟨h1, h2, h3⟩ => ⟨h1, h2 _ (by omega) (by omega), h3, h2⟩)).mono ?_
    rintro e w' ⟨rfl, w1, ⟨hq1, hk1⟩, hb2, hx, rfl⟩
    refine ⟨.inl ⟨rfl, rfl, rfl⟩, ?_, ?_, ?_, ?_⟩
    · rw [hs]; exact (Below.heap_setCell _ _ _ _ (by show w.heap.size + 2 ≠ w.heap.size + 1; omega)).trans (hk1 _ (by omega) (by omega))
    · rw [hs]; exact (Below.heap_setCell _ _ _ _ (by show w.heap.size + 2 + 1 ≠ w.heap.size + 1; omega)).trans (hk1 _ (by omega) (by omega))
    · exact sc_eq' hx
    · exact hQ _ _ ((Below.refl w.heap.size w1).setCell (p := ⟨w.heap.size + 1, 0, none⟩) (Nat.le_succ _) _) hq1

set_option maxRecDepth 100000 in
set_option maxHeartbeats 2000000 in
theorem answered_any (f : Nat) (cap : Array Value) (k : Int) (w : World) (Q : World → Prop) (hcf : ∀ W, Sem.run Tryz.prog (callFunc f cap) W = .ok (.enter f cap) W) (hQ : Hid (∀ X Y, Below w.heap.size X Y → Q X → Q Y))
    (HC : Hid (∀ W1, Below w.heap.size w W1 → Calls Tryz.prog f cap W1 fun e w' => e = .returned (.int .i64 k) ∧ (∀ j, w.heap.size ≤ j → j < W1.heap.size → w'.heap[j]? = W1.heap[j]?) ∧ Q w')) :
    Calls Tryz.prog 27 #[.func (.func f) #[] cap] w fun e w' => e = .returned (.int .i64 k) ∧ Q w' := by
  have hmf : ∀ (fn : Fn) (first cap : Array Value) (w : World), (Instr.makeFunc fn first cap).run Tryz.prog w = .ok (.func fn first cap) w := fun _ _ _ _ => rfl
  have HS : Hid (∀ W, W = _ → _) := fun W hW => answered_safe f cap k w W Q hcf hQ.out HC.out hW
  clear hcf hQ HC
  go_enter Tryz.func27, Tryz.ntmps27
  go_wp2_with fail
  refine (HS.out _ rfl).mono ?_
  rintro e w1 ⟨rfl, c1, hq1⟩
  have HQ : Hid (Q w1) := hq1
  clear hq1 HS
  go_wp2_with fail
  go_ret
  exact ⟨rfl, HQ.out⟩

/-- whose it is then -/
def ownG (ow to : ByteArray) (gv : Int) : ByteArray := if gv = 0 then to else ow
end Go.Proofs.YtjlhmgopmdcopaaGreat

