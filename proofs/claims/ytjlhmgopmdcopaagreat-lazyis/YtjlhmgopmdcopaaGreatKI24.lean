/- tenonlaw10.lives: the document's examples come. First part: New, Get, Ask. -/
import Derived.Test.YtjlhmgopmdcopaaGreatKI22
import Derived.Test.YtjlhmgopmdcopaaGreatKI23
import Derived.Test.YtjlhmgopmdcopaaGreatKI18
import Derived.Test.YtjlhmgopmdcopaaGreatKI3
import Derived.LoopN
import Derived.Lib.Bytealg
namespace Go.Proofs.YtjlhmgopmdcopaaGreat
open Go.RowKit

def tOne : Tm := .mk 3 false 1 0 ByteArray.empty ByteArray.empty 0 .nil .nil ByteArray.empty 0
def tDct : Tm := .mk 9 false 0 0 ByteArray.empty ByteArray.empty 0 .nil (.cons ⟨#[97]⟩ tOne .nil) ByteArray.empty 0

/-- at b lies a Thing 7 with a: 1 -/
def Tg (w : World) (b : Nat) : Prop := ∃ g cap, w.cell? ⟨b, 0, none⟩ = some (.int .u64 7) ∧ w.cell? ⟨b, 1, none⟩ = some (.slice (some ⟨g, 0, none⟩) 1 cap) ∧ w.cell? ⟨g, 0, none⟩ = some (.string ⟨#[97]⟩) ∧ w.cell? ⟨g, 1, none⟩ = some (.iface 2 (.int .i64 1))
theorem Tg.keep {w w' : World} {b : Nat} (h : Tg w b) (hb : Below w.heap.size w w') : Tg w' b := by
  obtain ⟨g, cap, h1, h2, h3, h4⟩ := h
  have l1 := World.block_lt_of_cell? _ _ h1
  have l3 := World.block_lt_of_cell? _ _ h3
  exact ⟨g, cap, by rw [hb.cell (p := ⟨b, 0, none⟩) l1]; exact h1, by rw [hb.cell (p := ⟨b, 1, none⟩) l1]; exact h2, by rw [hb.cell (p := ⟨g, 0, none⟩) l3]; exact h3, by rw [hb.cell (p := ⟨g, 1, none⟩) l3]; exact h4⟩

theorem strCmpO_run (a b : ByteArray) (w : World) : (callFunc 103 #[.string a, .string b]).run Tryz.prog w = .ok (.value (.int .i64 (Sp.cmpS a b))) w := by
  rw [run_callFunc_extern Tryz.func103 (by kernel_rfl) (by kernel_rfl) (by kernel_rfl) (e := Extern.BytealgCompare.compare) (by kernel_rfl), Lib.run_compareString]; rfl

end Go.Proofs.YtjlhmgopmdcopaaGreat

/- tenonlaw10.lives: Get, Ask and Give of the Thing. -/
namespace Go.Proofs.YtjlhmgopmdcopaaGreat
open Go.RowKit

set_option maxRecDepth 100000 in
set_option maxHeartbeats 2000000 in
theorem safely_ok (f : Nat) (cap : Array Value) (w : World) (Q : World → Prop) (hcf : ∀ W, Sem.run Tryz.prog (callFunc f cap) W = .ok (.enter f cap) W) (hQ : Hid (∀ W W', Below w.heap.size W W' → Q W → Q W'))
    (HC : Hid (∀ W1, Below w.heap.size w W1 → W1.heap.size = w.heap.size + 2 → Calls Tryz.prog f cap W1 fun e w' => Ends 0 0 e ∧ w'.heap[w.heap.size]? = W1.heap[w.heap.size]? ∧ w'.heap[w.heap.size + 1]? = W1.heap[w.heap.size + 1]? ∧ Q w')) :
    Calls Tryz.prog 49 #[.func (.func f) #[] cap] w fun e w' => e = .returned (.int .i64 0) ∧ Q w' := by
  have HX : Hid (Calls Tryz.prog 69 #[.func (.func f) #[] cap] w fun e w' => e = .returned (.tuple #[.int .i64 0, .int .i64 0]) ∧ Q w') := caught_any f cap 0 0 w Q hcf hQ HC
  go_enter Tryz.func49, Tryz.ntmps49
  go_wp2_with fail
  refine HX.out.mono ?_
  rintro e w1 ⟨rfl, hq⟩
  have HQ : Hid (Q w1) := hq
  clear hq
  go_wp2_with fail
  go_ret
  exact ⟨rfl, HQ.out⟩
end Go.Proofs.YtjlhmgopmdcopaaGreat

/- tenonlaw10.lives: Ask and Give of the Thing, and the whole. -/
namespace Go.Proofs.YtjlhmgopmdcopaaGreat
open Go.RowKit

theorem al4 (w : World) (o0 o1 o2 o3 : Obj) : ((((w.alloc o0).alloc o1).alloc o2).alloc o3).heap[w.heap.size]? = some o0 ∧ ((((w.alloc o0).alloc o1).alloc o2).alloc o3).heap[w.heap.size + 1]? = some o1 ∧ ((((w.alloc o0).alloc o1).alloc o2).alloc o3).heap[w.heap.size + 2]? = some o2 ∧ ((((w.alloc o0).alloc o1).alloc o2).alloc o3).heap[w.heap.size + 3]? = some o3 := by
  have e : ((w.alloc o0).alloc o1).heap.size = w.heap.size + 2 := by simp only [World.size_alloc]
  refine ⟨?_, ?_, ?_, ?_⟩
  · rw [Below.heap_alloc _ _ _ (by simp only [World.size_alloc]; omega), Below.heap_alloc _ _ _ (by simp only [World.size_alloc]; omega)]; exact al2_old _ _ _
  · rw [Below.heap_alloc _ _ _ (by simp only [World.size_alloc]; omega), Below.heap_alloc _ _ _ (by simp only [World.size_alloc]; omega)]; exact al2_new _ _ _
  · rw [← e]; exact al2_old _ _ _
  · have := al2_new ((w.alloc o0).alloc o1) o2 o3
    rw [e] at this; exact this

end Go.Proofs.YtjlhmgopmdcopaaGreat

