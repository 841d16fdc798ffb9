/- The Go function tenonlaw08.EvolveSound returns true. -/
import Derived.Test.YtbjcabpmndhfmaaGreatQ43
import Derived.Test.YtbjcabpmndhfmaaGreatQ49
namespace Go.Proofs.YtbjcabpmndhfmaaGreat
open Go.RowKit

set_option maxRecDepth 100000 in
set_option maxHeartbeats 4000000 in
theorem EvolveSound_any (nm pn : ByteArray) (vr pv : Int) (ab : Bool) (fs : List Fo) (af : Option Addr) (cf : Nat) (B : Nat → Prop) (w : World) (h : (Cl.mk nm vr pn pv ab fs).At w B af) (hB : Sub B w) :
    Calls Tryz.prog 3 #[.agg #[.string nm, .int .i64 vr, .string pn, .int .i64 pv, .bool ab, .slice af fs.length cf]] w fun e w' => e = .returned (.bool true) ∧ Below w.heap.size w w' := by
  obtain ⟨W1, hW1⟩ : ∃ W1, w.alloc (.cells #[.string nm, .int .i64 vr, .string pn, .int .i64 pv, .bool ab, .slice af fs.length cf] 24) = W1 := ⟨_, rfl⟩
  have hbx : Below w.heap.size w W1 := hW1 ▸ ((Below.refl _ _).alloc (Nat.le_refl _) _)
  have HB : Hid (Below w.heap.size w W1) := hbx
  have HR : Hid (∀ W, Below W1.heap.size W1 W → W.cell? ⟨w.heap.size, 0, none⟩ = some (.string nm) ∧ W.cell? ⟨w.heap.size, 1, none⟩ = some (.int .i64 vr) ∧ W.cell? ⟨w.heap.size, 2, none⟩ = some (.string pn) ∧ W.cell? ⟨w.heap.size, 3, none⟩ = some (.int .i64 pv) ∧ W.cell? ⟨w.heap.size, 4, none⟩ = some (.bool ab) ∧ W.cell? ⟨w.heap.size, 5, none⟩ = some (.slice af fs.length cf)) := fun W hW => by
    have hh : W.heap[w.heap.size]? = some (.cells #[.string nm, .int .i64 vr, .string pn, .int .i64 pv, .bool ab, .slice af fs.length cf] 24 (0, 0)) := by
      rw [hW.block w.heap.size (by rw [← hW1]; simp), ← hW1]; exact heap_alloc_new w _
    have hc : ∀ j, W.cell? ⟨w.heap.size, j, none⟩ = (#[.string nm, .int .i64 vr, .string pn, .int .i64 pv, .bool ab, .slice af fs.length cf] : Array Value)[j]? := fun j => cell_of_row _ _ _ _ _ _ hh
    exact ⟨hc 0, hc 1, hc 2, hc 3, hc 4, hc 5⟩
  have hAt : ∀ W, Below W1.heap.size W1 W → (Cl.mk nm vr pn pv ab fs).At W B af ∧ Sub B W := fun W hW => by
    have hb := below_to hbx hW
    exact ⟨⟨h.nm, h.pn, h.vr, h.pv, h.len, h.fs.same (hB.same hb) (fun _ h => h)⟩, hB.later hb⟩
  have HP : Hid (∀ W, Below W1.heap.size W1 W → Calls Tryz.prog 4 #[.agg #[.string nm, .int .i64 vr, .string pn, .int .i64 pv, .bool ab, .slice af fs.length cf]] W fun e w' => e = .returned (.tuple #[.string (Sp.snd ⟨nm, vr, pn, pv, ab, fs⟩).1, .int .i64 (Sp.snd ⟨nm, vr, pn, pv, ab, fs⟩).2]) ∧ Below W.heap.size W w') := fun W hW => sp_any nm pn vr pv ab fs af cf B W (hAt W hW).1 (hAt W hW).2
  have HQ : Hid (∀ W, Below W1.heap.size W1 W → Calls Tryz.prog 5 #[.agg #[.string nm, .int .i64 vr, .string pn, .int .i64 pv, .bool ab, .slice af fs.length cf]] W fun e w' => e = .returned (.tuple #[.string (Sp.snd ⟨nm, vr, pn, pv, ab, fs⟩).1, .int .i64 (Sp.snd ⟨nm, vr, pn, pv, ab, fs⟩).2]) ∧ Below W.heap.size W w') := fun W hW => sr_any nm pn vr pv ab fs af cf B W (hAt W hW).1 (hAt W hW).2
  clear h hB hbx hAt
  generalize Sp.snd ⟨nm, vr, pn, pv, ab, fs⟩ = r at *
  obtain ⟨r1, r2⟩ := r
  obtain ⟨b0, b1, b2, b3, b4, b5⟩ := HR.out W1 (Below.refl _ _)
  go_enter Tryz.func3, Tryz.ntmps3
  go_wp2_with fail
  refine (HP.out _ (Below.refl _ _)).mono ?_
  rintro e w2 ⟨rfl, hb2⟩
  obtain ⟨a0, a1, a2, a3, a4, a5⟩ := HR.out w2 hb2
  have HB2 : Hid (Below W1.heap.size W1 w2) := hb2
  clear hb2
  go_wp2_with fail
  refine (HQ.out w2 HB2.out).mono ?_
  rintro e w3 ⟨rfl, hb3⟩
  have H3 : Hid (Below w.heap.size w w3) := below_to (below_to HB.out HB2.out) hb3
  clear hb3
  go_wp2_with fail
  go_ret
  exact ⟨rfl, H3.out⟩
end Go.Proofs.YtbjcabpmndhfmaaGreat

