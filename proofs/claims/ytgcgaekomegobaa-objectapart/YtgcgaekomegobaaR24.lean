/- tenonlaw10.lives: the document's examples come. First part: New, Get, Ask. -/
import Derived.Test.YtgcgaekomegobaaR22
import Derived.Test.YtgcgaekomegobaaR23
import Derived.Test.YtgcgaekomegobaaR18
import Derived.Test.YtgcgaekomegobaaR3
import Derived.LoopN
import Derived.Lib.Bytealg
namespace Go.Proofs.Ytgcgaekomegobaa
open Go.RowKit

def tOne : Tm := .mk 3 false 1 0 ByteArray.empty ByteArray.empty 0 .nil .nil ByteArray.empty 0
def tDct : Tm := .mk 9 false 0 0 ByteArray.empty ByteArray.empty 0 .nil (.cons ⟨#[97]⟩ tOne .nil) ByteArray.empty 0

/-- at b lies a Thing 7 with a: 1 -/
def Tg (w : World) (b : Nat) : Prop := ∃ g cap, w.cell? ⟨b, 0, none⟩ = some (.int .u64 7) ∧ w.cell? ⟨b, 1, none⟩ = some (.slice (some ⟨g, 0, none⟩) 1 cap) ∧ w.cell? ⟨g, 0, none⟩ = some (.string ⟨#[97]⟩) ∧ w.cell? ⟨g, 1, none⟩ = some (.iface 2 (.int .i64 1))
theorem Tg.keep {w w' : World} {b : Nat} (h : Tg w b) (hb : Below w.heap.size w w') : Tg w' b := by
  obtain ⟨g, cap, h1, h2, h3, h4⟩ := h
  have l1 := World.block_lt_of_cell? _ _ h1
  have l3 := World.block_lt_of_cell? _ _ h3
  exact ⟨g, cap, by rw [hb.cell (p := ⟨b, 0, none⟩) l1]; exact h1, by rw [hb.cell (p := ⟨b, 1, none⟩) l1]; exact h2, by rw [hb.cell (p := ⟨g, 0, none⟩) l3]; exact h3, by rw [hb.cell (p := ⟨g, 1, none⟩) l3]; exact h4⟩

theorem copy_one (W : World) : Calls Try.prog 21 #[.iface 2 (.int .i64 1)] W fun e w' => e = .returned (.tuple #[.iface 2 (.int .i64 1), .int .i64 0]) ∧ Below W.heap.size W w' := by
  refine (Copy_ok tOne _ W.heap.size W (Nat.le_refl _) (by simp [tOne, Tm.V]) (by decide +kernel)).mono ?_
  rintro e w' ⟨v', rfl, hb, hv⟩
  simp only [tOne, Tm.V] at hv
  obtain ⟨_, _, h3, _⟩ := hv
  rw [h3 trivial]
  exact ⟨rfl, hb⟩

theorem copy_dct (W : World) (g : Nat) (h : W.heap[g]? = some (.cells #[.string ⟨#[97]⟩, .iface 2 (.int .i64 1)] 60)) : Calls Try.prog 21 #[.iface 27 (.slice (some ⟨g, 0, none⟩) 1 1)] W fun e w' => ∃ g' cap, e = .returned (.tuple #[.iface 27 (.slice (some ⟨g', 0, none⟩) 1 cap), .int .i64 0]) ∧ Below W.heap.size W w' ∧ w'.cell? ⟨g', 0, none⟩ = some (.string ⟨#[97]⟩) ∧ w'.cell? ⟨g', 1, none⟩ = some (.iface 2 (.int .i64 1)) := by
  have hg : g < W.heap.size := (Array.getElem?_eq_some_iff.1 h).1
  refine (Copy_ok tDct _ W.heap.size W (Nat.le_refl _) ?_ (by decide +kernel)).mono ?_
  · simp only [tDct, tOne, Tm.V, TmF.V]
    simp
    refine ⟨some ⟨g, 0, none⟩, 1, ⟨rfl, rfl, rfl⟩, ?_, ?_⟩
    · exact Ln.row ⟨_, h, rfl⟩ (by decide) hg
    · exact ⟨g, 0, rfl, hg, by rw [cell_of_row _ _ 0 _ _ _ h]; rfl, by rw [cell_of_row _ _ 1 _ _ _ h]; rfl, by decide⟩
  rintro e w' ⟨v', rfl, hb, hv⟩
  simp only [tDct, Tm.V] at hv
  obtain ⟨_, _, _, _, _, _, _, _, h9, _⟩ := hv
  obtain ⟨a, cap, rfl, hL, hF⟩ := h9 trivial
  simp only [TmF.V] at hF
  obtain ⟨g', o, v, rfl, hB, c0, c1, _, hv1, _⟩ := hF
  have ho : o = 0 := by
    obtain ⟨_, ⟨xs, _, h | ⟨g2, cap2, cur, h, _⟩⟩, _⟩ := hL
    · cases h.1
    · injection h with h1 _ _; injection h1 with h2; injection h2
  subst ho
  simp only [tOne, Tm.V] at hv1
  have e1 := hv1.2.2.1 trivial
  subst e1
  exact ⟨g', cap, rfl, hb, by simpa using c0, by simpa using c1⟩
set_option maxRecDepth 100000 in
set_option maxHeartbeats 2000000 in
theorem New_seven (W : World) (g : Nat) (h : W.heap[g]? = some (.cells #[.string ⟨#[97]⟩, .iface 2 (.int .i64 1)] 60)) :
    Calls Try.prog 6 #[.int .u64 7, .slice (some ⟨g, 0, none⟩) 1 1] W fun e w' => ∃ b, e = .returned (.tuple #[.pointer (some ⟨b, 0, none⟩), .int .i64 0]) ∧ Below W.heap.size W w' ∧ Tg w' b := by
  have HC : Hid (Calls Try.prog 21 #[.iface 27 (.slice (some ⟨g, 0, none⟩) 1 1)] W fun e w' => ∃ g' cap, e = .returned (.tuple #[.iface 27 (.slice (some ⟨g', 0, none⟩) 1 cap), .int .i64 0]) ∧ Below W.heap.size W w' ∧ w'.cell? ⟨g', 0, none⟩ = some (.string ⟨#[97]⟩) ∧ w'.cell? ⟨g', 1, none⟩ = some (.iface 2 (.int .i64 1))) := copy_dct W g h
  clear h
  go_enter Try.func6, Try.ntmps6
  go_wp2_with fail
  refine HC.out.mono ?_
  rintro e w1 ⟨g', cap, rfl, hb, c0, c1⟩
  have HB : Hid (Below W.heap.size W w1) := hb
  have HT : Hid (∀ v u, (w1.alloc (.cells #[.int .u64 7, .slice (some ⟨g', 0, none⟩) 1 cap] v)) = u → Tg u w1.heap.size) := by
    intro v u hu
    subst hu
    have l := World.block_lt_of_cell? _ _ c0
    refine ⟨g', cap, by simp, by simp, ?_, ?_⟩
    · rw [((Below.refl w1.heap.size w1).alloc (Nat.le_refl _) _).cell (p := ⟨g', 0, none⟩) l]; exact c0
    · rw [((Below.refl w1.heap.size w1).alloc (Nat.le_refl _) _).cell (p := ⟨g', 1, none⟩) l]; exact c1
  clear hb c0 c1
  go_wp2_with fail
  go_ret2
  exact ⟨_, rfl, HB.out.alloc HB.out.size _, HT.out _ _ rfl⟩

theorem strCmpO_run (a b : ByteArray) (w : World) : (callFunc 65 #[.string a, .string b]).run Try.prog w = .ok (.value (.int .i64 (Sp.cmpS a b))) w := by
  rw [run_callFunc_extern Try.func65 (by kernel_rfl) (by kernel_rfl) (by kernel_rfl) (e := Extern.BytealgCompare.compare) (by kernel_rfl), Lib.run_compareString]; rfl

set_option maxRecDepth 100000 in
set_option maxHeartbeats 2000000 in
theorem Get_1_a (x : Value) (hx : x = .iface 2 (.int .i64 1)) (w : World) : Calls Try.prog 27 #[.agg #[.string ⟨#[97]⟩, x], .string ⟨#[97]⟩] w fun e w' => e = .returned (.int .i64 0) ∧ Below w.heap.size w w' := by
  subst hx
  have hr := strCmpO_run
  have h0 : Sp.cmpS (⟨#[97]⟩ : ByteArray) ⟨#[97]⟩ = 0 := by decide +kernel
  go_enter Try.func27, Try.ntmps27
  go_wp2
  go_ret
  exact ⟨by first | rfl | simp [h0], (Below.refl _ _).alloc (Nat.le_refl _) _⟩
end Go.Proofs.Ytgcgaekomegobaa

/- tenonlaw10.lives: Get, Ask and Give of the Thing. -/
namespace Go.Proofs.Ytgcgaekomegobaa
open Go.RowKit

set_option maxRecDepth 100000 in
set_option maxHeartbeats 2000000 in
theorem search_a (g cap : Nat) (w : World) (c0 : w.cell? ⟨g, 0, none⟩ = some (.string ⟨#[97]⟩)) (c1 : w.cell? ⟨g, 1, none⟩ = some (.iface 2 (.int .i64 1))) :
    Calls Try.prog 26 #[.slice (some ⟨g, 0, none⟩) 1 cap, .string ⟨#[97]⟩, .func (.func 27) #[] #[]] w fun e w' => e = .returned (.tuple #[.int .i64 0, .bool true]) ∧ Below w.heap.size w w' := by
  have HC : Hid (∀ W, Calls Try.prog 27 #[.agg #[.string ⟨#[97]⟩, .iface 2 (.int .i64 1)], .string ⟨#[97]⟩] W fun e w' => e = .returned (.int .i64 0) ∧ Below W.heap.size W w') := fun W => Get_1_a _ rfl W
  have lg := World.block_lt_of_cell? _ _ c0
  have HLG : Hid (g < w.heap.size) := lg
  clear lg
  go_enter Try.func26, Try.ntmps26
  go_wp2_with fail
  refine wp_loop_rounds 2 ?_
  rw [rounds_succ]
  go_wp2_with fail
  refine (HC.out _).mono ?_
  rintro e w1 ⟨rfl, hb1⟩
  have HB1 : Hid (Below w.heap.size w w1) := hb1
  have d0 : w1.cell? ⟨g, 0, none⟩ = some (.string ⟨#[97]⟩) := by rw [hb1.cell (p := ⟨g, 0, none⟩) HLG.out]; exact c0
  have d1 : w1.cell? ⟨g, 1, none⟩ = some (.iface 2 (.int .i64 1)) := by rw [hb1.cell (p := ⟨g, 1, none⟩) HLG.out]; exact c1
  clear hb1 c0 c1
  go_wp2_with fail
  rw [rounds_succ]
  go_wp2_with fail
  refine (HC.out _).mono ?_
  rintro e w2 ⟨rfl, hb2⟩
  have HB2 : Hid (Below w.heap.size w w2) := HB1.out.trans (hb2.mono HB1.out.size)
  clear hb2 d0 d1
  go_wp2_with fail
  go_ret2
  exact ⟨rfl, HB2.out⟩

set_option maxRecDepth 100000 in
set_option maxHeartbeats 2000000 in
theorem Get_a (b : Nat) (w : World) (hT : Tg w b) :
    Calls Try.prog 12 #[.pointer (some ⟨b, 0, none⟩), .string ⟨#[97]⟩] w fun e w' => e = .returned (.tuple #[.iface 2 (.int .i64 1), .bool true]) ∧ Below w.heap.size w w' := by
  obtain ⟨g, cap, t0, t1, c0, c1⟩ := hT
  have HS := search_a g cap w c0 c1
  have HC : Hid (∀ W, Calls Try.prog 21 #[.iface 2 (.int .i64 1)] W fun e w' => e = .returned (.tuple #[.iface 2 (.int .i64 1), .int .i64 0]) ∧ Below W.heap.size W w') := copy_one
  have HL : Hid (b < w.heap.size ∧ g < w.heap.size) := ⟨World.block_lt_of_cell? _ _ t1, World.block_lt_of_cell? _ _ c0⟩
  have hq : ∀ W, (binOp .eql 29 (.pointer (some ⟨b, 0, none⟩)) (.pointer none)).run Try.prog W = .ok (.bool false) W := fun W => by kernel_rfl
  have hg : ∀ x y W, (eqGuard .eql 29 x y (.pointer (some ⟨b, 0, none⟩)) (.pointer none)).run Try.prog W = .ok () W := fun x y W => by kernel_rfl
  clear t0
  go_enter Try.func12, Try.ntmps12
  go_wp2_with fail
  refine HS.mono ?_
  rintro e w1 ⟨rfl, hb1⟩
  have HB1 : Hid (Below w.heap.size w w1) := hb1
  have d0 : w1.cell? ⟨b, 1, none⟩ = some (.slice (some ⟨g, 0, none⟩) 1 cap) := by rw [hb1.cell (p := ⟨b, 1, none⟩) HL.out.1]; exact t1
  have d1 : w1.cell? ⟨g, 1, none⟩ = some (.iface 2 (.int .i64 1)) := by rw [hb1.cell (p := ⟨g, 1, none⟩) HL.out.2]; exact c1
  clear hb1 c0 c1 t1 HS
  go_wp2_with fail
  refine (HC.out _).mono ?_
  rintro e w2 ⟨rfl, hb2⟩
  have HB2 : Hid (Below w.heap.size w w2) := HB1.out.trans (hb2.mono HB1.out.size)
  clear hb2 d0 d1
  go_wp2_with fail
  go_ret2
  exact ⟨rfl, HB2.out⟩

set_option maxRecDepth 100000 in
set_option maxHeartbeats 2000000 in
theorem got_1_a (b p : Nat) (w : World) (hT : Tg w b) (c0 : w.cell? ⟨p, 0, none⟩ = some (.iface 29 (.pointer (some ⟨b, 0, none⟩)))) (c1 : w.cell? ⟨p + 1, 0, none⟩ = some (.string ⟨#[97]⟩)) (c2 : w.cell? ⟨p + 2, 0, none⟩ = some .nilIface) (c3 : w.cell? ⟨p + 3, 0, none⟩ = some (.bool false)) (z2 : w.frozen? ⟨p + 2, 0, none⟩ = false) (z3 : w.frozen? ⟨p + 3, 0, none⟩ = false) :
    Calls Try.prog 58 #[.pointer (some ⟨p, 0, none⟩), .pointer (some ⟨p + 1, 0, none⟩), .pointer (some ⟨p + 2, 0, none⟩), .pointer (some ⟨p + 3, 0, none⟩)] w fun e w' => e = .returned (.tuple #[]) ∧ ∃ w1, Below w.heap.size w w1 ∧ w' = (w1.setCell ⟨p + 2, 0, none⟩ (.iface 2 (.int .i64 1))).setCell ⟨p + 3, 0, none⟩ (.bool true) := by
  have HG := Get_a b w hT
  have HL : Hid (p + 3 < w.heap.size) := World.block_lt_of_cell? _ _ c3
  clear hT
  go_enter Try.func58, Try.ntmps58
  go_wp2_with fail
  refine HG.mono ?_
  rintro e w1 ⟨rfl, hb1⟩
  have HB1 : Hid (Below w.heap.size w w1) := hb1
  have d2 : w1.cell? ⟨p + 2, 0, none⟩ = some .nilIface := by rw [hb1.cell (p := ⟨p + 2, 0, none⟩) (by have := HL.out; show p + 2 < _; omega)]; exact c2
  have d3 : w1.cell? ⟨p + 3, 0, none⟩ = some (.bool false) := by rw [hb1.cell (p := ⟨p + 3, 0, none⟩) HL.out]; exact c3
  have y2 : w1.frozen? ⟨p + 2, 0, none⟩ = false := by rw [hb1.frozen (p := ⟨p + 2, 0, none⟩) (by have := HL.out; show p + 2 < _; omega)]; exact z2
  have y3 : w1.frozen? ⟨p + 3, 0, none⟩ = false := by rw [hb1.frozen (p := ⟨p + 3, 0, none⟩) HL.out]; exact z3
  have d3' : ∀ v, (w1.setCell ⟨p + 2, 0, none⟩ v).cell? ⟨p + 3, 0, none⟩ = some (.bool false) := fun v => by rw [World.cell?_setCell_other _ _ _ _ (by intro e; injection e with e1 _; omega)]; exact d3
  clear hb1 HG c0 c1 c2 c3 z2 z3
  go_wp2_with fail
  go_end0
  exact ⟨rfl, w1, HB1.out, rfl⟩

set_option maxRecDepth 100000 in
set_option maxHeartbeats 2000000 in
theorem safely_ok (f : Nat) (cap : Array Value) (w : World) (Q : World → Prop) (hcf : ∀ W, Sem.run Try.prog (callFunc f cap) W = .ok (.enter f cap) W) (hQ : Hid (∀ W W', Below w.heap.size W W' → Q W → Q W'))
    (HC : Hid (∀ W1, Below w.heap.size w W1 → W1.heap.size = w.heap.size + 2 → Calls Try.prog f cap W1 fun e w' => Ends 0 0 e ∧ w'.heap[w.heap.size]? = W1.heap[w.heap.size]? ∧ w'.heap[w.heap.size + 1]? = W1.heap[w.heap.size + 1]? ∧ Q w')) :
    Calls Try.prog 57 #[.func (.func f) #[] cap] w fun e w' => e = .returned (.int .i64 0) ∧ Q w' := by
  have HX : Hid (Calls Try.prog 48 #[.func (.func f) #[] cap] w fun e w' => e = .returned (.tuple #[.int .i64 0, .int .i64 0]) ∧ Q w') := caught_any f cap 0 0 w Q hcf hQ HC
  go_enter Try.func57, Try.ntmps57
  go_wp2_with fail
  refine HX.out.mono ?_
  rintro e w1 ⟨rfl, hq⟩
  have HQ : Hid (Q w1) := hq
  clear hq
  go_wp2_with fail
  go_ret
  exact ⟨rfl, HQ.out⟩
end Go.Proofs.Ytgcgaekomegobaa

/- tenonlaw10.lives: Ask and Give of the Thing, and the whole. -/
namespace Go.Proofs.Ytgcgaekomegobaa
open Go.RowKit

theorem al4 (w : World) (o0 o1 o2 o3 : Obj) : ((((w.alloc o0).alloc o1).alloc o2).alloc o3).heap[w.heap.size]? = some o0 ∧ ((((w.alloc o0).alloc o1).alloc o2).alloc o3).heap[w.heap.size + 1]? = some o1 ∧ ((((w.alloc o0).alloc o1).alloc o2).alloc o3).heap[w.heap.size + 2]? = some o2 ∧ ((((w.alloc o0).alloc o1).alloc o2).alloc o3).heap[w.heap.size + 3]? = some o3 := by
  have e : ((w.alloc o0).alloc o1).heap.size = w.heap.size + 2 := by simp only [World.size_alloc]
  refine ⟨?_, ?_, ?_, ?_⟩
  · rw [Below.heap_alloc _ _ _ (by simp only [World.size_alloc]; omega), Below.heap_alloc _ _ _ (by simp only [World.size_alloc]; omega)]; exact al2_old _ _ _
  · rw [Below.heap_alloc _ _ _ (by simp only [World.size_alloc]; omega), Below.heap_alloc _ _ _ (by simp only [World.size_alloc]; omega)]; exact al2_new _ _ _
  · rw [← e]; exact al2_old _ _ _
  · have := al2_new ((w.alloc o0).alloc o1) o2 o3
    rw [e] at this; exact this

theorem got_safe (b : Nat) (w W : World) (hT : Tg w b) (hW : W = (((w.alloc (.cells #[.iface 29 (.pointer (some ⟨b, 0, none⟩))] 88)).alloc (.cells #[.string ⟨#[97]⟩] 9)).alloc (.cells #[.nilIface] 20)).alloc (.cells #[.bool false] 4)) :
    Calls Try.prog 57 #[.func (.func 58) #[] #[.pointer (some ⟨w.heap.size, 0, none⟩), .pointer (some ⟨w.heap.size + 1, 0, none⟩), .pointer (some ⟨w.heap.size + 2, 0, none⟩), .pointer (some ⟨w.heap.size + 3, 0, none⟩)]] W fun e w' => e = .returned (.int .i64 0) ∧ w'.cell? ⟨w.heap.size + 2, 0, none⟩ = some (.iface 2 (.int .i64 1)) ∧ w'.cell? ⟨w.heap.size + 3, 0, none⟩ = some (.bool true) ∧ Below w.heap.size w w' := by
  have hs : W.heap.size = w.heap.size + 4 := by subst hW; simp only [World.size_alloc]
  have hb : Below w.heap.size w W := by subst hW; exact ((((Below.refl _ _).alloc (Nat.le_refl _) _).alloc (by simp only [World.size_alloc]; omega) _).alloc (by simp only [World.size_alloc]; omega) _).alloc (by simp only [World.size_alloc]; omega) _
  obtain ⟨g0, g1, g2, g3⟩ := al4 w (.cells #[.iface 29 (.pointer (some ⟨b, 0, none⟩))] 88) (.cells #[.string ⟨#[97]⟩] 9) (.cells #[.nilIface] 20) (.cells #[.bool false] 4)
  rw [← hW] at g0 g1 g2 g3
  clear hW
  refine (safely_ok _ _ W (fun w' => w'.cell? ⟨w.heap.size + 2, 0, none⟩ = some (.iface 2 (.int .i64 1)) ∧ w'.cell? ⟨w.heap.size + 3, 0, none⟩ = some (.bool true) ∧ Below w.heap.size w w') (fun W => by kernel_rfl) ?_ ?_)
  · intro X Y hXY ⟨h1, h2, h3⟩
    rw [hs] at hXY
    exact ⟨(hXY.cell (p := ⟨w.heap.size + 2, 0, none⟩) (by show w.heap.size + 2 < _; omega)).trans h1, (hXY.cell (p := ⟨w.heap.size + 3, 0, none⟩) (by show w.heap.size + 3 < _; omega)).trans h2, h3.trans (hXY.mono (by omega))⟩
  · intro W1 hb1 hs1
    rw [hs] at hb1 hs1
    have k0 := (hb1.block w.heap.size (by omega)).trans g0
    have k1 := (hb1.block (w.heap.size + 1) (by omega)).trans g1
    have k2 := (hb1.block (w.heap.size + 2) (by omega)).trans g2
    have k3 := (hb1.block (w.heap.size + 3) (by omega)).trans g3
    have hwb : Below w.heap.size w W1 := hb.trans (hb1.mono (by omega))
    refine (got_1_a b w.heap.size W1 (hT.keep hwb) (by rw [cell_of_row _ _ 0 _ _ _ k0]; rfl) (by rw [cell_of_row _ _ 0 _ _ _ k1]; rfl) (by rw [cell_of_row _ _ 0 _ _ _ k2]; rfl) (by rw [cell_of_row _ _ 0 _ _ _ k3]; rfl) (frozen_of_row _ _ 0 _ _ k2) (frozen_of_row _ _ 0 _ _ k3)).mono ?_
    rintro e w' ⟨rfl, w1, hb2, rfl⟩
    have c2 : w1.cell? ⟨w.heap.size + 2, 0, none⟩ = some .nilIface := by rw [hb2.cell (p := ⟨w.heap.size + 2, 0, none⟩) (by show w.heap.size + 2 < _; omega), cell_of_row _ _ 0 _ _ _ k2]; rfl
    have c3 : w1.cell? ⟨w.heap.size + 3, 0, none⟩ = some (.bool false) := by rw [hb2.cell (p := ⟨w.heap.size + 3, 0, none⟩) (by show w.heap.size + 3 < _; omega), cell_of_row _ _ 0 _ _ _ k3]; rfl
    have hk : ∀ j (u v : Value), j < W1.heap.size → j ≠ w.heap.size + 2 → j ≠ w.heap.size + 3 → ((w1.setCell ⟨w.heap.size + 2, 0, none⟩ u).setCell ⟨w.heap.size + 3, 0, none⟩ v).heap[j]? = W1.heap[j]? := fun j u v h1 h2 h3 => (Below.heap_setCell _ _ _ _ h3).trans ((Below.heap_setCell _ _ _ _ h2).trans (hb2.block j h1))
    refine ⟨.inl ⟨rfl, rfl, rfl⟩, ?_, ?_, ?_, ?_, ?_⟩
    · rw [hs]; exact hk _ _ _ (by omega) (by omega) (by omega)
    · rw [hs]; exact hk _ _ _ (by omega) (by omega) (by omega)
    · rw [World.cell?_setCell_other _ _ _ _ (by intro e; injection e with e1 _; omega)]; exact sc_eq' c2
    · exact sc_eq' (by rw [World.cell?_setCell_other _ _ _ _ (by intro e; injection e with e1 _; omega)]; exact c3)
    · exact ((hwb.trans (hb2.mono (by omega))).setCell (p := ⟨w.heap.size + 2, 0, none⟩) (by show _ ≤ w.heap.size + 2; omega) _).setCell (p := ⟨w.heap.size + 3, 0, none⟩) (by show _ ≤ w.heap.size + 3; omega) _

set_option maxRecDepth 100000 in
set_option maxHeartbeats 2000000 in
theorem got_a (b : Nat) (w : World) (hT : Tg w b) :
    Calls Try.prog 38 #[.iface 29 (.pointer (some ⟨b, 0, none⟩)), .string ⟨#[97]⟩] w fun e w' => e = .returned (.tuple #[.iface 2 (.int .i64 1), .bool true, .int .i64 0]) ∧ Below w.heap.size w w' := by
  have hmf : ∀ (fn : Fn) (first cap : Array Value) (w : World), (Instr.makeFunc fn first cap).run Try.prog w = .ok (.func fn first cap) w := fun _ _ _ _ => rfl
  have HS : Hid (∀ W, W = _ → _) := fun W hW => got_safe b w W hT hW
  have HC : Hid (∀ W, Calls Try.prog 21 #[.iface 2 (.int .i64 1)] W fun e w' => e = .returned (.tuple #[.iface 2 (.int .i64 1), .int .i64 0]) ∧ Below W.heap.size W w') := copy_one
  clear hT
  go_enter Try.func38, Try.ntmps38
  go_wp2_with fail
  refine (HS.out _ rfl).mono ?_
  rintro e w1 ⟨rfl, c2, c3, hb1⟩
  have HB1 : Hid (Below w.heap.size w w1) := hb1
  replace c2 : w1.cell? ⟨w.heap.size + 1 + 1, 0, none⟩ = some (.iface 2 (.int .i64 1)) := c2
  replace c3 : w1.cell? ⟨w.heap.size + 1 + 1 + 1, 0, none⟩ = some (.bool true) := c3
  clear hb1
  go_wp2_with fail
  refine (HC.out _).mono ?_
  rintro e w2 ⟨rfl, hb2⟩
  have HB2 : Hid (Below w.heap.size w w2) := HB1.out.trans (hb2.mono HB1.out.size)
  clear hb2 c2 c3
  go_wp2_with fail
  go_ret3
  exact ⟨rfl, HB2.out⟩

set_option maxRecDepth 100000 in
set_option maxHeartbeats 2000000 in
theorem Load_thing (b : Nat) (w : World) :
    Calls Try.prog 37 #[.iface 29 (.pointer (some ⟨b, 0, none⟩))] w fun e w' => e = .returned (.int .i64 0) ∧ Below w.heap.size w w' := by
  have HS : Hid (∀ W, Calls Try.prog 35 #[.iface 29 (.pointer (some ⟨b, 0, none⟩))] W fun e w' => e = .returned (.int .i64 0) ∧ W = w') := fun W => holds_thing _ W
  have HA : Hid (∀ W, Calls Try.prog 55 #[.iface 29 (.pointer (some ⟨b, 0, none⟩))] W fun e w' => e = .returned (.tuple #[.nilIface, .bool false]) ∧ W = w') := fun W => as_Lazy Ab_thing _ W
  go_enter Try.func37, Try.ntmps37
  go_wp2_with (first | (go_at_call 35; refine (HS.out _).mono ?_; rintro e w' ⟨rfl, rfl⟩) | (go_at_call 55; refine (HA.out _).mono ?_; rintro e w' ⟨rfl, rfl⟩))
  go_ret
  exact ⟨rfl, (Below.refl _ _).alloc (Nat.le_refl _) _⟩

set_option maxRecDepth 100000 in
set_option maxHeartbeats 2000000 in
theorem Ask_a (b : Nat) (w : World) (hT : Tg w b) :
    Calls Try.prog 18 #[.iface 29 (.pointer (some ⟨b, 0, none⟩)), .string ⟨#[97]⟩] w fun e w' => e = .returned (.tuple #[.iface 2 (.int .i64 1), .bool true, .int .i64 0]) ∧ Below w.heap.size w w' := by
  have HS : Hid (∀ W, Calls Try.prog 35 #[.iface 29 (.pointer (some ⟨b, 0, none⟩))] W fun e w' => e = .returned (.int .i64 0) ∧ W = w') := fun W => holds_thing _ W
  have HN : Hid (∀ W, Calls Try.prog 36 #[.string ⟨#[97]⟩] W fun e w' => e = .returned (.bool true) ∧ W = w') := fun W => isName_any _ W (by decide)
  have HL : Hid (∀ W, Calls Try.prog 37 #[.iface 29 (.pointer (some ⟨b, 0, none⟩))] W fun e w' => e = .returned (.int .i64 0) ∧ Below W.heap.size W w') := fun W => Load_thing b W
  have HG : Hid (∀ W, Tg W b → Calls Try.prog 38 #[.iface 29 (.pointer (some ⟨b, 0, none⟩)), .string ⟨#[97]⟩] W fun e w' => e = .returned (.tuple #[.iface 2 (.int .i64 1), .bool true, .int .i64 0]) ∧ Below W.heap.size W w') := fun W h => got_a b W h
  have HT : Hid (Tg w b) := hT
  clear hT
  go_enter Try.func18, Try.ntmps18
  go_wp2_with (first | (go_at_call 35; refine (HS.out _).mono ?_; rintro e w' ⟨rfl, rfl⟩) | (go_at_call 36; refine (HN.out _).mono ?_; rintro e w' ⟨rfl, rfl⟩))
  refine (HL.out _).mono ?_
  rintro e w1 ⟨rfl, hb1⟩
  have HB1 : Hid (Below w.heap.size w w1) := hb1
  clear hb1
  go_wp2_with fail
  refine (HG.out _ (HT.out.keep HB1.out)).mono ?_
  rintro e w2 ⟨rfl, hb2⟩
  have HB2 : Hid (Below w.heap.size w w2) := HB1.out.trans (hb2.mono HB1.out.size)
  clear hb2
  go_wp2_with fail
  go_ret3
  exact ⟨rfl, HB2.out⟩

set_option maxRecDepth 100000 in
set_option maxHeartbeats 2000000 in
theorem Give_ann (b : Nat) (w : World) :
    Calls Try.prog 33 #[.iface 29 (.pointer (some ⟨b, 0, none⟩)), .string ⟨#[97, 110, 110]⟩] w fun e w' => e = .returned (.int .i64 100) ∧ Below w.heap.size w w' := by
  have HS : Hid (∀ W, Calls Try.prog 35 #[.iface 29 (.pointer (some ⟨b, 0, none⟩))] W fun e w' => e = .returned (.int .i64 0) ∧ W = w') := fun W => holds_thing _ W
  have HN : Hid (∀ W, Calls Try.prog 36 #[.string ⟨#[97, 110, 110]⟩] W fun e w' => e = .returned (.bool true) ∧ W = w') := fun W => isName_any _ W (by decide)
  have HA : Hid (∀ W, Calls Try.prog 50 #[.iface 29 (.pointer (some ⟨b, 0, none⟩))] W fun e w' => e = .returned (.tuple #[.nilIface, .bool false]) ∧ W = w') := fun W => as_Owned Ab_thing _ W
  go_enter Try.func33, Try.ntmps33
  go_wp2_with (first | (go_at_call 35; refine (HS.out _).mono ?_; rintro e w' ⟨rfl, rfl⟩) | (go_at_call 36; refine (HN.out _).mono ?_; rintro e w' ⟨rfl, rfl⟩) | (go_at_call 50; refine (HA.out _).mono ?_; rintro e w' ⟨rfl, rfl⟩))
  go_ret
  exact ⟨rfl, ((Below.refl _ _).alloc (Nat.le_refl _) _).alloc (by simp) _⟩

set_option maxRecDepth 100000 in
set_option maxHeartbeats 2000000 in
theorem lives_1_a (b p : Nat) (w : World) (hc : w.cell? ⟨p, 0, none⟩ = some (.pointer (some ⟨b, 0, none⟩))) :
    Calls Try.prog 31 #[.pointer (some ⟨p, 0, none⟩)] w fun e w' => Ends 1 9 e ∧ Below w.heap.size w w' := by
  have HM : Hid (Calls Try.prog 32 #[.iface 29 (.pointer (some ⟨b, 0, none⟩))] w fun e w' => MustE false (.iface 29 (.pointer (some ⟨b, 0, none⟩))) w e w') := Must_Owned Ab_thing _ w
  go_enter Try.func31, Try.ntmps31
  go_wp2_with fail
  refine HM.out.mono ?_
  rintro e w' ⟨pv, rfl, hk, hbw⟩
  exact ⟨rfl, .inr ⟨pv, rfl, hk⟩, hbw⟩
end Go.Proofs.Ytgcgaekomegobaa

