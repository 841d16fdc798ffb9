/- tenonref06.count: how many types are in a type. -/
import Derived.Test.YtbjcabpmndhfmaaGreatQ44
import Derived.Test.YtbjcabpmndhfmaaGreatQ37
namespace Go.Proofs.YtbjcabpmndhfmaaGreat
open Go.RowKit

def CntC (N : Nat) : Prop := ∀ t : Ty, t.sz ≤ N → ∀ (cs : Array Value) (B : Nat → Prop) (w : World) (d : Int), t.In w B cs → Sub B w → 1 ≤ d → d ≤ 65 → Calls Tryz.prog 30 #[.agg cs, .int .i64 d] w fun e w' => e = .returned (.int .i64 (t.cntR d)) ∧ Below w.heap.size w w'
theorem ret_i64 {a b : Int} (h : a = b) : Ending.returned (.int .i64 a) = .returned (.int .i64 b) := by rw [h]
theorem bx_below (w : World) (cs : Array Value) : Below w.heap.size w (w.alloc (.cells cs 43)) := (Below.refl _ _).alloc (Nat.le_refl _) _
theorem bx_cell {w W : World} {cs : Array Value} {j : Nat} {v : Value} (h : Below (w.alloc (.cells cs 43)).heap.size (w.alloc (.cells cs 43)) W) (hj : cs[j]? = some v) : W.cell? ⟨w.heap.size, j, none⟩ = some v := by
  rw [h.cell (p := ⟨w.heap.size, j, none⟩) (by simp), cell_of_row _ _ _ _ _ _ (heap_alloc_new w _)]; exact hj
section
variable (k o : Int) (t : Tm) (p : TyL) (n : List ByteArray) (l : List Bool) (op : Bool) (c : ByteArray) (cs : Array Value) (B : Nat → Prop) (w : World) (d : Int)
set_option maxRecDepth 100000 in
set_option maxHeartbeats 2000000 in
theorem cnt_deep (hs : (Ty.mk k o t p n l op c).In w B cs) (_h1 : 1 ≤ d) (_h2 : d ≤ 65) (hd : 64 < d) : Calls Tryz.prog 30 #[.agg cs, .int .i64 d] w fun e w' => e = .returned (.int .i64 ((Ty.mk k o t p n l op c).cntR d)) ∧ Below w.heap.size w w' := by
  obtain ⟨hz, c0, c1, -, c17, ap, cp, an, cn, ak, ck, c13, c14, c15, hp, hn, hl, hk, ⟨hpl, hnl, hll, hcl⟩⟩ := Ty.In_all hs
  have HX : Hid ((Ty.mk k o t p n l op c).cntR d = -1) := by
    show _ = _; simp only [Ty.cntR]; rw [if_pos hd]
  have HB : Hid (Below w.heap.size w (w.alloc (.cells cs 43))) := bx_below w cs
  have a0 : (w.alloc (.cells cs 43)).cell? ⟨w.heap.size, 0, none⟩ = some (.int .i64 k) := bx_cell (Below.refl _ _) c0
  have a1 : (w.alloc (.cells cs 43)).cell? ⟨w.heap.size, 1, none⟩ = some (.int .i64 o) := bx_cell (Below.refl _ _) c1
  have a13 : (w.alloc (.cells cs 43)).cell? ⟨w.heap.size, 13, none⟩ = some (.slice ap p.len cp) := bx_cell (Below.refl _ _) c13
  have a14 : (w.alloc (.cells cs 43)).cell? ⟨w.heap.size, 14, none⟩ = some (.slice an n.length cn) := bx_cell (Below.refl _ _) c14
  have a15 : (w.alloc (.cells cs 43)).cell? ⟨w.heap.size, 15, none⟩ = some (.slice ak l.length ck) := bx_cell (Below.refl _ _) c15
  clear hs hp hn hl c0 c1 c13 c14 c15 c17
  go_enter Tryz.func30, Tryz.ntmps30
  go_wp2_with fail
  go_ret
  exact ⟨ret_i64 HX.out.symm, HB.out⟩
set_option maxRecDepth 100000 in
set_option maxHeartbeats 2000000 in
theorem cnt_1 (hs : (Ty.mk 1 o t p n l op c).In w B cs) (_h1 : 1 ≤ d) (_h2 : d ≤ 65) (hd : ¬ 64 < d) : Calls Tryz.prog 30 #[.agg cs, .int .i64 d] w fun e w' => e = .returned (.int .i64 ((Ty.mk 1 o t p n l op c).cntR d)) ∧ Below w.heap.size w w' := by
  obtain ⟨hz, c0, c1, -, c17, ap, cp, an, cn, ak, ck, c13, c14, c15, hp, hn, hl, hk, ⟨hpl, hnl, hll, hcl⟩⟩ := Ty.In_all hs
  have HX : Hid ((Ty.mk 1 o t p n l op c).cntR d = 1) := by
    show _ = _; simp only [Ty.cntR]; rw [if_neg hd]; simp [Ty.own, Sp.parted]
  have HB : Hid (Below w.heap.size w (w.alloc (.cells cs 43))) := bx_below w cs
  have a0 : (w.alloc (.cells cs 43)).cell? ⟨w.heap.size, 0, none⟩ = some (.int .i64 1) := bx_cell (Below.refl _ _) c0
  have a1 : (w.alloc (.cells cs 43)).cell? ⟨w.heap.size, 1, none⟩ = some (.int .i64 o) := bx_cell (Below.refl _ _) c1
  have a13 : (w.alloc (.cells cs 43)).cell? ⟨w.heap.size, 13, none⟩ = some (.slice ap p.len cp) := bx_cell (Below.refl _ _) c13
  have a14 : (w.alloc (.cells cs 43)).cell? ⟨w.heap.size, 14, none⟩ = some (.slice an n.length cn) := bx_cell (Below.refl _ _) c14
  have a15 : (w.alloc (.cells cs 43)).cell? ⟨w.heap.size, 15, none⟩ = some (.slice ak l.length ck) := bx_cell (Below.refl _ _) c15
  clear hs hp hn hl c0 c1 c13 c14 c15 c17
  go_enter Tryz.func30, Tryz.ntmps30
  go_wp2_with fail
  go_ret
  exact ⟨ret_i64 HX.out.symm, HB.out⟩
set_option maxRecDepth 100000 in
set_option maxHeartbeats 2000000 in
theorem cnt_2 (hs : (Ty.mk 2 o t p n l op c).In w B cs) (_h1 : 1 ≤ d) (_h2 : d ≤ 65) (hd : ¬ 64 < d) : Calls Tryz.prog 30 #[.agg cs, .int .i64 d] w fun e w' => e = .returned (.int .i64 ((Ty.mk 2 o t p n l op c).cntR d)) ∧ Below w.heap.size w w' := by
  obtain ⟨hz, c0, c1, -, c17, ap, cp, an, cn, ak, ck, c13, c14, c15, hp, hn, hl, hk, ⟨hpl, hnl, hll, hcl⟩⟩ := Ty.In_all hs
  have HX : Hid ((Ty.mk 2 o t p n l op c).cntR d = 1) := by
    show _ = _; simp only [Ty.cntR]; rw [if_neg hd]; simp [Ty.own, Sp.parted]
  have HB : Hid (Below w.heap.size w (w.alloc (.cells cs 43))) := bx_below w cs
  have a0 : (w.alloc (.cells cs 43)).cell? ⟨w.heap.size, 0, none⟩ = some (.int .i64 2) := bx_cell (Below.refl _ _) c0
  have a1 : (w.alloc (.cells cs 43)).cell? ⟨w.heap.size, 1, none⟩ = some (.int .i64 o) := bx_cell (Below.refl _ _) c1
  have a13 : (w.alloc (.cells cs 43)).cell? ⟨w.heap.size, 13, none⟩ = some (.slice ap p.len cp) := bx_cell (Below.refl _ _) c13
  have a14 : (w.alloc (.cells cs 43)).cell? ⟨w.heap.size, 14, none⟩ = some (.slice an n.length cn) := bx_cell (Below.refl _ _) c14
  have a15 : (w.alloc (.cells cs 43)).cell? ⟨w.heap.size, 15, none⟩ = some (.slice ak l.length ck) := bx_cell (Below.refl _ _) c15
  clear hs hp hn hl c0 c1 c13 c14 c15 c17
  go_enter Tryz.func30, Tryz.ntmps30
  go_wp2_with fail
  go_ret
  exact ⟨ret_i64 HX.out.symm, HB.out⟩
set_option maxRecDepth 100000 in
set_option maxHeartbeats 2000000 in
theorem cnt_3a (hs : (Ty.mk 3 o t p n l op c).In w B cs) (_h1 : 1 ≤ d) (_h2 : d ≤ 65) (hd : ¬ 64 < d) (ho : 1 ≤ o ∧ o ≤ 10) : Calls Tryz.prog 30 #[.agg cs, .int .i64 d] w fun e w' => e = .returned (.int .i64 ((Ty.mk 3 o t p n l op c).cntR d)) ∧ Below w.heap.size w w' := by
  obtain ⟨hz, c0, c1, -, c17, ap, cp, an, cn, ak, ck, c13, c14, c15, hp, hn, hl, hk, ⟨hpl, hnl, hll, hcl⟩⟩ := Ty.In_all hs
  have HX : Hid ((Ty.mk 3 o t p n l op c).cntR d = 1) := by
    show _ = _; simp only [Ty.cntR]; rw [if_neg hd]; simp [Ty.own, Sp.parted, ho]
  have HB : Hid (Below w.heap.size w (w.alloc (.cells cs 43))) := bx_below w cs
  have a0 : (w.alloc (.cells cs 43)).cell? ⟨w.heap.size, 0, none⟩ = some (.int .i64 3) := bx_cell (Below.refl _ _) c0
  have a1 : (w.alloc (.cells cs 43)).cell? ⟨w.heap.size, 1, none⟩ = some (.int .i64 o) := bx_cell (Below.refl _ _) c1
  have a13 : (w.alloc (.cells cs 43)).cell? ⟨w.heap.size, 13, none⟩ = some (.slice ap p.len cp) := bx_cell (Below.refl _ _) c13
  have a14 : (w.alloc (.cells cs 43)).cell? ⟨w.heap.size, 14, none⟩ = some (.slice an n.length cn) := bx_cell (Below.refl _ _) c14
  have a15 : (w.alloc (.cells cs 43)).cell? ⟨w.heap.size, 15, none⟩ = some (.slice ak l.length ck) := bx_cell (Below.refl _ _) c15
  clear hs hp hn hl c0 c1 c13 c14 c15 c17
  obtain ⟨ho1, ho2⟩ := ho
  go_enter Tryz.func30, Tryz.ntmps30
  go_wp2_with fail
  go_ret
  exact ⟨ret_i64 HX.out.symm, HB.out⟩
set_option maxRecDepth 100000 in
set_option maxHeartbeats 2000000 in
theorem cnt_3b (hs : (Ty.mk 3 o t p n l op c).In w B cs) (_h1 : 1 ≤ d) (_h2 : d ≤ 65) (hd : ¬ 64 < d) (ho : o < 1) : Calls Tryz.prog 30 #[.agg cs, .int .i64 d] w fun e w' => e = .returned (.int .i64 ((Ty.mk 3 o t p n l op c).cntR d)) ∧ Below w.heap.size w w' := by
  obtain ⟨hz, c0, c1, -, c17, ap, cp, an, cn, ak, ck, c13, c14, c15, hp, hn, hl, hk, ⟨hpl, hnl, hll, hcl⟩⟩ := Ty.In_all hs
  have HX : Hid ((Ty.mk 3 o t p n l op c).cntR d = -1) := by
    show _ = _; simp only [Ty.cntR]; rw [if_neg hd]; simp [Ty.own]; omega
  have HB : Hid (Below w.heap.size w (w.alloc (.cells cs 43))) := bx_below w cs
  have a0 : (w.alloc (.cells cs 43)).cell? ⟨w.heap.size, 0, none⟩ = some (.int .i64 3) := bx_cell (Below.refl _ _) c0
  have a1 : (w.alloc (.cells cs 43)).cell? ⟨w.heap.size, 1, none⟩ = some (.int .i64 o) := bx_cell (Below.refl _ _) c1
  have a13 : (w.alloc (.cells cs 43)).cell? ⟨w.heap.size, 13, none⟩ = some (.slice ap p.len cp) := bx_cell (Below.refl _ _) c13
  have a14 : (w.alloc (.cells cs 43)).cell? ⟨w.heap.size, 14, none⟩ = some (.slice an n.length cn) := bx_cell (Below.refl _ _) c14
  have a15 : (w.alloc (.cells cs 43)).cell? ⟨w.heap.size, 15, none⟩ = some (.slice ak l.length ck) := bx_cell (Below.refl _ _) c15
  clear hs hp hn hl c0 c1 c13 c14 c15 c17
  go_enter Tryz.func30, Tryz.ntmps30
  go_wp2_with fail
  go_ret
  exact ⟨ret_i64 HX.out.symm, HB.out⟩
set_option maxRecDepth 100000 in
set_option maxHeartbeats 2000000 in
theorem cnt_3c (hs : (Ty.mk 3 o t p n l op c).In w B cs) (_h1 : 1 ≤ d) (_h2 : d ≤ 65) (hd : ¬ 64 < d) (ho : 10 < o) : Calls Tryz.prog 30 #[.agg cs, .int .i64 d] w fun e w' => e = .returned (.int .i64 ((Ty.mk 3 o t p n l op c).cntR d)) ∧ Below w.heap.size w w' := by
  obtain ⟨hz, c0, c1, -, c17, ap, cp, an, cn, ak, ck, c13, c14, c15, hp, hn, hl, hk, ⟨hpl, hnl, hll, hcl⟩⟩ := Ty.In_all hs
  have HX : Hid ((Ty.mk 3 o t p n l op c).cntR d = -1) := by
    show _ = _; simp only [Ty.cntR]; rw [if_neg hd]; simp [Ty.own]; omega
  have HB : Hid (Below w.heap.size w (w.alloc (.cells cs 43))) := bx_below w cs
  have a0 : (w.alloc (.cells cs 43)).cell? ⟨w.heap.size, 0, none⟩ = some (.int .i64 3) := bx_cell (Below.refl _ _) c0
  have a1 : (w.alloc (.cells cs 43)).cell? ⟨w.heap.size, 1, none⟩ = some (.int .i64 o) := bx_cell (Below.refl _ _) c1
  have a13 : (w.alloc (.cells cs 43)).cell? ⟨w.heap.size, 13, none⟩ = some (.slice ap p.len cp) := bx_cell (Below.refl _ _) c13
  have a14 : (w.alloc (.cells cs 43)).cell? ⟨w.heap.size, 14, none⟩ = some (.slice an n.length cn) := bx_cell (Below.refl _ _) c14
  have a15 : (w.alloc (.cells cs 43)).cell? ⟨w.heap.size, 15, none⟩ = some (.slice ak l.length ck) := bx_cell (Below.refl _ _) c15
  clear hs hp hn hl c0 c1 c13 c14 c15 c17
  have ho' : ¬ o < 1 := by omega
  go_enter Tryz.func30, Tryz.ntmps30
  go_wp2_with fail
  go_ret
  exact ⟨ret_i64 HX.out.symm, HB.out⟩
set_option maxRecDepth 100000 in
set_option maxHeartbeats 2000000 in
theorem cnt_other (hs : (Ty.mk k o t p n l op c).In w B cs) (_h1 : 1 ≤ d) (_h2 : d ≤ 65) (hd : ¬ 64 < d) (k1 : k ≠ 1) (k2 : k ≠ 2) (k3 : k ≠ 3) (k4 : k ≠ 4) (k5 : k ≠ 5) (k6 : k ≠ 6) (k7 : k ≠ 7) (k8 : k ≠ 8) : Calls Tryz.prog 30 #[.agg cs, .int .i64 d] w fun e w' => e = .returned (.int .i64 ((Ty.mk k o t p n l op c).cntR d)) ∧ Below w.heap.size w w' := by
  obtain ⟨hz, c0, c1, -, c17, ap, cp, an, cn, ak, ck, c13, c14, c15, hp, hn, hl, hk, ⟨hpl, hnl, hll, hcl⟩⟩ := Ty.In_all hs
  have HX : Hid ((Ty.mk k o t p n l op c).cntR d = -1) := by
    show _ = _; simp only [Ty.cntR]; rw [if_neg hd, if_neg k4]; simp [Ty.own, k1, k2, k3, k4, k5, k6, k7, k8]
  have HB : Hid (Below w.heap.size w (w.alloc (.cells cs 43))) := bx_below w cs
  have a0 : (w.alloc (.cells cs 43)).cell? ⟨w.heap.size, 0, none⟩ = some (.int .i64 k) := bx_cell (Below.refl _ _) c0
  have a1 : (w.alloc (.cells cs 43)).cell? ⟨w.heap.size, 1, none⟩ = some (.int .i64 o) := bx_cell (Below.refl _ _) c1
  have a13 : (w.alloc (.cells cs 43)).cell? ⟨w.heap.size, 13, none⟩ = some (.slice ap p.len cp) := bx_cell (Below.refl _ _) c13
  have a14 : (w.alloc (.cells cs 43)).cell? ⟨w.heap.size, 14, none⟩ = some (.slice an n.length cn) := bx_cell (Below.refl _ _) c14
  have a15 : (w.alloc (.cells cs 43)).cell? ⟨w.heap.size, 15, none⟩ = some (.slice ak l.length ck) := bx_cell (Below.refl _ _) c15
  clear hs hp hn hl c0 c1 c13 c14 c15 c17
  have b1 : (k == 1) = false := by simp [k1]
  have b2 : (k == 2) = false := by simp [k2]
  have b3 : (k == 3) = false := by simp [k3]
  have b4 : (k == 4) = false := by simp [k4]
  have b5 : (k == 5) = false := by simp [k5]
  have b6 : (k == 6) = false := by simp [k6]
  have b7 : (k == 7) = false := by simp [k7]
  have b8 : (k == 8) = false := by simp [k8]
  clear k1 k2 k3 k4 k5 k6 k7 k8
  go_enter Tryz.func30, Tryz.ntmps30
  go_wp2_with fail
  go_ret
  exact ⟨ret_i64 HX.out.symm, HB.out⟩
set_option maxRecDepth 100000 in
set_option maxHeartbeats 2000000 in
theorem cnt_8t (hs : (Ty.mk 8 o t p n l op c).In w B cs) (_h1 : 1 ≤ d) (_h2 : d ≤ 65) (hd : ¬ 64 < d) (hc : Sp.isNm c = true) : Calls Tryz.prog 30 #[.agg cs, .int .i64 d] w fun e w' => e = .returned (.int .i64 ((Ty.mk 8 o t p n l op c).cntR d)) ∧ Below w.heap.size w w' := by
  obtain ⟨hz, c0, c1, -, c17, ap, cp, an, cn, ak, ck, c13, c14, c15, hp, hn, hl, hk, ⟨hpl, hnl, hll, hcl⟩⟩ := Ty.In_all hs
  have HX : Hid ((Ty.mk 8 o t p n l op c).cntR d = 1) := by
    show _ = _; simp only [Ty.cntR]; rw [if_neg hd]; simp [Ty.own, Sp.parted, hc]
  have HB : Hid (Below w.heap.size w (w.alloc (.cells cs 43))) := bx_below w cs
  have a0 : (w.alloc (.cells cs 43)).cell? ⟨w.heap.size, 0, none⟩ = some (.int .i64 8) := bx_cell (Below.refl _ _) c0
  have a17 : (w.alloc (.cells cs 43)).cell? ⟨w.heap.size, 17, none⟩ = some (.string c) := bx_cell (Below.refl _ _) c17
  have HN : Hid (∀ W, Calls Tryz.prog 17 #[.string c] W fun e w' => e = .returned (.bool true) ∧ W = w') := fun W => by
    have := Name_any c W (by unfold maxLen; omega)
    rw [hc] at this; exact this
  clear hs hp hn hl c0 c1 c13 c14 c15 c17 hc
  go_enter Tryz.func30, Tryz.ntmps30
  go_wp2_with (go_at_call 17; refine (HN.out _).mono ?_; rintro e w' ⟨rfl, rfl⟩)
  go_ret
  exact ⟨ret_i64 HX.out.symm, HB.out⟩
set_option maxRecDepth 100000 in
set_option maxHeartbeats 2000000 in
theorem cnt_8f (hs : (Ty.mk 8 o t p n l op c).In w B cs) (_h1 : 1 ≤ d) (_h2 : d ≤ 65) (hd : ¬ 64 < d) (hc : Sp.isNm c = false) : Calls Tryz.prog 30 #[.agg cs, .int .i64 d] w fun e w' => e = .returned (.int .i64 ((Ty.mk 8 o t p n l op c).cntR d)) ∧ Below w.heap.size w w' := by
  obtain ⟨hz, c0, c1, -, c17, ap, cp, an, cn, ak, ck, c13, c14, c15, hp, hn, hl, hk, ⟨hpl, hnl, hll, hcl⟩⟩ := Ty.In_all hs
  have HX : Hid ((Ty.mk 8 o t p n l op c).cntR d = -1) := by
    show _ = _; simp only [Ty.cntR]; rw [if_neg hd]; simp [Ty.own, hc]
  have HB : Hid (Below w.heap.size w (w.alloc (.cells cs 43))) := bx_below w cs
  have a0 : (w.alloc (.cells cs 43)).cell? ⟨w.heap.size, 0, none⟩ = some (.int .i64 8) := bx_cell (Below.refl _ _) c0
  have a17 : (w.alloc (.cells cs 43)).cell? ⟨w.heap.size, 17, none⟩ = some (.string c) := bx_cell (Below.refl _ _) c17
  have HN : Hid (∀ W, Calls Tryz.prog 17 #[.string c] W fun e w' => e = .returned (.bool false) ∧ W = w') := fun W => by
    have := Name_any c W (by unfold maxLen; omega)
    rw [hc] at this; exact this
  clear hs hp hn hl c0 c1 c13 c14 c15 c17 hc
  go_enter Tryz.func30, Tryz.ntmps30
  go_wp2_with (go_at_call 17; refine (HN.out _).mono ?_; rintro e w' ⟨rfl, rfl⟩)
  go_ret
  exact ⟨ret_i64 HX.out.symm, HB.out⟩
set_option maxRecDepth 100000 in
set_option maxHeartbeats 2000000 in
theorem cnt_4 (hs : (Ty.mk 4 o t p n l op c).In w B cs) (hB : Sub B w) (_h1 : 1 ≤ d) (_h2 : d ≤ 65) (hd : ¬ 64 < d) : Calls Tryz.prog 30 #[.agg cs, .int .i64 d] w fun e w' => e = .returned (.int .i64 ((Ty.mk 4 o t p n l op c).cntR d)) ∧ Below w.heap.size w w' := by
  have hs' := hs
  obtain ⟨hz, c0, c1, -, c17, ap, cp, an, cn, ak, ck, c13, c14, c15, hp, hn, hl, hk, ⟨hpl, hnl, hll, hcl⟩⟩ := Ty.In_all hs
  obtain ⟨ct, hti, htz, hct⟩ : ∃ ct, t.In w B ct ∧ ct.size = 11 ∧ ∀ x, x < 11 → cs[2 + x]? = ct[x]? := by
    simp only [Ty.In] at hs'
    obtain ⟨k1, b, i, f, tx, ab, nb, cb, rf, al, nl, cl, af, nf, cf, c1', vr, ap', cp', an', cn', ak', ck', rfl, hti, -⟩ := hs'
    exact ⟨_, hti, rfl, fun x hx => by
      have : x = 0 ∨ x = 1 ∨ x = 2 ∨ x = 3 ∨ x = 4 ∨ x = 5 ∨ x = 6 ∨ x = 7 ∨ x = 8 ∨ x = 9 ∨ x = 10 := by omega
      rcases this with rfl | rfl | rfl | rfl | rfl | rfl | rfl | rfl | rfl | rfl | rfl <;> rfl⟩
  have hbx := bx_below w cs
  have HB : Hid (Below w.heap.size w (w.alloc (.cells cs 43))) := hbx
  have a0 : (w.alloc (.cells cs 43)).cell? ⟨w.heap.size, 0, none⟩ = some (.int .i64 4) := bx_cell (Below.refl _ _) c0
  have HL : Hid ((loadVar 38 ⟨w.heap.size, 2, none⟩).run Tryz.prog (w.alloc (.cells cs 43)) = .ok (.agg ct) (w.alloc (.cells cs 43))) := yldT htz (fun x hx => by rw [cell_of_row _ _ _ _ _ _ (heap_alloc_new w _)]; exact hct x hx)
  have HO : Hid (Calls Tryz.prog 21 #[.agg ct] (w.alloc (.cells cs 43)) fun e w' => e = .returned (.tuple #[.int .i64 t.cAt, .int .i64 t.all.e]) ∧ Below (w.alloc (.cells cs 43)).heap.size (w.alloc (.cells cs 43)) w') := refCheck_any t ct B (w.alloc (.cells cs 43)) (t.In_same (hB.same hbx) (fun _ h => h) ct hti) (hB.later hbx)
  by_cases he : t.all.e = 0
  · have HX : Hid ((Ty.mk 4 o t p n l op c).cntR d = 1) := by
      show _ = _; simp only [Ty.cntR]; rw [if_neg hd, if_pos (by trivial), if_pos he]
    rw [he] at HO
    clear hs hs' hp hn hl c0 c1 c13 c14 c15 c17 hti htz hct hB hbx he
    generalize t.cAt = ca at *
    go_enter Tryz.func30, Tryz.ntmps30
    go_wp2_with ((with_reducible refine ld_row ?_ ?_ HL.out ?_); rfl; rfl)
    refine HO.out.mono ?_
    rintro e w4 ⟨rfl, hb4⟩
    have H4 : Hid (Below w.heap.size w w4) := below_to HB.out hb4
    clear hb4
    go_wp2_with fail
    go_ret
    exact ⟨ret_i64 HX.out.symm, H4.out⟩
  · have HX : Hid ((Ty.mk 4 o t p n l op c).cntR d = -1) := by
      show _ = _; simp only [Ty.cntR]; rw [if_neg hd, if_pos (by trivial), if_neg he]
    have he' := ne_bool he
    clear hs hs' hp hn hl c0 c1 c13 c14 c15 c17 hti htz hct hB hbx he
    generalize t.cAt = ca at *
    generalize t.all.e = q at *
    go_enter Tryz.func30, Tryz.ntmps30
    go_wp2_with ((with_reducible refine ld_row ?_ ?_ HL.out ?_); rfl; rfl)
    refine HO.out.mono ?_
    rintro e w4 ⟨rfl, hb4⟩
    have H4 : Hid (Below w.heap.size w w4) := below_to HB.out hb4
    clear hb4
    go_wp2_with fail
    go_ret
    exact ⟨ret_i64 HX.out.symm, H4.out⟩
set_option maxRecDepth 100000 in
set_option maxHeartbeats 2000000 in
theorem cnt_5n (hs : (Ty.mk 5 o t p n l op c).In w B cs) (_h1 : 1 ≤ d) (_h2 : d ≤ 65) (hd : ¬ 64 < d) (hq : p.len ≠ 1) : Calls Tryz.prog 30 #[.agg cs, .int .i64 d] w fun e w' => e = .returned (.int .i64 ((Ty.mk 5 o t p n l op c).cntR d)) ∧ Below w.heap.size w w' := by
  obtain ⟨hz, c0, c1, -, c17, ap, cp, an, cn, ak, ck, c13, c14, c15, hp, hn, hl, hk, ⟨hpl, hnl, hll, hcl⟩⟩ := Ty.In_all hs
  have HX : Hid ((Ty.mk 5 o t p n l op c).cntR d = -1) := by
    show _ = _; simp only [Ty.cntR]; rw [if_neg hd]; simp [Ty.own, hq]
  have HB : Hid (Below w.heap.size w (w.alloc (.cells cs 43))) := bx_below w cs
  have a0 : (w.alloc (.cells cs 43)).cell? ⟨w.heap.size, 0, none⟩ = some (.int .i64 5) := bx_cell (Below.refl _ _) c0
  have a1 : (w.alloc (.cells cs 43)).cell? ⟨w.heap.size, 1, none⟩ = some (.int .i64 o) := bx_cell (Below.refl _ _) c1
  have a13 : (w.alloc (.cells cs 43)).cell? ⟨w.heap.size, 13, none⟩ = some (.slice ap p.len cp) := bx_cell (Below.refl _ _) c13
  have a14 : (w.alloc (.cells cs 43)).cell? ⟨w.heap.size, 14, none⟩ = some (.slice an n.length cn) := bx_cell (Below.refl _ _) c14
  have a15 : (w.alloc (.cells cs 43)).cell? ⟨w.heap.size, 15, none⟩ = some (.slice ak l.length ck) := bx_cell (Below.refl _ _) c15
  clear hs hp hn hl c0 c1 c13 c14 c15 c17
  have hq' : ((p.len : Int) == 1) = false := by simp; omega
  clear hq
  go_enter Tryz.func30, Tryz.ntmps30
  go_wp2_with fail
  go_ret
  exact ⟨ret_i64 HX.out.symm, HB.out⟩
set_option maxRecDepth 100000 in
set_option maxHeartbeats 2000000 in
theorem cnt_7n (hs : (Ty.mk 7 o t p n l op c).In w B cs) (_h1 : 1 ≤ d) (_h2 : d ≤ 65) (hd : ¬ 64 < d) (hq : p.len < 2) : Calls Tryz.prog 30 #[.agg cs, .int .i64 d] w fun e w' => e = .returned (.int .i64 ((Ty.mk 7 o t p n l op c).cntR d)) ∧ Below w.heap.size w w' := by
  obtain ⟨hz, c0, c1, -, c17, ap, cp, an, cn, ak, ck, c13, c14, c15, hp, hn, hl, hk, ⟨hpl, hnl, hll, hcl⟩⟩ := Ty.In_all hs
  have HX : Hid ((Ty.mk 7 o t p n l op c).cntR d = -1) := by
    show _ = _; simp only [Ty.cntR]; rw [if_neg hd]; simp [Ty.own]; omega
  have HB : Hid (Below w.heap.size w (w.alloc (.cells cs 43))) := bx_below w cs
  have a0 : (w.alloc (.cells cs 43)).cell? ⟨w.heap.size, 0, none⟩ = some (.int .i64 7) := bx_cell (Below.refl _ _) c0
  have a1 : (w.alloc (.cells cs 43)).cell? ⟨w.heap.size, 1, none⟩ = some (.int .i64 o) := bx_cell (Below.refl _ _) c1
  have a13 : (w.alloc (.cells cs 43)).cell? ⟨w.heap.size, 13, none⟩ = some (.slice ap p.len cp) := bx_cell (Below.refl _ _) c13
  have a14 : (w.alloc (.cells cs 43)).cell? ⟨w.heap.size, 14, none⟩ = some (.slice an n.length cn) := bx_cell (Below.refl _ _) c14
  have a15 : (w.alloc (.cells cs 43)).cell? ⟨w.heap.size, 15, none⟩ = some (.slice ak l.length ck) := bx_cell (Below.refl _ _) c15
  clear hs hp hn hl c0 c1 c13 c14 c15 c17
  have hq' : (p.len : Int) < 2 := by omega
  clear hq
  go_enter Tryz.func30, Tryz.ntmps30
  go_wp2_with fail
  go_ret
  exact ⟨ret_i64 HX.out.symm, HB.out⟩
set_option maxRecDepth 100000 in
set_option maxHeartbeats 2000000 in
theorem cnt_6n (hs : (Ty.mk 6 o t p n l op c).In w B cs) (_h1 : 1 ≤ d) (_h2 : d ≤ 65) (hd : ¬ 64 < d) (hq : 4096 < n.length) : Calls Tryz.prog 30 #[.agg cs, .int .i64 d] w fun e w' => e = .returned (.int .i64 ((Ty.mk 6 o t p n l op c).cntR d)) ∧ Below w.heap.size w w' := by
  obtain ⟨hz, c0, c1, -, c17, ap, cp, an, cn, ak, ck, c13, c14, c15, hp, hn, hl, hk, ⟨hpl, hnl, hll, hcl⟩⟩ := Ty.In_all hs
  have HX : Hid ((Ty.mk 6 o t p n l op c).cntR d = -1) := by
    show _ = _; simp only [Ty.cntR]; rw [if_neg hd]; simp [Ty.own, Sp.namesFit]; intro _ _ _; omega
  have HB : Hid (Below w.heap.size w (w.alloc (.cells cs 43))) := bx_below w cs
  have a0 : (w.alloc (.cells cs 43)).cell? ⟨w.heap.size, 0, none⟩ = some (.int .i64 6) := bx_cell (Below.refl _ _) c0
  have a1 : (w.alloc (.cells cs 43)).cell? ⟨w.heap.size, 1, none⟩ = some (.int .i64 o) := bx_cell (Below.refl _ _) c1
  have a13 : (w.alloc (.cells cs 43)).cell? ⟨w.heap.size, 13, none⟩ = some (.slice ap p.len cp) := bx_cell (Below.refl _ _) c13
  have a14 : (w.alloc (.cells cs 43)).cell? ⟨w.heap.size, 14, none⟩ = some (.slice an n.length cn) := bx_cell (Below.refl _ _) c14
  have a15 : (w.alloc (.cells cs 43)).cell? ⟨w.heap.size, 15, none⟩ = some (.slice ak l.length ck) := bx_cell (Below.refl _ _) c15
  clear hs hp hn hl c0 c1 c13 c14 c15 c17
  have hq' : (4096 : Int) < (n.length : Int) := by omega
  clear hq
  go_enter Tryz.func30, Tryz.ntmps30
  go_wp2_with fail
  go_ret
  exact ⟨ret_i64 HX.out.symm, HB.out⟩
set_option maxRecDepth 100000 in
set_option maxHeartbeats 2000000 in
theorem cnt_5 (N : Nat) (HC : CntC N) (hN : p.sz ≤ N) (hs : (Ty.mk 5 o t p n l op c).In w B cs) (hB : Sub B w) (h1 : 1 ≤ d) (h2 : d ≤ 65) (hd : ¬ 64 < d) (hq : p.len = 1) : Calls Tryz.prog 30 #[.agg cs, .int .i64 d] w fun e w' => e = .returned (.int .i64 ((Ty.mk 5 o t p n l op c).cntR d)) ∧ Below w.heap.size w w' := by
  obtain ⟨hz, c0, c1, -, c17, ap, cp, an, cn, ak, ck, c13, c14, c15, hp, hn, hl, hk, ⟨hpl, hnl, hll, hcl⟩⟩ := Ty.In_all hs
  have hbx := bx_below w cs
  have how : (Ty.mk 5 o t p n l op c).own = true := by simp [Ty.own, hq]
  have HX : Hid ((Ty.mk 5 o t p n l op c).cntR d = p.cntR (d + 1) 1) := by
    have hpar : Sp.parted 5 = true := rfl
    show _ = _; simp only [Ty.cntR]; rw [if_neg hd, if_neg (by decide), if_neg (by rw [how]; decide), hpar, if_pos rfl]
  have HW : Hid (∀ W, Below (w.alloc (.cells cs 43)).heap.size (w.alloc (.cells cs 43)) W → Below w.heap.size w W ∧ W.cell? ⟨w.heap.size, 13, none⟩ = some (.slice ap p.len cp)) := fun W hW => ⟨below_to hbx hW, bx_cell hW c13⟩
  have a0 : (w.alloc (.cells cs 43)).cell? ⟨w.heap.size, 0, none⟩ = some (.int .i64 5) := bx_cell (Below.refl _ _) c0
  have a13 : (w.alloc (.cells cs 43)).cell? ⟨w.heap.size, 13, none⟩ = some (.slice ap p.len cp) := bx_cell (Below.refl _ _) c13
  have hdd : d + 1 ≤ 65 := by omega
  have hwd : IntKind.i64.wrap (d + 1) = d + 1 := wrap_small (by omega) (by omega)
  have HV : Hid (p.In w B ap 0 ∧ Sub B w ∧ CntC N) := ⟨hp, hB, HC⟩
  have hq' : ((p.len : Int) == 1) = true := by simp; omega
  clear hs hp hn hl c0 c1 c13 c14 c15 c17 hB HC how hbx
  go_enter Tryz.func30, Tryz.ntmps30
  go_wp2_with fail
  go_loopw [7, 8] (fun x y wr => ∃ (m : Int) (j : Nat) (l' : TyL), x = .int .i64 m ∧ y = .int .i64 j ∧ l'.len + j = p.len ∧ l'.sz ≤ N ∧ 1 ≤ m ∧ m ≤ 16384 ∧ Hid (Below (w.alloc (.cells cs 43)).heap.size (w.alloc (.cells cs 43)) wr ∧ l'.In w B ap j ∧ p.cntR (d + 1) 1 = l'.cntR (d + 1) m)) (fun _ y _ => p.len - (intOf y).toNat)
  case atStart => exact ⟨1, 0, p, rfl, rfl, rfl, hN, by decide, by decide, ⟨Below.refl _ _, HV.out.1, rfl⟩⟩
  case round =>
    obtain ⟨m, j, l', rfl, rfl, hlj, hlN, hm1, hm2, HK⟩ := hrel
    obtain ⟨-, e13⟩ := HW.out wr HK.out.1
    cases l' with
    | nil =>
      have hj' : p.len ≤ j := by simp [TyL.len] at hlj; omega
      have HR : Hid (p.cntR (d + 1) 1 = m ∧ Below w.heap.size w wr) := ⟨by rw [HK.out.2.2]; simp [TyL.cntR], (HW.out wr HK.out.1).1⟩
      clear hlj HK
      go_wp2_with fail
      go_ret
      exact ⟨ret_i64 (by rw [HX.out, HR.out.1]), HR.out.2⟩
    | cons t' l' =>
      obtain ⟨hbr, hin, hfit⟩ := HK.out
      simp only [TyL.In] at hin
      obtain ⟨g, o1, cs', rfl, hgg, hcl', hti, hin'⟩ := hin
      have hj1 : j < p.len := by simp only [TyL.len] at hlj; omega
      have HJ : Hid (l'.len + (j + 1) = p.len) := by show _ = _; simp only [TyL.len] at hlj; omega
      have htN : t'.sz ≤ N ∧ l'.sz ≤ N := by simp [TyL.sz] at hlN; omega
      have hs' := (Ty.In_cells hti).1
      have hbw := (HW.out wr hbr).1
      have HS : Hid ((loadVar 43 ⟨g, o1 + j * 18, none⟩).run Tryz.prog wr = .ok (.agg cs') wr) := yldE hs' (fun x hx => by rw [(HV.out.2.1.same hbw).cell (p := ⟨g, o1 + j * 18 + x, none⟩) hgg]; exact hcl' x hx)
      have HO : Hid (Calls Tryz.prog 30 #[.agg cs', .int .i64 (d + 1)] wr fun e w' => e = .returned (.int .i64 (t'.cntR (d + 1))) ∧ Below wr.heap.size wr w') :=
        HV.out.2.2 t' htN.1 cs' B wr (d + 1) (t'.In_same (HV.out.2.1.same hbw) (fun _ h => h) cs' hti) (HV.out.2.1.later hbw) (by omega) (by omega)
      have hbd := Ty.cntR_bd t' (d + 1) (by omega)
      have HF : Hid (p.cntR (d + 1) 1 = if t'.cntR (d + 1) < 0 ∨ 16384 < m + t'.cntR (d + 1) then -1 else l'.cntR (d + 1) (m + t'.cntR (d + 1))) := by show _ = _; rw [hfit]; simp only [TyL.cntR]
      have HIN : Hid (l'.In w B (some ⟨g, o1, none⟩) (j + 1)) := hin'
      have HBR : Hid (Below (w.alloc (.cells cs 43)).heap.size (w.alloc (.cells cs 43)) wr) := hbr
      have hi0 : (0 : Int) ≤ (j : Int) := Int.natCast_nonneg _
      have hi1 : (j : Int) < (p.len : Int) := by omega
      clear hlj hlN HK hin' hfit hcl' hti hs' hgg hbw hbr
      generalize t'.cntR (d + 1) = x at *
      go_wp2_with ((with_reducible refine ld_row ?_ ?_ HS.out ?_); rfl; rfl)
      refine HO.out.mono ?_
      rintro e w4 ⟨rfl, hb4⟩
      have H4 : Hid (Below (w.alloc (.cells cs 43)).heap.size (w.alloc (.cells cs 43)) w4 ∧ Below w.heap.size w w4) := ⟨below_to HBR.out hb4, (HW.out _ (below_to HBR.out hb4)).1⟩
      clear hb4
      have hwx : IntKind.i64.wrap (m + x) = m + x := wrap_small (by omega) (by omega)
      by_cases hx0 : x < 0
      · have HR : Hid (p.cntR (d + 1) 1 = -1) := by show _ = _; rw [HF.out, if_pos (.inl hx0)]
        clear HF
        go_wp2_with fail
        go_ret
        exact ⟨ret_i64 (by rw [HX.out, HR.out]), H4.out.2⟩
      · by_cases hx1 : 16384 < m + x
        · have HR : Hid (p.cntR (d + 1) 1 = -1) := by show _ = _; rw [HF.out, if_pos (.inr hx1)]
          clear HF
          go_wp2_with fail
          go_ret
          exact ⟨ret_i64 (by rw [HX.out, HR.out]), H4.out.2⟩
        · have HR : Hid (p.cntR (d + 1) 1 = l'.cntR (d + 1) (m + x)) := by show _ = _; rw [HF.out, if_neg (by omega)]
          clear HF
          go_wp2_with fail
          go_roundw
          case rel => exact ⟨m + x, j + 1, l', by go_num, by go_num, HJ.out, htN.2, by omega, by omega, ⟨H4.out.1, HIN.out, HR.out⟩⟩
          case measure => simp [intOf]; omega
set_option maxRecDepth 100000 in
set_option maxHeartbeats 2000000 in
theorem cnt_7 (N : Nat) (HC : CntC N) (hN : p.sz ≤ N) (hs : (Ty.mk 7 o t p n l op c).In w B cs) (hB : Sub B w) (h1 : 1 ≤ d) (h2 : d ≤ 65) (hd : ¬ 64 < d) (hq : 2 ≤ p.len) : Calls Tryz.prog 30 #[.agg cs, .int .i64 d] w fun e w' => e = .returned (.int .i64 ((Ty.mk 7 o t p n l op c).cntR d)) ∧ Below w.heap.size w w' := by
  obtain ⟨hz, c0, c1, -, c17, ap, cp, an, cn, ak, ck, c13, c14, c15, hp, hn, hl, hk, ⟨hpl, hnl, hll, hcl⟩⟩ := Ty.In_all hs
  have hbx := bx_below w cs
  have how : (Ty.mk 7 o t p n l op c).own = true := by simp [Ty.own]; omega
  have HX : Hid ((Ty.mk 7 o t p n l op c).cntR d = p.cntR (d + 1) 1) := by
    have hpar : Sp.parted 7 = true := rfl
    show _ = _; simp only [Ty.cntR]; rw [if_neg hd, if_neg (by decide), if_neg (by rw [how]; decide), hpar, if_pos rfl]
  have HW : Hid (∀ W, Below (w.alloc (.cells cs 43)).heap.size (w.alloc (.cells cs 43)) W → Below w.heap.size w W ∧ W.cell? ⟨w.heap.size, 13, none⟩ = some (.slice ap p.len cp)) := fun W hW => ⟨below_to hbx hW, bx_cell hW c13⟩
  have a0 : (w.alloc (.cells cs 43)).cell? ⟨w.heap.size, 0, none⟩ = some (.int .i64 7) := bx_cell (Below.refl _ _) c0
  have a13 : (w.alloc (.cells cs 43)).cell? ⟨w.heap.size, 13, none⟩ = some (.slice ap p.len cp) := bx_cell (Below.refl _ _) c13
  have hdd : d + 1 ≤ 65 := by omega
  have hwd : IntKind.i64.wrap (d + 1) = d + 1 := wrap_small (by omega) (by omega)
  have HV : Hid (p.In w B ap 0 ∧ Sub B w ∧ CntC N) := ⟨hp, hB, HC⟩
  have hq' : ¬ (p.len : Int) < 2 := by omega
  clear hs hp hn hl c0 c1 c13 c14 c15 c17 hB HC how hbx
  go_enter Tryz.func30, Tryz.ntmps30
  go_wp2_with fail
  go_loopw [7, 8] (fun x y wr => ∃ (m : Int) (j : Nat) (l' : TyL), x = .int .i64 m ∧ y = .int .i64 j ∧ l'.len + j = p.len ∧ l'.sz ≤ N ∧ 1 ≤ m ∧ m ≤ 16384 ∧ Hid (Below (w.alloc (.cells cs 43)).heap.size (w.alloc (.cells cs 43)) wr ∧ l'.In w B ap j ∧ p.cntR (d + 1) 1 = l'.cntR (d + 1) m)) (fun _ y _ => p.len - (intOf y).toNat)
  case atStart => exact ⟨1, 0, p, rfl, rfl, rfl, hN, by decide, by decide, ⟨Below.refl _ _, HV.out.1, rfl⟩⟩
  case round =>
    obtain ⟨m, j, l', rfl, rfl, hlj, hlN, hm1, hm2, HK⟩ := hrel
    obtain ⟨-, e13⟩ := HW.out wr HK.out.1
    cases l' with
    | nil =>
      have hj' : p.len ≤ j := by simp [TyL.len] at hlj; omega
      have HR : Hid (p.cntR (d + 1) 1 = m ∧ Below w.heap.size w wr) := ⟨by rw [HK.out.2.2]; simp [TyL.cntR], (HW.out wr HK.out.1).1⟩
      clear hlj HK
      go_wp2_with fail
      go_ret
      exact ⟨ret_i64 (by rw [HX.out, HR.out.1]), HR.out.2⟩
    | cons t' l' =>
      obtain ⟨hbr, hin, hfit⟩ := HK.out
      simp only [TyL.In] at hin
      obtain ⟨g, o1, cs', rfl, hgg, hcl', hti, hin'⟩ := hin
      have hj1 : j < p.len := by simp only [TyL.len] at hlj; omega
      have HJ : Hid (l'.len + (j + 1) = p.len) := by show _ = _; simp only [TyL.len] at hlj; omega
      have htN : t'.sz ≤ N ∧ l'.sz ≤ N := by simp [TyL.sz] at hlN; omega
      have hs' := (Ty.In_cells hti).1
      have hbw := (HW.out wr hbr).1
      have HS : Hid ((loadVar 43 ⟨g, o1 + j * 18, none⟩).run Tryz.prog wr = .ok (.agg cs') wr) := yldE hs' (fun x hx => by rw [(HV.out.2.1.same hbw).cell (p := ⟨g, o1 + j * 18 + x, none⟩) hgg]; exact hcl' x hx)
      have HO : Hid (Calls Tryz.prog 30 #[.agg cs', .int .i64 (d + 1)] wr fun e w' => e = .returned (.int .i64 (t'.cntR (d + 1))) ∧ Below wr.heap.size wr w') :=
        HV.out.2.2 t' htN.1 cs' B wr (d + 1) (t'.In_same (HV.out.2.1.same hbw) (fun _ h => h) cs' hti) (HV.out.2.1.later hbw) (by omega) (by omega)
      have hbd := Ty.cntR_bd t' (d + 1) (by omega)
      have HF : Hid (p.cntR (d + 1) 1 = if t'.cntR (d + 1) < 0 ∨ 16384 < m + t'.cntR (d + 1) then -1 else l'.cntR (d + 1) (m + t'.cntR (d + 1))) := by show _ = _; rw [hfit]; simp only [TyL.cntR]
      have HIN : Hid (l'.In w B (some ⟨g, o1, none⟩) (j + 1)) := hin'
      have HBR : Hid (Below (w.alloc (.cells cs 43)).heap.size (w.alloc (.cells cs 43)) wr) := hbr
      have hi0 : (0 : Int) ≤ (j : Int) := Int.natCast_nonneg _
      have hi1 : (j : Int) < (p.len : Int) := by omega
      clear hlj hlN HK hin' hfit hcl' hti hs' hgg hbw hbr
      generalize t'.cntR (d + 1) = x at *
      go_wp2_with ((with_reducible refine ld_row ?_ ?_ HS.out ?_); rfl; rfl)
      refine HO.out.mono ?_
      rintro e w4 ⟨rfl, hb4⟩
      have H4 : Hid (Below (w.alloc (.cells cs 43)).heap.size (w.alloc (.cells cs 43)) w4 ∧ Below w.heap.size w w4) := ⟨below_to HBR.out hb4, (HW.out _ (below_to HBR.out hb4)).1⟩
      clear hb4
      have hwx : IntKind.i64.wrap (m + x) = m + x := wrap_small (by omega) (by omega)
      by_cases hx0 : x < 0
      · have HR : Hid (p.cntR (d + 1) 1 = -1) := by show _ = _; rw [HF.out, if_pos (.inl hx0)]
        clear HF
        go_wp2_with fail
        go_ret
        exact ⟨ret_i64 (by rw [HX.out, HR.out]), H4.out.2⟩
      · by_cases hx1 : 16384 < m + x
        · have HR : Hid (p.cntR (d + 1) 1 = -1) := by show _ = _; rw [HF.out, if_pos (.inr hx1)]
          clear HF
          go_wp2_with fail
          go_ret
          exact ⟨ret_i64 (by rw [HX.out, HR.out]), H4.out.2⟩
        · have HR : Hid (p.cntR (d + 1) 1 = l'.cntR (d + 1) (m + x)) := by show _ = _; rw [HF.out, if_neg (by omega)]
          clear HF
          go_wp2_with fail
          go_roundw
          case rel => exact ⟨m + x, j + 1, l', by go_num, by go_num, HJ.out, htN.2, by omega, by omega, ⟨H4.out.1, HIN.out, HR.out⟩⟩
          case measure => simp [intOf]; omega
set_option maxRecDepth 100000 in
set_option maxHeartbeats 2000000 in
theorem cnt_6x (hs : (Ty.mk 6 o t p n l op c).In w B cs) (hB : Sub B w) (_h1 : 1 ≤ d) (_h2 : d ≤ 65) (hd : ¬ 64 < d) (hq : n.length ≤ 4096) (hx : ¬ (Sp.named ByteArray.empty n = true ∧ n.length = p.len ∧ n.length = l.length)) : Calls Tryz.prog 30 #[.agg cs, .int .i64 d] w fun e w' => e = .returned (.int .i64 ((Ty.mk 6 o t p n l op c).cntR d)) ∧ Below w.heap.size w w' := by
  obtain ⟨hz, c0, c1, -, c17, ap, cp, an, cn, ak, ck, c13, c14, c15, hp, hn, hl, hk, ⟨hpl, hnl, hll, hcl⟩⟩ := Ty.In_all hs
  have hbx := bx_below w cs
  have HX : Hid ((Ty.mk 6 o t p n l op c).cntR d = -1) := by
    have how : (Ty.mk 6 o t p n l op c).own = false := by
      cases h6 : (Ty.mk 6 o t p n l op c).own with
      | false => rfl
      | true =>
        simp [Ty.own, Sp.namesFit] at h6
        exact absurd ⟨h6.2.2, h6.1.1, h6.1.2⟩ hx
    show _ = _; simp only [Ty.cntR]; rw [if_neg hd, if_neg (by decide), if_pos how]
  have HW : Hid (∀ W, Below (w.alloc (.cells cs 43)).heap.size (w.alloc (.cells cs 43)) W → Below w.heap.size w W ∧ W.cell? ⟨w.heap.size, 13, none⟩ = some (.slice ap p.len cp) ∧ W.cell? ⟨w.heap.size, 14, none⟩ = some (.slice an n.length cn) ∧ W.cell? ⟨w.heap.size, 15, none⟩ = some (.slice ak l.length ck)) := fun W hW => ⟨below_to hbx hW, bx_cell hW c13, bx_cell hW c14, bx_cell hW c15⟩
  have a0 : (w.alloc (.cells cs 43)).cell? ⟨w.heap.size, 0, none⟩ = some (.int .i64 6) := bx_cell (Below.refl _ _) c0
  have a14 : (w.alloc (.cells cs 43)).cell? ⟨w.heap.size, 14, none⟩ = some (.slice an n.length cn) := bx_cell (Below.refl _ _) c14
  have HRI : Hid (∀ W, Below (w.alloc (.cells cs 43)).heap.size (w.alloc (.cells cs 43)) W → Calls Tryz.prog 53 #[.slice an n.length cn] W fun e w' => e = .returned (.bool (Sp.named ByteArray.empty n)) ∧ Below W.heap.size W w') := fun W hW => rising_any n an cn B W (hn.same (hB.same (below_to hbx hW)) (fun _ h => h)) (hB.later (below_to hbx hW)) hnl
  have hq' : ¬ (4096 : Int) < (n.length : Int) := by omega
  clear hs hp hn hl c0 c1 c13 c14 c15 c17 hB hbx
  generalize Sp.named ByteArray.empty n = nm at *
  have hcase : nm = false ∨ (nm = true ∧ (p.len : Int) ≠ (n.length : Int)) ∨ (nm = true ∧ (p.len : Int) = (n.length : Int) ∧ (l.length : Int) ≠ (n.length : Int)) := by
    cases nm with
    | false => exact .inl rfl
    | true =>
      by_cases h5 : p.len = n.length
      · exact .inr (.inr ⟨rfl, by omega, fun h6 => hx ⟨rfl, h5.symm, by omega⟩⟩)
      · exact .inr (.inl ⟨rfl, by omega⟩)
  clear hx
  go_enter Tryz.func30, Tryz.ntmps30
  go_wp2_with fail
  refine (HRI.out _ (Below.refl _ _)).mono ?_
  rintro e w4 ⟨rfl, hb4⟩
  obtain ⟨q0, q13, q14, q15⟩ := HW.out w4 hb4
  have H4 : Hid (Below w.heap.size w w4) := q0
  clear hb4 q0
  rcases hcase with rfl | ⟨rfl, h5⟩ | ⟨rfl, h5, h6⟩
  · go_wp2_with fail
    go_ret
    exact ⟨ret_i64 HX.out.symm, H4.out⟩
  · have h5' : ((p.len : Int) == (n.length : Int)) = false := by simp; omega
    clear h5
    go_wp2_with fail
    go_ret
    exact ⟨ret_i64 HX.out.symm, H4.out⟩
  · have h6' : ((l.length : Int) == (n.length : Int)) = false := by simp; omega
    have h5n : p.len = n.length := by omega
    rw [h5n] at q13
    clear h5 h5n h6
    go_wp2_with fail
    go_ret
    exact ⟨ret_i64 HX.out.symm, H4.out⟩
set_option maxRecDepth 100000 in
set_option maxHeartbeats 2000000 in
theorem cnt_6 (N : Nat) (HC : CntC N) (hN : p.sz ≤ N) (hs : (Ty.mk 6 o t p n l op c).In w B cs) (hB : Sub B w) (h1 : 1 ≤ d) (h2 : d ≤ 65) (hd : ¬ 64 < d) (hq : n.length ≤ 4096) (hx : Sp.named ByteArray.empty n = true) (hx1 : n.length = p.len) (hx2 : n.length = l.length) : Calls Tryz.prog 30 #[.agg cs, .int .i64 d] w fun e w' => e = .returned (.int .i64 ((Ty.mk 6 o t p n l op c).cntR d)) ∧ Below w.heap.size w w' := by
  obtain ⟨hz, c0, c1, -, c17, ap, cp, an, cn, ak, ck, c13, c14, c15, hp, hn, hl, hk, ⟨hpl, hnl, hll, hcl⟩⟩ := Ty.In_all hs
  have hbx := bx_below w cs
  have how : (Ty.mk 6 o t p n l op c).own = true := by simp [Ty.own, Sp.namesFit, hx, ← hx1, ← hx2, hq]
  have HX : Hid ((Ty.mk 6 o t p n l op c).cntR d = p.cntR (d + 1) 1) := by
    have hpar : Sp.parted 6 = true := rfl
    show _ = _; simp only [Ty.cntR]; rw [if_neg hd, if_neg (by decide), if_neg (by rw [how]; decide), hpar, if_pos rfl]
  have HW : Hid (∀ W, Below (w.alloc (.cells cs 43)).heap.size (w.alloc (.cells cs 43)) W → Below w.heap.size w W ∧ W.cell? ⟨w.heap.size, 13, none⟩ = some (.slice ap p.len cp)) := fun W hW => ⟨below_to hbx hW, bx_cell hW c13⟩
  have a0 : (w.alloc (.cells cs 43)).cell? ⟨w.heap.size, 0, none⟩ = some (.int .i64 6) := bx_cell (Below.refl _ _) c0
  have a13 : (w.alloc (.cells cs 43)).cell? ⟨w.heap.size, 13, none⟩ = some (.slice ap p.len cp) := bx_cell (Below.refl _ _) c13
  have hdd : d + 1 ≤ 65 := by omega
  have hwd : IntKind.i64.wrap (d + 1) = d + 1 := wrap_small (by omega) (by omega)
  have HV : Hid (p.In w B ap 0 ∧ Sub B w ∧ CntC N) := ⟨hp, hB, HC⟩
  rw [hx1] at c14
  rw [← hx2, hx1] at c15
  rw [hx1] at hq
  have HRI : Hid (∀ W, Below (w.alloc (.cells cs 43)).heap.size (w.alloc (.cells cs 43)) W → Calls Tryz.prog 53 #[.slice an p.len cn] W fun e w' => e = .returned (.bool true) ∧ Below W.heap.size W w') := fun W hW => by
    have := rising_any n an cn B W (hn.same (hB.same (below_to hbx hW)) (fun _ h => h)) (hB.later (below_to hbx hW)) hnl
    rw [hx, hx1] at this; exact this
  have HW6 : Hid (∀ W, Below (w.alloc (.cells cs 43)).heap.size (w.alloc (.cells cs 43)) W → W.cell? ⟨w.heap.size, 13, none⟩ = some (.slice ap p.len cp) ∧ W.cell? ⟨w.heap.size, 14, none⟩ = some (.slice an p.len cn) ∧ W.cell? ⟨w.heap.size, 15, none⟩ = some (.slice ak p.len ck)) := fun W hW => ⟨bx_cell hW c13, bx_cell hW c14, bx_cell hW c15⟩
  have a14 : (w.alloc (.cells cs 43)).cell? ⟨w.heap.size, 14, none⟩ = some (.slice an p.len cn) := bx_cell (Below.refl _ _) c14
  have hq' : ¬ (4096 : Int) < (p.len : Int) := by omega
  clear hx hx1 hx2 hnl hll
  clear hs hp hn hl c0 c1 c13 c14 c15 c17 hB HC how hbx
  go_enter Tryz.func30, Tryz.ntmps30
  go_wp2_with fail
  refine (HRI.out _ (Below.refl _ _)).mono ?_
  rintro e w4 ⟨rfl, hb4⟩
  obtain ⟨q13, q14, q15⟩ := HW6.out w4 hb4
  have H4 : Hid (Below (w.alloc (.cells cs 43)).heap.size (w.alloc (.cells cs 43)) w4) := hb4
  clear hb4
  go_wp2_with fail
  clear q13 q14 q15
  go_loopw [7, 8] (fun x y wr => ∃ (m : Int) (j : Nat) (l' : TyL), x = .int .i64 m ∧ y = .int .i64 j ∧ l'.len + j = p.len ∧ l'.sz ≤ N ∧ 1 ≤ m ∧ m ≤ 16384 ∧ Hid (Below (w.alloc (.cells cs 43)).heap.size (w.alloc (.cells cs 43)) wr ∧ l'.In w B ap j ∧ p.cntR (d + 1) 1 = l'.cntR (d + 1) m)) (fun _ y _ => p.len - (intOf y).toNat)
  case atStart => exact ⟨1, 0, p, rfl, rfl, rfl, hN, by decide, by decide, ⟨H4.out, HV.out.1, rfl⟩⟩
  case round =>
    obtain ⟨m, j, l', rfl, rfl, hlj, hlN, hm1, hm2, HK⟩ := hrel
    obtain ⟨-, e13⟩ := HW.out wr HK.out.1
    cases l' with
    | nil =>
      have hj' : p.len ≤ j := by simp [TyL.len] at hlj; omega
      have HR : Hid (p.cntR (d + 1) 1 = m ∧ Below w.heap.size w wr) := ⟨by rw [HK.out.2.2]; simp [TyL.cntR], (HW.out wr HK.out.1).1⟩
      clear hlj HK
      go_wp2_with fail
      go_ret
      exact ⟨ret_i64 (by rw [HX.out, HR.out.1]), HR.out.2⟩
    | cons t' l' =>
      obtain ⟨hbr, hin, hfit⟩ := HK.out
      simp only [TyL.In] at hin
      obtain ⟨g, o1, cs', rfl, hgg, hcl', hti, hin'⟩ := hin
      have hj1 : j < p.len := by simp only [TyL.len] at hlj; omega
      have HJ : Hid (l'.len + (j + 1) = p.len) := by show _ = _; simp only [TyL.len] at hlj; omega
      have htN : t'.sz ≤ N ∧ l'.sz ≤ N := by simp [TyL.sz] at hlN; omega
      have hs' := (Ty.In_cells hti).1
      have hbw := (HW.out wr hbr).1
      have HS : Hid ((loadVar 43 ⟨g, o1 + j * 18, none⟩).run Tryz.prog wr = .ok (.agg cs') wr) := yldE hs' (fun x hx => by rw [(HV.out.2.1.same hbw).cell (p := ⟨g, o1 + j * 18 + x, none⟩) hgg]; exact hcl' x hx)
      have HO : Hid (Calls Tryz.prog 30 #[.agg cs', .int .i64 (d + 1)] wr fun e w' => e = .returned (.int .i64 (t'.cntR (d + 1))) ∧ Below wr.heap.size wr w') :=
        HV.out.2.2 t' htN.1 cs' B wr (d + 1) (t'.In_same (HV.out.2.1.same hbw) (fun _ h => h) cs' hti) (HV.out.2.1.later hbw) (by omega) (by omega)
      have hbd := Ty.cntR_bd t' (d + 1) (by omega)
      have HF : Hid (p.cntR (d + 1) 1 = if t'.cntR (d + 1) < 0 ∨ 16384 < m + t'.cntR (d + 1) then -1 else l'.cntR (d + 1) (m + t'.cntR (d + 1))) := by show _ = _; rw [hfit]; simp only [TyL.cntR]
      have HIN : Hid (l'.In w B (some ⟨g, o1, none⟩) (j + 1)) := hin'
      have HBR : Hid (Below (w.alloc (.cells cs 43)).heap.size (w.alloc (.cells cs 43)) wr) := hbr
      have hi0 : (0 : Int) ≤ (j : Int) := Int.natCast_nonneg _
      have hi1 : (j : Int) < (p.len : Int) := by omega
      clear hlj hlN HK hin' hfit hcl' hti hs' hgg hbw hbr
      generalize t'.cntR (d + 1) = x at *
      go_wp2_with ((with_reducible refine ld_row ?_ ?_ HS.out ?_); rfl; rfl)
      refine HO.out.mono ?_
      rintro e w4 ⟨rfl, hb4⟩
      have H4 : Hid (Below (w.alloc (.cells cs 43)).heap.size (w.alloc (.cells cs 43)) w4 ∧ Below w.heap.size w w4) := ⟨below_to HBR.out hb4, (HW.out _ (below_to HBR.out hb4)).1⟩
      clear hb4
      have hwx : IntKind.i64.wrap (m + x) = m + x := wrap_small (by omega) (by omega)
      by_cases hx0 : x < 0
      · have HR : Hid (p.cntR (d + 1) 1 = -1) := by show _ = _; rw [HF.out, if_pos (.inl hx0)]
        clear HF
        go_wp2_with fail
        go_ret
        exact ⟨ret_i64 (by rw [HX.out, HR.out]), H4.out.2⟩
      · by_cases hx1 : 16384 < m + x
        · have HR : Hid (p.cntR (d + 1) 1 = -1) := by show _ = _; rw [HF.out, if_pos (.inr hx1)]
          clear HF
          go_wp2_with fail
          go_ret
          exact ⟨ret_i64 (by rw [HX.out, HR.out]), H4.out.2⟩
        · have HR : Hid (p.cntR (d + 1) 1 = l'.cntR (d + 1) (m + x)) := by show _ = _; rw [HF.out, if_neg (by omega)]
          clear HF
          go_wp2_with fail
          go_roundw
          case rel => exact ⟨m + x, j + 1, l', by go_num, by go_num, HJ.out, htN.2, by omega, by omega, ⟨H4.out.1, HIN.out, HR.out⟩⟩
          case measure => simp [intOf]; omega
end
theorem cnt_any : ∀ N, CntC N
  | 0 => fun t h => by cases t; simp [Ty.sz] at h
  | N + 1 => fun t hN cs B w d hs hB h1 h2 => by
    cases t with
    | mk k o t p n l op c =>
      have hN' : p.sz ≤ N := by simp only [Ty.sz] at hN; omega
      by_cases hd : 64 < d
      · exact cnt_deep k o t p n l op c cs B w d hs h1 h2 hd
      by_cases k1 : k = 1
      · subst k1; exact cnt_1 o t p n l op c cs B w d hs h1 h2 hd
      by_cases k2 : k = 2
      · subst k2; exact cnt_2 o t p n l op c cs B w d hs h1 h2 hd
      by_cases k3 : k = 3
      · subst k3
        by_cases o1 : o < 1
        · exact cnt_3b o t p n l op c cs B w d hs h1 h2 hd o1
        by_cases o2 : 10 < o
        · exact cnt_3c o t p n l op c cs B w d hs h1 h2 hd o2
        exact cnt_3a o t p n l op c cs B w d hs h1 h2 hd ⟨by omega, by omega⟩
      by_cases k4 : k = 4
      · subst k4; exact cnt_4 o t p n l op c cs B w d hs hB h1 h2 hd
      by_cases k5 : k = 5
      · subst k5
        by_cases hq : p.len = 1
        · exact cnt_5 o t p n l op c cs B w d N (cnt_any N) hN' hs hB h1 h2 hd hq
        · exact cnt_5n o t p n l op c cs B w d hs h1 h2 hd hq
      by_cases k6 : k = 6
      · subst k6
        by_cases hq : 4096 < n.length
        · exact cnt_6n o t p n l op c cs B w d hs h1 h2 hd hq
        by_cases hx : Sp.named ByteArray.empty n = true ∧ n.length = p.len ∧ n.length = l.length
        · exact cnt_6 o t p n l op c cs B w d N (cnt_any N) hN' hs hB h1 h2 hd (by omega) hx.1 hx.2.1 hx.2.2
        · exact cnt_6x o t p n l op c cs B w d hs hB h1 h2 hd (by omega) hx
      by_cases k7 : k = 7
      · subst k7
        by_cases hq : p.len < 2
        · exact cnt_7n o t p n l op c cs B w d hs h1 h2 hd hq
        · exact cnt_7 o t p n l op c cs B w d N (cnt_any N) hN' hs hB h1 h2 hd (by omega)
      by_cases k8 : k = 8
      · subst k8
        cases hc : Sp.isNm c with
        | true => exact cnt_8t o t p n l op c cs B w d hs h1 h2 hd hc
        | false => exact cnt_8f o t p n l op c cs B w d hs h1 h2 hd hc
      exact cnt_other k o t p n l op c cs B w d hs h1 h2 hd k1 k2 k3 k4 k5 k6 k7 k8
set_option maxRecDepth 100000 in
set_option maxHeartbeats 2000000 in
theorem refCan_any (t : Ty) (cs : Array Value) (B : Nat → Prop) (w : World) (hs : t.In w B cs) (hB : Sub B w) : Calls Tryz.prog 20 #[.agg cs] w fun e w' => e = .returned (.bool t.can) ∧ Below w.heap.size w w' := by
  have hz := (Ty.In_cells hs).1
  have hbx := bx_below w cs
  have HB : Hid (Below w.heap.size w (w.alloc (.cells cs 43))) := hbx
  have HL : Hid ((loadVar 43 ⟨w.heap.size, 0, none⟩).run Tryz.prog (w.alloc (.cells cs 43)) = .ok (.agg cs) (w.alloc (.cells cs 43))) := yld hz (heap_alloc_new w _)
  have HO : Hid (Calls Tryz.prog 30 #[.agg cs, .int .i64 1] (w.alloc (.cells cs 43)) fun e w' => e = .returned (.int .i64 (t.cntR 1)) ∧ Below (w.alloc (.cells cs 43)).heap.size (w.alloc (.cells cs 43)) w') := cnt_any t.sz t (Nat.le_refl _) cs B _ 1 (t.In_same (hB.same hbx) (fun _ h => h) cs hs) (hB.later hbx) (by decide) (by decide)
  have HX : Hid (decide (0 < t.cntR 1) = t.can) := Ty.can_cnt t
  have hbd := Ty.cntR_bd t 1 (by decide)
  clear hs hB hz hbx
  generalize t.cntR 1 = q at *
  go_enter Tryz.func20, Tryz.ntmps20
  go_wp2_with ((with_reducible refine ld_row ?_ ?_ HL.out ?_); rfl; rfl)
  refine HO.out.mono ?_
  rintro e w4 ⟨rfl, hb4⟩
  have H4 : Hid (Below w.heap.size w w4) := below_to HB.out hb4
  clear hb4
  go_wp2_with fail
  go_ret
  exact ⟨ret_bool HX.out, H4.out⟩
end Go.Proofs.YtbjcabpmndhfmaaGreat

