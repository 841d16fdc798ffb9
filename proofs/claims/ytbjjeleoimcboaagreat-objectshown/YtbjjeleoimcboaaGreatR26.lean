/- tenonref10.Nil; the functions that ObjectShown hands to Tryz. -/
import Derived.Test.YtbjjeleoimcboaaGreatR7
import Derived.Test.YtbjjeleoimcboaaGreatR25
namespace Go.Proofs.YtbjjeleoimcboaaGreat
open Go.RowKit

set_option maxRecDepth 100000 in
set_option maxHeartbeats 1000000 in
theorem Nil_yes (r : Sr) (h n sh : Int) (hh : h = 1 ∨ h = 2) (w : World) :
    Calls Tryz.prog 8 #[.agg (r.cs h n sh)] w fun e w' => e = .returned (.bool true) ∧ Below w.heap.size w w' := by
  unfold Sr.cs
  rcases hh with rfl | rfl
  · go_enter Tryz.func8, Tryz.ntmps8
    go_wp2_with fail
    go_ret
    exact ⟨rfl, (Below.refl _ _).alloc (Nat.le_refl _) _⟩
  · go_enter Tryz.func8, Tryz.ntmps8
    go_wp2_with fail
    go_ret
    exact ⟨rfl, (Below.refl _ _).alloc (Nat.le_refl _) _⟩
set_option maxRecDepth 100000 in
set_option maxHeartbeats 1000000 in
theorem Nil_no (r : Sr) (h n sh : Int) (b1 : (h == 1) = false) (b2 : (h == 2) = false) (w : World) :
    Calls Tryz.prog 8 #[.agg (r.cs h n sh)] w fun e w' => e = .returned (.bool false) ∧ Below w.heap.size w w' := by
  unfold Sr.cs
  go_enter Tryz.func8, Tryz.ntmps8
  go_wp2_with fail
  go_ret
  exact ⟨rfl, (Below.refl _ _).alloc (Nat.le_refl _) _⟩

theorem calls_ld {r : Sr} {h sh : Int} {n c : Nat} {w : World} (hc : Core r h n sh c w) : (loadVar 70 ⟨c, 14, none⟩).run Tryz.prog w = .ok (.agg #[.int .i64 0, .int .i64 0, .int .i64 0, .int .i64 0, .int .i64 0, .int .i64 0, .int .i64 0, .int .i64 0, .int .i64 0]) w := by
  have := run_loadVar_mid (P := Tryz.prog) w c 14 70 zs.toList _ (fun j v hj => by
    have hj' : j < 9 := (List.getElem?_eq_some_iff.1 hj).1
    rw [cell_of_row _ _ _ _ _ _ hc]
    rw [Array.getElem?_append_right (by show 14 ≤ _; omega)]
    simpa [Sr.cs] using hj) Tryz.underlying70 rfl (by kernel_rfl)
  simpa [zs] using this

/-- what Try tells of a panicking assertion -/
def mk (b : Bool) : Int := if b then 0 else 1
def me (b : Bool) : Int := if b then 0 else 9
set_option maxRecDepth 100000 in
set_option maxHeartbeats 1000000 in
theorem musts_0 {T n : Nat} (h : Ab T n) (v : Value) (p : Nat) (w : World) (hc : w.cell? ⟨p, 0, none⟩ = some (.iface T v)) :
    Calls Tryz.prog 9 #[.pointer (some ⟨p, 0, none⟩)] w fun e w' => Ends (mk (n.testBit 0)) (me (n.testBit 0)) e ∧ Below w.heap.size w w' := by
  have HM : Hid (Calls Tryz.prog 10 #[.iface T v] w fun e w' => MustE (n.testBit 0) (.iface T v) w e w') := Must_Versioned h v w
  clear h
  generalize n.testBit 0 = b at HM ⊢
  go_enter Tryz.func9, Tryz.ntmps9
  go_wp2_with fail
  refine HM.out.mono ?_
  cases b
  · rintro e w' ⟨pv, rfl, hk, hbw⟩
    exact ⟨rfl, .inr ⟨pv, rfl, hk⟩, hbw⟩
  · rintro e w' ⟨rfl, rfl⟩
    go_wp2_with fail
    go_end0
    exact ⟨.inl ⟨rfl, rfl, rfl⟩, Below.refl _ _⟩

theorem Try_musts_0 {T n : Nat} (h : Ab T n) (v : Value) (p : Nat) (w : World) (hc : w.cell? ⟨p, 0, none⟩ = some (.iface T v)) :
    Calls Tryz.prog 21 #[.func (.func 9) #[] #[.pointer (some ⟨p, 0, none⟩)]] w fun e w' => e = .returned (.tuple #[.int .i64 (mk (n.testBit 0)), .int .i64 (me (n.testBit 0))]) ∧ Below w.heap.size w w' := by
  have hl := World.block_lt_of_cell? _ _ hc
  refine Try_any _ _ _ _ w (fun w' => Below w.heap.size w w') (fun W => by kernel_rfl) ?_ ?_
  · intro X Y hXY h; exact h.trans hXY
  · intro W1 hb1 hs1
    refine (musts_0 h v p W1 (by rw [hb1.cell (p := ⟨p, 0, none⟩) hl]; exact hc)).mono ?_
    rintro e w' ⟨he, hb⟩
    exact ⟨he, hb.block _ (by omega), hb.block _ (by omega), hb1.trans (hb.mono (by omega))⟩

set_option maxRecDepth 100000 in
set_option maxHeartbeats 1000000 in
theorem musts_1 {T n : Nat} (h : Ab T n) (v : Value) (p : Nat) (w : World) (hc : w.cell? ⟨p, 0, none⟩ = some (.iface T v)) :
    Calls Tryz.prog 11 #[.pointer (some ⟨p, 0, none⟩)] w fun e w' => Ends (mk (n.testBit 1)) (me (n.testBit 1)) e ∧ Below w.heap.size w w' := by
  have HM : Hid (Calls Tryz.prog 12 #[.iface T v] w fun e w' => MustE (n.testBit 1) (.iface T v) w e w') := Must_Indexed h v w
  clear h
  generalize n.testBit 1 = b at HM ⊢
  go_enter Tryz.func11, Tryz.ntmps11
  go_wp2_with fail
  refine HM.out.mono ?_
  cases b
  · rintro e w' ⟨pv, rfl, hk, hbw⟩
    exact ⟨rfl, .inr ⟨pv, rfl, hk⟩, hbw⟩
  · rintro e w' ⟨rfl, rfl⟩
    go_wp2_with fail
    go_end0
    exact ⟨.inl ⟨rfl, rfl, rfl⟩, Below.refl _ _⟩

theorem Try_musts_1 {T n : Nat} (h : Ab T n) (v : Value) (p : Nat) (w : World) (hc : w.cell? ⟨p, 0, none⟩ = some (.iface T v)) :
    Calls Tryz.prog 21 #[.func (.func 11) #[] #[.pointer (some ⟨p, 0, none⟩)]] w fun e w' => e = .returned (.tuple #[.int .i64 (mk (n.testBit 1)), .int .i64 (me (n.testBit 1))]) ∧ Below w.heap.size w w' := by
  have hl := World.block_lt_of_cell? _ _ hc
  refine Try_any _ _ _ _ w (fun w' => Below w.heap.size w w') (fun W => by kernel_rfl) ?_ ?_
  · intro X Y hXY h; exact h.trans hXY
  · intro W1 hb1 hs1
    refine (musts_1 h v p W1 (by rw [hb1.cell (p := ⟨p, 0, none⟩) hl]; exact hc)).mono ?_
    rintro e w' ⟨he, hb⟩
    exact ⟨he, hb.block _ (by omega), hb.block _ (by omega), hb1.trans (hb.mono (by omega))⟩

set_option maxRecDepth 100000 in
set_option maxHeartbeats 1000000 in
theorem musts_2 {T n : Nat} (h : Ab T n) (v : Value) (p : Nat) (w : World) (hc : w.cell? ⟨p, 0, none⟩ = some (.iface T v)) :
    Calls Tryz.prog 13 #[.pointer (some ⟨p, 0, none⟩)] w fun e w' => Ends (mk (n.testBit 2)) (me (n.testBit 2)) e ∧ Below w.heap.size w w' := by
  have HM : Hid (Calls Tryz.prog 14 #[.iface T v] w fun e w' => MustE (n.testBit 2) (.iface T v) w e w') := Must_Owned h v w
  clear h
  generalize n.testBit 2 = b at HM ⊢
  go_enter Tryz.func13, Tryz.ntmps13
  go_wp2_with fail
  refine HM.out.mono ?_
  cases b
  · rintro e w' ⟨pv, rfl, hk, hbw⟩
    exact ⟨rfl, .inr ⟨pv, rfl, hk⟩, hbw⟩
  · rintro e w' ⟨rfl, rfl⟩
    go_wp2_with fail
    go_end0
    exact ⟨.inl ⟨rfl, rfl, rfl⟩, Below.refl _ _⟩

theorem Try_musts_2 {T n : Nat} (h : Ab T n) (v : Value) (p : Nat) (w : World) (hc : w.cell? ⟨p, 0, none⟩ = some (.iface T v)) :
    Calls Tryz.prog 21 #[.func (.func 13) #[] #[.pointer (some ⟨p, 0, none⟩)]] w fun e w' => e = .returned (.tuple #[.int .i64 (mk (n.testBit 2)), .int .i64 (me (n.testBit 2))]) ∧ Below w.heap.size w w' := by
  have hl := World.block_lt_of_cell? _ _ hc
  refine Try_any _ _ _ _ w (fun w' => Below w.heap.size w w') (fun W => by kernel_rfl) ?_ ?_
  · intro X Y hXY h; exact h.trans hXY
  · intro W1 hb1 hs1
    refine (musts_2 h v p W1 (by rw [hb1.cell (p := ⟨p, 0, none⟩) hl]; exact hc)).mono ?_
    rintro e w' ⟨he, hb⟩
    exact ⟨he, hb.block _ (by omega), hb.block _ (by omega), hb1.trans (hb.mono (by omega))⟩

set_option maxRecDepth 100000 in
set_option maxHeartbeats 1000000 in
theorem musts_3 {T n : Nat} (h : Ab T n) (v : Value) (p : Nat) (w : World) (hc : w.cell? ⟨p, 0, none⟩ = some (.iface T v)) :
    Calls Tryz.prog 15 #[.pointer (some ⟨p, 0, none⟩)] w fun e w' => Ends (mk (n.testBit 3)) (me (n.testBit 3)) e ∧ Below w.heap.size w w' := by
  have HM : Hid (Calls Tryz.prog 16 #[.iface T v] w fun e w' => MustE (n.testBit 3) (.iface T v) w e w') := Must_Lazy h v w
  clear h
  generalize n.testBit 3 = b at HM ⊢
  go_enter Tryz.func15, Tryz.ntmps15
  go_wp2_with fail
  refine HM.out.mono ?_
  cases b
  · rintro e w' ⟨pv, rfl, hk, hbw⟩
    exact ⟨rfl, .inr ⟨pv, rfl, hk⟩, hbw⟩
  · rintro e w' ⟨rfl, rfl⟩
    go_wp2_with fail
    go_end0
    exact ⟨.inl ⟨rfl, rfl, rfl⟩, Below.refl _ _⟩

theorem Try_musts_3 {T n : Nat} (h : Ab T n) (v : Value) (p : Nat) (w : World) (hc : w.cell? ⟨p, 0, none⟩ = some (.iface T v)) :
    Calls Tryz.prog 21 #[.func (.func 15) #[] #[.pointer (some ⟨p, 0, none⟩)]] w fun e w' => e = .returned (.tuple #[.int .i64 (mk (n.testBit 3)), .int .i64 (me (n.testBit 3))]) ∧ Below w.heap.size w w' := by
  have hl := World.block_lt_of_cell? _ _ hc
  refine Try_any _ _ _ _ w (fun w' => Below w.heap.size w w') (fun W => by kernel_rfl) ?_ ?_
  · intro X Y hXY h; exact h.trans hXY
  · intro W1 hb1 hs1
    refine (musts_3 h v p W1 (by rw [hb1.cell (p := ⟨p, 0, none⟩) hl]; exact hc)).mono ?_
    rintro e w' ⟨he, hb⟩
    exact ⟨he, hb.block _ (by omega), hb.block _ (by omega), hb1.trans (hb.mono (by omega))⟩

end Go.Proofs.YtbjjeleoimcboaaGreat

/- tenonlaw10.ObjectShown at a description of nothing, or of a hollow one. -/
namespace Go.Proofs.YtbjjeleoimcboaaGreat
open Go.RowKit

set_option maxRecDepth 100000 in
set_option maxHeartbeats 8000000 in
theorem Shown_nil (r : Sr) (h n sh : Int) (m : Nat) (hm : m < 16) (hk : fitM 16 n = (m : Int)) (hh : Hid (fitM 4 h = 1 ∨ fitM 4 h = 2)) (w : World) :
    Calls Tryz.prog 3 #[.agg (r.cs h n sh)] w fun e w' => e = .returned (.bool true) ∧ Below w.heap.size w w' := by
  have hmf : ∀ (fn : Fn) (first cap : Array Value) (w : World), (Instr.makeFunc fn first cap).run Tryz.prog w = .ok (.func fn first cap) w := fun _ _ _ _ => rfl
  have HLv : Hid (∀ W, Calls Tryz.prog 4 #[] W fun e w' => e = .returned (.bool true) ∧ Below W.heap.size W w') := lives_any
  have HF : Hid (∀ W, Calls Tryz.prog 5 #[.agg (r.cs h n sh)] W fun e w' => e = .returned (.agg (r.cs (fitM 4 h) (fitM 16 n) sh)) ∧ Below W.heap.size W w') := fun W => Fit_any r h n sh W
  have Hh : Hid (0 ≤ fitM 4 h ∧ fitM 4 h < 4) := (fitM_eq 4 h (by decide) (by decide)).1
  generalize fitM 4 h = h' at HF Hh hh
  rw [hk] at HF
  clear hk
  have HA : Hid (∀ o, (w.alloc o).heap[w.heap.size]? = some o) := fun o => heap_alloc_last w o
  go_enter Tryz.func3, Tryz.ntmps3
  unfold Sr.cs
  go_wp2_with fail
  show Calls Tryz.prog _ _ (w.alloc (.cells (r.cs h n sh) 28)) _
  refine (HLv.out _).mono ?_
  rintro e w1 ⟨rfl, hb1⟩
  have k1 := (hb1.block w.heap.size (by simp)).trans (HA.out _)
  have HB1 : Hid (Below w.heap.size w w1) := ((Below.refl _ _).alloc (Nat.le_refl _) _).trans (hb1.mono (by simp))
  have HLD1 : Hid ((loadVar 28 ⟨w.heap.size, 0, none⟩).run Tryz.prog w1 = .ok (.agg (r.cs h n sh)) w1) := sp_ld r h n sh k1
  have HZ1 : Hid (w.heap.size < w1.heap.size) := (Array.getElem?_eq_some_iff.1 k1).1
  clear hb1
  go_wp2_with ((with_reducible refine ldr ?_ ?_ HLD1.out ?_); rfl; rfl)
  refine (HF.out _).mono ?_
  rintro e w2 ⟨rfl, hb2⟩
  have k2 := (hb2.block w.heap.size HZ1.out).trans k1
  have HB2 : Hid (Below w.heap.size w w2) := HB1.out.trans (hb2.mono HB1.out.size)
  have HST : Hid ((storeVar 28 ⟨w.heap.size, 0, none⟩ (.agg (r.cs h' m sh))).run Tryz.prog w2 = .ok () (w2.setRow w.heap.size (r.cs h' m sh))) := sp_st r h' m sh k2 rfl
  have k3 := setRow_heap _ _ _ (r.cs h' m sh) _ _ k2
  have HB3 : Hid (Below w.heap.size w (w2.setRow w.heap.size (r.cs h' m sh))) := HB2.out.trans ⟨rfl, rfl, rfl, by rw [setRow_size]; exact Nat.le_refl _, fun k hk => setRow_other _ _ _ _ (by omega)⟩
  generalize w2.setRow w.heap.size (r.cs h' m sh) = w3 at HST k3 HB3
  have HZ3 : Hid (w.heap.size < w3.heap.size) := (Array.getElem?_eq_some_iff.1 k3).1
  have HLD3 : Hid ((loadVar 28 ⟨w.heap.size, 0, none⟩).run Tryz.prog w3 = .ok (.agg (r.cs h' m sh)) w3) := sp_ld r h' m sh k3
  clear hb2 k1 k2 HB1 HB2 HLD1 HZ1 HF HLv HA
  go_wp2_with (first | ((with_reducible refine str ?_ ?_ ?_ HST.out ?_); rfl; rfl; rfl) | ((with_reducible refine ldr ?_ ?_ HLD3.out ?_); rfl; rfl))
  refine (made_any r h' m sh w3).mono ?_
  rintro e w4 ⟨h2, n2, o, c, d, rfl, hb4, _, _, eh, en, hO⟩
  obtain rfl := eh Hh.out.1 Hh.out.2
  have e2 : n2 = m := by have := en (by omega) (by omega); omega
  subst e2
  have k4 := (hb4.block w.heap.size HZ3.out).trans k3
  have HB4 : Hid (Below w.heap.size w w4) := HB3.out.trans (hb4.mono HB3.out.size)
  have HZ4 : Hid (w.heap.size < w4.heap.size) := (Array.getElem?_eq_some_iff.1 k4).1
  clear hb4 k3 HB3 HLD3 HZ3 HST eh en
  rcases hh.out with rfl | rfl
  · have ho : o = .nilIface := by
      rcases hO with ⟨_, h⟩ | ⟨h, _⟩ | ⟨h | h, _⟩
      · exact h
      · exact absurd h (by decide)
      · exact absurd h (by decide)
      · exact absurd h (by decide)
    subst ho
    have HAb : Hid (∀ W, Calls Tryz.prog 7 #[.nilIface] W fun e w' => e = .returned (.tuple #[.int .i64 0, .int .i64 7]) ∧ W = w') := fun W => Abilities_no _ 1 (by decide) W (fun W => holds_nil W)
    have HLD5 : Hid ((loadVar 28 ⟨w.heap.size, 0, none⟩).run Tryz.prog (w4.alloc (.cells #[.nilIface, .pointer (some ⟨c, 0, none⟩), .pointer (some ⟨d, 0, none⟩)] 36)) = .ok (.agg (r.cs 1 n2 sh)) (w4.alloc (.cells #[.nilIface, .pointer (some ⟨c, 0, none⟩), .pointer (some ⟨d, 0, none⟩)] 36))) := sp_ld r 1 n2 sh ((Below.heap_alloc _ _ _ HZ4.out).trans k4)
    have HNi : Hid (∀ W, Calls Tryz.prog 8 #[.agg (r.cs 1 n2 sh)] W fun e w' => e = .returned (.bool true) ∧ Below W.heap.size W w') := fun W => Nil_yes r 1 n2 sh (.inl rfl) W
    have HB5 : Hid (Below w.heap.size w (w4.alloc (.cells #[.nilIface, .pointer (some ⟨c, 0, none⟩), .pointer (some ⟨d, 0, none⟩)] 36))) := HB4.out.alloc HB4.out.size _
    clear k4 hO
    go_wp2_with (first | (go_at_call 7; refine (HAb.out _).mono ?_; rintro e w' ⟨rfl, rfl⟩) | ((with_reducible refine ldr ?_ ?_ HLD5.out ?_); rfl; rfl))
    refine (HNi.out _).mono ?_
    rintro e w6 ⟨rfl, hb6⟩
    have HB6 : Hid (Below w.heap.size w w6) := HB5.out.trans (hb6.mono HB5.out.size)
    clear hb6
    go_wp2_with fail
    go_ret
    exact ⟨rfl, HB6.out⟩
  · have ho : o = .iface 66 (.pointer none) := by
      rcases hO with ⟨h, _⟩ | ⟨_, h⟩ | ⟨h | h, _⟩
      · exact absurd h (by decide)
      · exact h
      · exact absurd h (by decide)
      · exact absurd h (by decide)
    subst ho
    have HAb : Hid (∀ W, Calls Tryz.prog 7 #[.iface 66 (.pointer none)] W fun e w' => e = .returned (.tuple #[.int .i64 0, .int .i64 7]) ∧ W = w') := fun W => Abilities_no _ 2 (by decide) W (fun W => holds_hollow W)
    have HLD5 : Hid ((loadVar 28 ⟨w.heap.size, 0, none⟩).run Tryz.prog (w4.alloc (.cells #[.iface 66 (.pointer none), .pointer (some ⟨c, 0, none⟩), .pointer (some ⟨d, 0, none⟩)] 36)) = .ok (.agg (r.cs 2 n2 sh)) (w4.alloc (.cells #[.iface 66 (.pointer none), .pointer (some ⟨c, 0, none⟩), .pointer (some ⟨d, 0, none⟩)] 36))) := sp_ld r 2 n2 sh ((Below.heap_alloc _ _ _ HZ4.out).trans k4)
    have HNi : Hid (∀ W, Calls Tryz.prog 8 #[.agg (r.cs 2 n2 sh)] W fun e w' => e = .returned (.bool true) ∧ Below W.heap.size W w') := fun W => Nil_yes r 2 n2 sh (.inr rfl) W
    have HB5 : Hid (Below w.heap.size w (w4.alloc (.cells #[.iface 66 (.pointer none), .pointer (some ⟨c, 0, none⟩), .pointer (some ⟨d, 0, none⟩)] 36))) := HB4.out.alloc HB4.out.size _
    clear k4 hO
    go_wp2_with (first | (go_at_call 7; refine (HAb.out _).mono ?_; rintro e w' ⟨rfl, rfl⟩) | ((with_reducible refine ldr ?_ ?_ HLD5.out ?_); rfl; rfl))
    refine (HNi.out _).mono ?_
    rintro e w6 ⟨rfl, hb6⟩
    have HB6 : Hid (Below w.heap.size w w6) := HB5.out.trans (hb6.mono HB5.out.size)
    clear hb6
    go_wp2_with fail
    go_ret
    exact ⟨rfl, HB6.out⟩
end Go.Proofs.YtbjjeleoimcboaaGreat

/- tenonlaw10.ObjectShown at a description of an object that has just the abilities of 0, 1, 2, 3. -/
namespace Go.Proofs.YtbjjeleoimcboaaGreat
open Go.RowKit

set_option maxRecDepth 100000 in
set_option maxHeartbeats 8000000 in
theorem Shown_0 (r : Sr) (h n sh : Int) (hk : fitM 16 n = 0) (hh : Hid (fitM 4 h = 0 ∨ fitM 4 h = 3)) (w : World) :
    Calls Tryz.prog 3 #[.agg (r.cs h n sh)] w fun e w' => e = .returned (.bool true) ∧ Below w.heap.size w w' := by
  have hmf : ∀ (fn : Fn) (first cap : Array Value) (w : World), (Instr.makeFunc fn first cap).run Tryz.prog w = .ok (.func fn first cap) w := fun _ _ _ _ => rfl
  have HLv : Hid (∀ W, Calls Tryz.prog 4 #[] W fun e w' => e = .returned (.bool true) ∧ Below W.heap.size W w') := lives_any
  have HF : Hid (∀ W, Calls Tryz.prog 5 #[.agg (r.cs h n sh)] W fun e w' => e = .returned (.agg (r.cs (fitM 4 h) (fitM 16 n) sh)) ∧ Below W.heap.size W w') := fun W => Fit_any r h n sh W
  have Hh : Hid (0 ≤ fitM 4 h ∧ fitM 4 h < 4) := (fitM_eq 4 h (by decide) (by decide)).1
  generalize fitM 4 h = h' at HF Hh hh
  rw [hk] at HF
  clear hk
  have HA : Hid (∀ o, (w.alloc o).heap[w.heap.size]? = some o) := fun o => heap_alloc_last w o
  go_enter Tryz.func3, Tryz.ntmps3
  unfold Sr.cs
  go_wp2_with fail
  show Calls Tryz.prog _ _ (w.alloc (.cells (r.cs h n sh) 28)) _
  refine (HLv.out _).mono ?_
  rintro e w1 ⟨rfl, hb1⟩
  have k1 := (hb1.block w.heap.size (by simp)).trans (HA.out _)
  have HB1 : Hid (Below w.heap.size w w1) := ((Below.refl _ _).alloc (Nat.le_refl _) _).trans (hb1.mono (by simp))
  have HLD1 : Hid ((loadVar 28 ⟨w.heap.size, 0, none⟩).run Tryz.prog w1 = .ok (.agg (r.cs h n sh)) w1) := sp_ld r h n sh k1
  have HZ1 : Hid (w.heap.size < w1.heap.size) := (Array.getElem?_eq_some_iff.1 k1).1
  clear hb1
  go_wp2_with ((with_reducible refine ldr ?_ ?_ HLD1.out ?_); rfl; rfl)
  refine (HF.out _).mono ?_
  rintro e w2 ⟨rfl, hb2⟩
  have k2 := (hb2.block w.heap.size HZ1.out).trans k1
  have HB2 : Hid (Below w.heap.size w w2) := HB1.out.trans (hb2.mono HB1.out.size)
  have HST : Hid ((storeVar 28 ⟨w.heap.size, 0, none⟩ (.agg (r.cs h' 0 sh))).run Tryz.prog w2 = .ok () (w2.setRow w.heap.size (r.cs h' 0 sh))) := sp_st r h' 0 sh k2 rfl
  have k3 := setRow_heap _ _ _ (r.cs h' 0 sh) _ _ k2
  have HB3 : Hid (Below w.heap.size w (w2.setRow w.heap.size (r.cs h' 0 sh))) := HB2.out.trans ⟨rfl, rfl, rfl, by rw [setRow_size]; exact Nat.le_refl _, fun k hk => setRow_other _ _ _ _ (by omega)⟩
  generalize w2.setRow w.heap.size (r.cs h' 0 sh) = w3 at HST k3 HB3
  have HZ3 : Hid (w.heap.size < w3.heap.size) := (Array.getElem?_eq_some_iff.1 k3).1
  have HLD3 : Hid ((loadVar 28 ⟨w.heap.size, 0, none⟩).run Tryz.prog w3 = .ok (.agg (r.cs h' 0 sh)) w3) := sp_ld r h' 0 sh k3
  clear hb2 k1 k2 HB1 HB2 HLD1 HZ1 HF HLv HA
  go_wp2_with (first | ((with_reducible refine str ?_ ?_ ?_ HST.out ?_); rfl; rfl; rfl) | ((with_reducible refine ldr ?_ ?_ HLD3.out ?_); rfl; rfl))
  refine (made_any r h' 0 sh w3).mono ?_
  rintro e w4 ⟨h2, n2, o, c, d, rfl, hb4, _, _, eh, en, hO⟩
  obtain rfl := eh Hh.out.1 Hh.out.2
  have e2 : n2 = 0 := by have := en (by omega) (by omega); omega
  subst e2
  have k4 := (hb4.block w.heap.size HZ3.out).trans k3
  have HB4 : Hid (Below w.heap.size w w4) := HB3.out.trans (hb4.mono HB3.out.size)
  have HZ4 : Hid (w.heap.size < w4.heap.size) := (Array.getElem?_eq_some_iff.1 k4).1
  clear hb4 k3 HB3 HLD3 HZ3 HST eh en
  obtain ⟨T, v, rfl, hA, hT, hC⟩ : ∃ T v, o = .iface T v ∧ Ab T 0 ∧ T ≠ 66 ∧ Core r h2 0 sh c w4 := by
    rcases hO with ⟨h, _⟩ | ⟨h, _⟩ | ⟨_, h⟩
    · have := hh.out; omega
    · have := hh.out; omega
    · exact h
  have hs : Sm T v := .inr hT
  have HAb : Hid (∀ W, Calls Tryz.prog 7 #[.iface T v] W fun e w' => e = .returned (.tuple #[.int .i64 0, .int .i64 0]) ∧ W = w') := fun W => Abilities_any hA (by decide) hs W
  have HA0 : Hid (∀ W, Calls Tryz.prog 17 #[.iface T v] W fun e w' => e = .returned (.tuple #[.nilIface, .bool false]) ∧ W = w') := fun W => As_Versioned hA hs W
  have HT0 : Hid (∀ W : World, W.cell? ⟨w4.heap.size, 0, none⟩ = some (.iface T v) → Calls Tryz.prog 21 #[.func (.func 9) #[] #[.pointer (some ⟨w4.heap.size, 0, none⟩)]] W fun e w' => e = .returned (.tuple #[.int .i64 1, .int .i64 9]) ∧ Below W.heap.size W w') := fun W h => Try_musts_0 hA v _ W h
  have HA1 : Hid (∀ W, Calls Tryz.prog 18 #[.iface T v] W fun e w' => e = .returned (.tuple #[.nilIface, .bool false]) ∧ W = w') := fun W => As_Indexed hA hs W
  have HT1 : Hid (∀ W : World, W.cell? ⟨w4.heap.size, 0, none⟩ = some (.iface T v) → Calls Tryz.prog 21 #[.func (.func 11) #[] #[.pointer (some ⟨w4.heap.size, 0, none⟩)]] W fun e w' => e = .returned (.tuple #[.int .i64 1, .int .i64 9]) ∧ Below W.heap.size W w') := fun W h => Try_musts_1 hA v _ W h
  have HA2 : Hid (∀ W, Calls Tryz.prog 19 #[.iface T v] W fun e w' => e = .returned (.tuple #[.nilIface, .bool false]) ∧ W = w') := fun W => As_Owned hA hs W
  have HT2 : Hid (∀ W : World, W.cell? ⟨w4.heap.size, 0, none⟩ = some (.iface T v) → Calls Tryz.prog 21 #[.func (.func 13) #[] #[.pointer (some ⟨w4.heap.size, 0, none⟩)]] W fun e w' => e = .returned (.tuple #[.int .i64 1, .int .i64 9]) ∧ Below W.heap.size W w') := fun W h => Try_musts_2 hA v _ W h
  have HA3 : Hid (∀ W, Calls Tryz.prog 20 #[.iface T v] W fun e w' => e = .returned (.tuple #[.nilIface, .bool false]) ∧ W = w') := fun W => As_Lazy hA hs W
  have HT3 : Hid (∀ W : World, W.cell? ⟨w4.heap.size, 0, none⟩ = some (.iface T v) → Calls Tryz.prog 21 #[.func (.func 15) #[] #[.pointer (some ⟨w4.heap.size, 0, none⟩)]] W fun e w' => e = .returned (.tuple #[.int .i64 1, .int .i64 9]) ∧ Below W.heap.size W w') := fun W h => Try_musts_3 hA v _ W h
  have HAO : Hid (∀ W, Calls Tryz.prog 22 #[.iface T v] W fun e w' => e = .returned (.tuple #[.iface T v, .bool true]) ∧ W = w') := fun W => As_Object hA hs W
  have HAT : Hid (∀ W, Calls Tryz.prog 23 #[.iface T v] W fun e w' => e = .returned (.tuple #[.pointer none, .bool false]) ∧ W = w') := fun W => As_Thing hT v W
  have HNi : Hid (∀ W, Calls Tryz.prog 8 #[.agg (r.cs h2 0 sh)] W fun e w' => e = .returned (.bool false) ∧ Below W.heap.size W w') := fun W => Nil_no r h2 0 sh (by have := hh.out; simp; omega) (by have := hh.out; simp; omega) W
  have HLD5 : Hid ((loadVar 28 ⟨w.heap.size, 0, none⟩).run Tryz.prog (w4.alloc (Obj.cells #[.iface T v, .pointer (some ⟨c, 0, none⟩), .pointer (some ⟨d, 0, none⟩)] 36)) = .ok (.agg (r.cs h2 0 sh)) (w4.alloc (Obj.cells #[.iface T v, .pointer (some ⟨c, 0, none⟩), .pointer (some ⟨d, 0, none⟩)] 36))) := sp_ld r h2 0 sh ((Below.heap_alloc _ _ _ HZ4.out).trans k4)
  have HB5 : Hid (Below w.heap.size w (w4.alloc (Obj.cells #[.iface T v, .pointer (some ⟨c, 0, none⟩), .pointer (some ⟨d, 0, none⟩)] 36))) := HB4.out.alloc HB4.out.size _
  have k5 := (Below.heap_alloc w4 (Obj.cells #[.iface T v, .pointer (some ⟨c, 0, none⟩), .pointer (some ⟨d, 0, none⟩)] 36) _ HZ4.out).trans k4
  have q5 : (w4.alloc (Obj.cells #[.iface T v, .pointer (some ⟨c, 0, none⟩), .pointer (some ⟨d, 0, none⟩)] 36)).heap[w4.heap.size]? = some (Obj.cells #[.iface T v, .pointer (some ⟨c, 0, none⟩), .pointer (some ⟨d, 0, none⟩)] 36) := heap_alloc_last _ _
  have c5 : Core r h2 0 sh c (w4.alloc (Obj.cells #[.iface T v, .pointer (some ⟨c, 0, none⟩), .pointer (some ⟨d, 0, none⟩)] 36)) := (Below.heap_alloc w4 (Obj.cells #[.iface T v, .pointer (some ⟨c, 0, none⟩), .pointer (some ⟨d, 0, none⟩)] 36) _ (Array.getElem?_eq_some_iff.1 hC).1).trans hC
  clear k4 hO hC hA hT hs hh
  go_wp2_with (first | (go_at_call 7; refine (HAb.out _).mono ?_; rintro e w' ⟨rfl, rfl⟩) | ((with_reducible refine ldr ?_ ?_ HLD5.out ?_); rfl; rfl))
  refine (HNi.out _).mono ?_
  rintro e w6 ⟨rfl, hb6⟩
  have HB6 : Hid (Below w.heap.size w w6) := HB5.out.trans (hb6.mono HB5.out.size)
  have k6 := (hb6.block _ (Array.getElem?_eq_some_iff.1 k5).1).trans k5
  have q6 := (hb6.block _ (Array.getElem?_eq_some_iff.1 q5).1).trans q5
  have c6 : Core r h2 0 sh c w6 := (hb6.block _ (Array.getElem?_eq_some_iff.1 c5).1).trans c5
  have x1 : w6.cell? ⟨w.heap.size, 1, none⟩ = some (.int .i64 0) := by rw [cell_of_row _ _ 1 _ _ _ k6]; rfl
  have x0 : w6.cell? ⟨w4.heap.size, 0, none⟩ = some (.iface T v) := by rw [cell_of_row _ _ 0 _ _ _ q6]; rfl
  have x0a : ∀ X, (w6.alloc X).cell? ⟨w4.heap.size, 0, none⟩ = some (.iface T v) := fun X => by rw [((Below.refl w6.heap.size w6).alloc (Nat.le_refl _) X).cell (p := ⟨w4.heap.size, 0, none⟩) (World.block_lt_of_cell? _ _ x0)]; exact x0
  have HQ6 : Hid (w6.heap[w4.heap.size]? = some (Obj.cells #[.iface T v, .pointer (some ⟨c, 0, none⟩), .pointer (some ⟨d, 0, none⟩)] 36) ∧ Core r h2 0 sh c w6) := ⟨q6, c6⟩
  clear hb6 k5 q5 c5 k6 q6 c6 HLD5 HNi HAb HB5
  go_wp2_with (first | (go_at_call 17; refine (HA0.out _).mono ?_; rintro e w' ⟨rfl, rfl⟩) | (go_at_call 18; refine (HA1.out _).mono ?_; rintro e w' ⟨rfl, rfl⟩) | (go_at_call 19; refine (HA2.out _).mono ?_; rintro e w' ⟨rfl, rfl⟩) | (go_at_call 20; refine (HA3.out _).mono ?_; rintro e w' ⟨rfl, rfl⟩))
  have m8 : ((w6.alloc (Obj.cells #[.func (.func 9) #[] #[.pointer (some ⟨w4.heap.size, 0, none⟩)], .func (.func 11) #[] #[.pointer (some ⟨w4.heap.size, 0, none⟩)], .func (.func 13) #[] #[.pointer (some ⟨w4.heap.size, 0, none⟩)], .func (.func 15) #[] #[.pointer (some ⟨w4.heap.size, 0, none⟩)]] 1)).alloc (Obj.cells #[.bool false, .bool false, .bool false, .bool false] 4)).heap[w6.heap.size]? = some (Obj.cells #[.func (.func 9) #[] #[.pointer (some ⟨w4.heap.size, 0, none⟩)], .func (.func 11) #[] #[.pointer (some ⟨w4.heap.size, 0, none⟩)], .func (.func 13) #[] #[.pointer (some ⟨w4.heap.size, 0, none⟩)], .func (.func 15) #[] #[.pointer (some ⟨w4.heap.size, 0, none⟩)]] 1) := al2_old _ _ _
  have s8 : ((w6.alloc (Obj.cells #[.func (.func 9) #[] #[.pointer (some ⟨w4.heap.size, 0, none⟩)], .func (.func 11) #[] #[.pointer (some ⟨w4.heap.size, 0, none⟩)], .func (.func 13) #[] #[.pointer (some ⟨w4.heap.size, 0, none⟩)], .func (.func 15) #[] #[.pointer (some ⟨w4.heap.size, 0, none⟩)]] 1)).alloc (Obj.cells #[.bool false, .bool false, .bool false, .bool false] 4)).heap[w6.heap.size + 1]? = some (Obj.cells #[.bool false, .bool false, .bool false, .bool false] 4) := al2_new _ _ _
  have b8 : Below w6.heap.size w6 ((w6.alloc (Obj.cells #[.func (.func 9) #[] #[.pointer (some ⟨w4.heap.size, 0, none⟩)], .func (.func 11) #[] #[.pointer (some ⟨w4.heap.size, 0, none⟩)], .func (.func 13) #[] #[.pointer (some ⟨w4.heap.size, 0, none⟩)], .func (.func 15) #[] #[.pointer (some ⟨w4.heap.size, 0, none⟩)]] 1)).alloc (Obj.cells #[.bool false, .bool false, .bool false, .bool false] 4)) := ((Below.refl _ _).alloc (Nat.le_refl _) _).alloc (by simp) _
  have q8 := (b8.block _ (Array.getElem?_eq_some_iff.1 HQ6.out.1).1).trans HQ6.out.1
  have c8 : Core r h2 0 sh c ((w6.alloc (Obj.cells #[.func (.func 9) #[] #[.pointer (some ⟨w4.heap.size, 0, none⟩)], .func (.func 11) #[] #[.pointer (some ⟨w4.heap.size, 0, none⟩)], .func (.func 13) #[] #[.pointer (some ⟨w4.heap.size, 0, none⟩)], .func (.func 15) #[] #[.pointer (some ⟨w4.heap.size, 0, none⟩)]] 1)).alloc (Obj.cells #[.bool false, .bool false, .bool false, .bool false] 4)) := (b8.block _ (Array.getElem?_eq_some_iff.1 HQ6.out.2).1).trans HQ6.out.2
  have HB8 : Hid (Below w.heap.size w ((w6.alloc (Obj.cells #[.func (.func 9) #[] #[.pointer (some ⟨w4.heap.size, 0, none⟩)], .func (.func 11) #[] #[.pointer (some ⟨w4.heap.size, 0, none⟩)], .func (.func 13) #[] #[.pointer (some ⟨w4.heap.size, 0, none⟩)], .func (.func 15) #[] #[.pointer (some ⟨w4.heap.size, 0, none⟩)]] 1)).alloc (Obj.cells #[.bool false, .bool false, .bool false, .bool false] 4))) := HB6.out.trans (b8.mono HB6.out.size)
  refine wp_loop_rounds 5 ?_
  generalize (w6.alloc (Obj.cells #[.func (.func 9) #[] #[.pointer (some ⟨w4.heap.size, 0, none⟩)], .func (.func 11) #[] #[.pointer (some ⟨w4.heap.size, 0, none⟩)], .func (.func 13) #[] #[.pointer (some ⟨w4.heap.size, 0, none⟩)], .func (.func 15) #[] #[.pointer (some ⟨w4.heap.size, 0, none⟩)]] 1)).alloc (Obj.cells #[.bool false, .bool false, .bool false, .bool false] 4) = w8 at m8 s8 b8 q8 c8 HB8 ⊢
  have HR8 : Hid (w8.heap[w6.heap.size]? = some (Obj.cells #[.func (.func 9) #[] #[.pointer (some ⟨w4.heap.size, 0, none⟩)], .func (.func 11) #[] #[.pointer (some ⟨w4.heap.size, 0, none⟩)], .func (.func 13) #[] #[.pointer (some ⟨w4.heap.size, 0, none⟩)], .func (.func 15) #[] #[.pointer (some ⟨w4.heap.size, 0, none⟩)]] 1) ∧ w8.heap[w6.heap.size + 1]? = some (Obj.cells #[.bool false, .bool false, .bool false, .bool false] 4) ∧ w8.heap[w4.heap.size]? = some (Obj.cells #[.iface T v, .pointer (some ⟨c, 0, none⟩), .pointer (some ⟨d, 0, none⟩)] 36) ∧ Core r h2 0 sh c w8) := ⟨m8, s8, q8, c8⟩
  clear m8 s8 b8 q8 c8 HQ6 x0 x0a x1 HB6 HA0 HA1 HA2 HA3
  have m_ : w8.cell? ⟨w6.heap.size, 0, none⟩ = some (.func (.func 9) #[] #[.pointer (some ⟨w4.heap.size, 0, none⟩)]) := by rw [cell_of_row _ _ 0 _ _ _ HR8.out.1]; rfl
  have s_ : w8.cell? ⟨w6.heap.size + 1, 0, none⟩ = some (.bool false) := by rw [cell_of_row _ _ 0 _ _ _ HR8.out.2.1]; rfl
  have HX : Hid (w8.cell? ⟨w4.heap.size, 0, none⟩ = some (.iface T v)) := by show _ = _; rw [cell_of_row _ _ 0 _ _ _ HR8.out.2.2.1]; rfl
  rw [rounds_succ]
  go_wp2_with fail
  refine (HT0.out _ HX.out).mono ?_
  rintro e w9 ⟨rfl, hb⟩
  have HR9 : Hid (w9.heap[w6.heap.size]? = some (Obj.cells #[.func (.func 9) #[] #[.pointer (some ⟨w4.heap.size, 0, none⟩)], .func (.func 11) #[] #[.pointer (some ⟨w4.heap.size, 0, none⟩)], .func (.func 13) #[] #[.pointer (some ⟨w4.heap.size, 0, none⟩)], .func (.func 15) #[] #[.pointer (some ⟨w4.heap.size, 0, none⟩)]] 1) ∧ w9.heap[w6.heap.size + 1]? = some (Obj.cells #[.bool false, .bool false, .bool false, .bool false] 4) ∧ w9.heap[w4.heap.size]? = some (Obj.cells #[.iface T v, .pointer (some ⟨c, 0, none⟩), .pointer (some ⟨d, 0, none⟩)] 36) ∧ Core r h2 0 sh c w9) :=
    ⟨(hb.block _ (Array.getElem?_eq_some_iff.1 HR8.out.1).1).trans HR8.out.1, (hb.block _ (Array.getElem?_eq_some_iff.1 HR8.out.2.1).1).trans HR8.out.2.1, (hb.block _ (Array.getElem?_eq_some_iff.1 HR8.out.2.2.1).1).trans HR8.out.2.2.1, (hb.block _ (Array.getElem?_eq_some_iff.1 HR8.out.2.2.2).1).trans HR8.out.2.2.2⟩
  have HB9 : Hid (Below w.heap.size w w9) := HB8.out.trans (hb.mono HB8.out.size)
  have s_ : w9.cell? ⟨w6.heap.size + 1, 0, none⟩ = some (.bool false) := by rw [cell_of_row _ _ 0 _ _ _ HR9.out.2.1]; rfl
  clear hb m_ HX HR8 HB8 HT0
  go_wp2_with fail
  clear s_
  have m_ : w9.cell? ⟨w6.heap.size, 1, none⟩ = some (.func (.func 11) #[] #[.pointer (some ⟨w4.heap.size, 0, none⟩)]) := by rw [cell_of_row _ _ 1 _ _ _ HR9.out.1]; rfl
  have s_ : w9.cell? ⟨w6.heap.size + 1, 1, none⟩ = some (.bool false) := by rw [cell_of_row _ _ 1 _ _ _ HR9.out.2.1]; rfl
  have HX : Hid (w9.cell? ⟨w4.heap.size, 0, none⟩ = some (.iface T v)) := by show _ = _; rw [cell_of_row _ _ 0 _ _ _ HR9.out.2.2.1]; rfl
  rw [rounds_succ]
  go_wp2_with fail
  refine (HT1.out _ HX.out).mono ?_
  rintro e w10 ⟨rfl, hb⟩
  have HR10 : Hid (w10.heap[w6.heap.size]? = some (Obj.cells #[.func (.func 9) #[] #[.pointer (some ⟨w4.heap.size, 0, none⟩)], .func (.func 11) #[] #[.pointer (some ⟨w4.heap.size, 0, none⟩)], .func (.func 13) #[] #[.pointer (some ⟨w4.heap.size, 0, none⟩)], .func (.func 15) #[] #[.pointer (some ⟨w4.heap.size, 0, none⟩)]] 1) ∧ w10.heap[w6.heap.size + 1]? = some (Obj.cells #[.bool false, .bool false, .bool false, .bool false] 4) ∧ w10.heap[w4.heap.size]? = some (Obj.cells #[.iface T v, .pointer (some ⟨c, 0, none⟩), .pointer (some ⟨d, 0, none⟩)] 36) ∧ Core r h2 0 sh c w10) :=
    ⟨(hb.block _ (Array.getElem?_eq_some_iff.1 HR9.out.1).1).trans HR9.out.1, (hb.block _ (Array.getElem?_eq_some_iff.1 HR9.out.2.1).1).trans HR9.out.2.1, (hb.block _ (Array.getElem?_eq_some_iff.1 HR9.out.2.2.1).1).trans HR9.out.2.2.1, (hb.block _ (Array.getElem?_eq_some_iff.1 HR9.out.2.2.2).1).trans HR9.out.2.2.2⟩
  have HB10 : Hid (Below w.heap.size w w10) := HB9.out.trans (hb.mono HB9.out.size)
  have s_ : w10.cell? ⟨w6.heap.size + 1, 1, none⟩ = some (.bool false) := by rw [cell_of_row _ _ 1 _ _ _ HR10.out.2.1]; rfl
  clear hb m_ HX HR9 HB9 HT1
  go_wp2_with fail
  clear s_
  have m_ : w10.cell? ⟨w6.heap.size, 2, none⟩ = some (.func (.func 13) #[] #[.pointer (some ⟨w4.heap.size, 0, none⟩)]) := by rw [cell_of_row _ _ 2 _ _ _ HR10.out.1]; rfl
  have s_ : w10.cell? ⟨w6.heap.size + 1, 2, none⟩ = some (.bool false) := by rw [cell_of_row _ _ 2 _ _ _ HR10.out.2.1]; rfl
  have HX : Hid (w10.cell? ⟨w4.heap.size, 0, none⟩ = some (.iface T v)) := by show _ = _; rw [cell_of_row _ _ 0 _ _ _ HR10.out.2.2.1]; rfl
  rw [rounds_succ]
  go_wp2_with fail
  refine (HT2.out _ HX.out).mono ?_
  rintro e w11 ⟨rfl, hb⟩
  have HR11 : Hid (w11.heap[w6.heap.size]? = some (Obj.cells #[.func (.func 9) #[] #[.pointer (some ⟨w4.heap.size, 0, none⟩)], .func (.func 11) #[] #[.pointer (some ⟨w4.heap.size, 0, none⟩)], .func (.func 13) #[] #[.pointer (some ⟨w4.heap.size, 0, none⟩)], .func (.func 15) #[] #[.pointer (some ⟨w4.heap.size, 0, none⟩)]] 1) ∧ w11.heap[w6.heap.size + 1]? = some (Obj.cells #[.bool false, .bool false, .bool false, .bool false] 4) ∧ w11.heap[w4.heap.size]? = some (Obj.cells #[.iface T v, .pointer (some ⟨c, 0, none⟩), .pointer (some ⟨d, 0, none⟩)] 36) ∧ Core r h2 0 sh c w11) :=
    ⟨(hb.block _ (Array.getElem?_eq_some_iff.1 HR10.out.1).1).trans HR10.out.1, (hb.block _ (Array.getElem?_eq_some_iff.1 HR10.out.2.1).1).trans HR10.out.2.1, (hb.block _ (Array.getElem?_eq_some_iff.1 HR10.out.2.2.1).1).trans HR10.out.2.2.1, (hb.block _ (Array.getElem?_eq_some_iff.1 HR10.out.2.2.2).1).trans HR10.out.2.2.2⟩
  have HB11 : Hid (Below w.heap.size w w11) := HB10.out.trans (hb.mono HB10.out.size)
  have s_ : w11.cell? ⟨w6.heap.size + 1, 2, none⟩ = some (.bool false) := by rw [cell_of_row _ _ 2 _ _ _ HR11.out.2.1]; rfl
  clear hb m_ HX HR10 HB10 HT2
  go_wp2_with fail
  clear s_
  have m_ : w11.cell? ⟨w6.heap.size, 3, none⟩ = some (.func (.func 15) #[] #[.pointer (some ⟨w4.heap.size, 0, none⟩)]) := by rw [cell_of_row _ _ 3 _ _ _ HR11.out.1]; rfl
  have s_ : w11.cell? ⟨w6.heap.size + 1, 3, none⟩ = some (.bool false) := by rw [cell_of_row _ _ 3 _ _ _ HR11.out.2.1]; rfl
  have HX : Hid (w11.cell? ⟨w4.heap.size, 0, none⟩ = some (.iface T v)) := by show _ = _; rw [cell_of_row _ _ 0 _ _ _ HR11.out.2.2.1]; rfl
  rw [rounds_succ]
  go_wp2_with fail
  refine (HT3.out _ HX.out).mono ?_
  rintro e w12 ⟨rfl, hb⟩
  have HR12 : Hid (w12.heap[w6.heap.size]? = some (Obj.cells #[.func (.func 9) #[] #[.pointer (some ⟨w4.heap.size, 0, none⟩)], .func (.func 11) #[] #[.pointer (some ⟨w4.heap.size, 0, none⟩)], .func (.func 13) #[] #[.pointer (some ⟨w4.heap.size, 0, none⟩)], .func (.func 15) #[] #[.pointer (some ⟨w4.heap.size, 0, none⟩)]] 1) ∧ w12.heap[w6.heap.size + 1]? = some (Obj.cells #[.bool false, .bool false, .bool false, .bool false] 4) ∧ w12.heap[w4.heap.size]? = some (Obj.cells #[.iface T v, .pointer (some ⟨c, 0, none⟩), .pointer (some ⟨d, 0, none⟩)] 36) ∧ Core r h2 0 sh c w12) :=
    ⟨(hb.block _ (Array.getElem?_eq_some_iff.1 HR11.out.1).1).trans HR11.out.1, (hb.block _ (Array.getElem?_eq_some_iff.1 HR11.out.2.1).1).trans HR11.out.2.1, (hb.block _ (Array.getElem?_eq_some_iff.1 HR11.out.2.2.1).1).trans HR11.out.2.2.1, (hb.block _ (Array.getElem?_eq_some_iff.1 HR11.out.2.2.2).1).trans HR11.out.2.2.2⟩
  have HB12 : Hid (Below w.heap.size w w12) := HB11.out.trans (hb.mono HB11.out.size)
  have s_ : w12.cell? ⟨w6.heap.size + 1, 3, none⟩ = some (.bool false) := by rw [cell_of_row _ _ 3 _ _ _ HR12.out.2.1]; rfl
  clear hb m_ HX HR11 HB11 HT3
  go_wp2_with fail
  clear s_
  have x0 : w12.cell? ⟨w4.heap.size, 0, none⟩ = some (.iface T v) := by rw [cell_of_row _ _ 0 _ _ _ HR12.out.2.2.1]; rfl
  have x1 : w12.cell? ⟨w4.heap.size, 1, none⟩ = some (.pointer (some ⟨c, 0, none⟩)) := by rw [cell_of_row _ _ 1 _ _ _ HR12.out.2.2.1]; rfl
  have HLC : Hid ((loadVar 70 ⟨c, 14, none⟩).run Tryz.prog w12 = .ok (.agg #[.int .i64 0, .int .i64 0, .int .i64 0, .int .i64 0, .int .i64 0, .int .i64 0, .int .i64 0, .int .i64 0, .int .i64 0]) w12) := calls_ld HR12.out.2.2.2
  have hq : ∀ W, (binOp .eql 70 (.agg #[.int .i64 0, .int .i64 0, .int .i64 0, .int .i64 0, .int .i64 0, .int .i64 0, .int .i64 0, .int .i64 0, .int .i64 0]) (.agg #[.int .i64 0, .int .i64 0, .int .i64 0, .int .i64 0, .int .i64 0, .int .i64 0, .int .i64 0, .int .i64 0, .int .i64 0])).run Tryz.prog W = .ok (.bool true) W := fun W => by kernel_rfl
  have hg : ∀ (x y : Operand) W, (eqGuard .eql 70 x y (.agg #[.int .i64 0, .int .i64 0, .int .i64 0, .int .i64 0, .int .i64 0, .int .i64 0, .int .i64 0, .int .i64 0, .int .i64 0]) (.agg #[.int .i64 0, .int .i64 0, .int .i64 0, .int .i64 0, .int .i64 0, .int .i64 0, .int .i64 0, .int .i64 0, .int .i64 0])).run Tryz.prog W = .ok () W := fun x y W => by kernel_rfl
  have hn : ∀ W, (binOp .neq 32 (.iface T v) .nilIface).run Tryz.prog W = .ok (.bool true) W := fun W => by kernel_rfl
  have hng : ∀ (x y : Operand) W, (eqGuard .neq 32 x y (.iface T v) .nilIface).run Tryz.prog W = .ok () W := fun x y W => by kernel_rfl
  clear HR12
  rw [rounds_succ]
  go_wp2_with (first | (go_at_call 22; refine (HAO.out _).mono ?_; rintro e w' ⟨rfl, rfl⟩) | (go_at_call 23; refine (HAT.out _).mono ?_; rintro e w' ⟨rfl, rfl⟩) | ((with_reducible refine ldr ?_ ?_ HLC.out ?_); rfl; rfl))
  go_ret
  exact ⟨rfl, HB12.out⟩

set_option maxRecDepth 100000 in
set_option maxHeartbeats 8000000 in
theorem Shown_1 (r : Sr) (h n sh : Int) (hk : fitM 16 n = 1) (hh : Hid (fitM 4 h = 0 ∨ fitM 4 h = 3)) (w : World) :
    Calls Tryz.prog 3 #[.agg (r.cs h n sh)] w fun e w' => e = .returned (.bool true) ∧ Below w.heap.size w w' := by
  have hmf : ∀ (fn : Fn) (first cap : Array Value) (w : World), (Instr.makeFunc fn first cap).run Tryz.prog w = .ok (.func fn first cap) w := fun _ _ _ _ => rfl
  have HLv : Hid (∀ W, Calls Tryz.prog 4 #[] W fun e w' => e = .returned (.bool true) ∧ Below W.heap.size W w') := lives_any
  have HF : Hid (∀ W, Calls Tryz.prog 5 #[.agg (r.cs h n sh)] W fun e w' => e = .returned (.agg (r.cs (fitM 4 h) (fitM 16 n) sh)) ∧ Below W.heap.size W w') := fun W => Fit_any r h n sh W
  have Hh : Hid (0 ≤ fitM 4 h ∧ fitM 4 h < 4) := (fitM_eq 4 h (by decide) (by decide)).1
  generalize fitM 4 h = h' at HF Hh hh
  rw [hk] at HF
  clear hk
  have HA : Hid (∀ o, (w.alloc o).heap[w.heap.size]? = some o) := fun o => heap_alloc_last w o
  go_enter Tryz.func3, Tryz.ntmps3
  unfold Sr.cs
  go_wp2_with fail
  show Calls Tryz.prog _ _ (w.alloc (.cells (r.cs h n sh) 28)) _
  refine (HLv.out _).mono ?_
  rintro e w1 ⟨rfl, hb1⟩
  have k1 := (hb1.block w.heap.size (by simp)).trans (HA.out _)
  have HB1 : Hid (Below w.heap.size w w1) := ((Below.refl _ _).alloc (Nat.le_refl _) _).trans (hb1.mono (by simp))
  have HLD1 : Hid ((loadVar 28 ⟨w.heap.size, 0, none⟩).run Tryz.prog w1 = .ok (.agg (r.cs h n sh)) w1) := sp_ld r h n sh k1
  have HZ1 : Hid (w.heap.size < w1.heap.size) := (Array.getElem?_eq_some_iff.1 k1).1
  clear hb1
  go_wp2_with ((with_reducible refine ldr ?_ ?_ HLD1.out ?_); rfl; rfl)
  refine (HF.out _).mono ?_
  rintro e w2 ⟨rfl, hb2⟩
  have k2 := (hb2.block w.heap.size HZ1.out).trans k1
  have HB2 : Hid (Below w.heap.size w w2) := HB1.out.trans (hb2.mono HB1.out.size)
  have HST : Hid ((storeVar 28 ⟨w.heap.size, 0, none⟩ (.agg (r.cs h' 1 sh))).run Tryz.prog w2 = .ok () (w2.setRow w.heap.size (r.cs h' 1 sh))) := sp_st r h' 1 sh k2 rfl
  have k3 := setRow_heap _ _ _ (r.cs h' 1 sh) _ _ k2
  have HB3 : Hid (Below w.heap.size w (w2.setRow w.heap.size (r.cs h' 1 sh))) := HB2.out.trans ⟨rfl, rfl, rfl, by rw [setRow_size]; exact Nat.le_refl _, fun k hk => setRow_other _ _ _ _ (by omega)⟩
  generalize w2.setRow w.heap.size (r.cs h' 1 sh) = w3 at HST k3 HB3
  have HZ3 : Hid (w.heap.size < w3.heap.size) := (Array.getElem?_eq_some_iff.1 k3).1
  have HLD3 : Hid ((loadVar 28 ⟨w.heap.size, 0, none⟩).run Tryz.prog w3 = .ok (.agg (r.cs h' 1 sh)) w3) := sp_ld r h' 1 sh k3
  clear hb2 k1 k2 HB1 HB2 HLD1 HZ1 HF HLv HA
  go_wp2_with (first | ((with_reducible refine str ?_ ?_ ?_ HST.out ?_); rfl; rfl; rfl) | ((with_reducible refine ldr ?_ ?_ HLD3.out ?_); rfl; rfl))
  refine (made_any r h' 1 sh w3).mono ?_
  rintro e w4 ⟨h2, n2, o, c, d, rfl, hb4, _, _, eh, en, hO⟩
  obtain rfl := eh Hh.out.1 Hh.out.2
  have e2 : n2 = 1 := by have := en (by omega) (by omega); omega
  subst e2
  have k4 := (hb4.block w.heap.size HZ3.out).trans k3
  have HB4 : Hid (Below w.heap.size w w4) := HB3.out.trans (hb4.mono HB3.out.size)
  have HZ4 : Hid (w.heap.size < w4.heap.size) := (Array.getElem?_eq_some_iff.1 k4).1
  clear hb4 k3 HB3 HLD3 HZ3 HST eh en
  obtain ⟨T, v, rfl, hA, hT, hC⟩ : ∃ T v, o = .iface T v ∧ Ab T 1 ∧ T ≠ 66 ∧ Core r h2 1 sh c w4 := by
    rcases hO with ⟨h, _⟩ | ⟨h, _⟩ | ⟨_, h⟩
    · have := hh.out; omega
    · have := hh.out; omega
    · exact h
  have hs : Sm T v := .inr hT
  have HAb : Hid (∀ W, Calls Tryz.prog 7 #[.iface T v] W fun e w' => e = .returned (.tuple #[.int .i64 1, .int .i64 0]) ∧ W = w') := fun W => Abilities_any hA (by decide) hs W
  have HA0 : Hid (∀ W, Calls Tryz.prog 17 #[.iface T v] W fun e w' => e = .returned (.tuple #[.iface T v, .bool true]) ∧ W = w') := fun W => As_Versioned hA hs W
  have HT0 : Hid (∀ W : World, W.cell? ⟨w4.heap.size, 0, none⟩ = some (.iface T v) → Calls Tryz.prog 21 #[.func (.func 9) #[] #[.pointer (some ⟨w4.heap.size, 0, none⟩)]] W fun e w' => e = .returned (.tuple #[.int .i64 0, .int .i64 0]) ∧ Below W.heap.size W w') := fun W h => Try_musts_0 hA v _ W h
  have HA1 : Hid (∀ W, Calls Tryz.prog 18 #[.iface T v] W fun e w' => e = .returned (.tuple #[.nilIface, .bool false]) ∧ W = w') := fun W => As_Indexed hA hs W
  have HT1 : Hid (∀ W : World, W.cell? ⟨w4.heap.size, 0, none⟩ = some (.iface T v) → Calls Tryz.prog 21 #[.func (.func 11) #[] #[.pointer (some ⟨w4.heap.size, 0, none⟩)]] W fun e w' => e = .returned (.tuple #[.int .i64 1, .int .i64 9]) ∧ Below W.heap.size W w') := fun W h => Try_musts_1 hA v _ W h
  have HA2 : Hid (∀ W, Calls Tryz.prog 19 #[.iface T v] W fun e w' => e = .returned (.tuple #[.nilIface, .bool false]) ∧ W = w') := fun W => As_Owned hA hs W
  have HT2 : Hid (∀ W : World, W.cell? ⟨w4.heap.size, 0, none⟩ = some (.iface T v) → Calls Tryz.prog 21 #[.func (.func 13) #[] #[.pointer (some ⟨w4.heap.size, 0, none⟩)]] W fun e w' => e = .returned (.tuple #[.int .i64 1, .int .i64 9]) ∧ Below W.heap.size W w') := fun W h => Try_musts_2 hA v _ W h
  have HA3 : Hid (∀ W, Calls Tryz.prog 20 #[.iface T v] W fun e w' => e = .returned (.tuple #[.nilIface, .bool false]) ∧ W = w') := fun W => As_Lazy hA hs W
  have HT3 : Hid (∀ W : World, W.cell? ⟨w4.heap.size, 0, none⟩ = some (.iface T v) → Calls Tryz.prog 21 #[.func (.func 15) #[] #[.pointer (some ⟨w4.heap.size, 0, none⟩)]] W fun e w' => e = .returned (.tuple #[.int .i64 1, .int .i64 9]) ∧ Below W.heap.size W w') := fun W h => Try_musts_3 hA v _ W h
  have HAO : Hid (∀ W, Calls Tryz.prog 22 #[.iface T v] W fun e w' => e = .returned (.tuple #[.iface T v, .bool true]) ∧ W = w') := fun W => As_Object hA hs W
  have HAT : Hid (∀ W, Calls Tryz.prog 23 #[.iface T v] W fun e w' => e = .returned (.tuple #[.pointer none, .bool false]) ∧ W = w') := fun W => As_Thing hT v W
  have HNi : Hid (∀ W, Calls Tryz.prog 8 #[.agg (r.cs h2 1 sh)] W fun e w' => e = .returned (.bool false) ∧ Below W.heap.size W w') := fun W => Nil_no r h2 1 sh (by have := hh.out; simp; omega) (by have := hh.out; simp; omega) W
  have HLD5 : Hid ((loadVar 28 ⟨w.heap.size, 0, none⟩).run Tryz.prog (w4.alloc (Obj.cells #[.iface T v, .pointer (some ⟨c, 0, none⟩), .pointer (some ⟨d, 0, none⟩)] 36)) = .ok (.agg (r.cs h2 1 sh)) (w4.alloc (Obj.cells #[.iface T v, .pointer (some ⟨c, 0, none⟩), .pointer (some ⟨d, 0, none⟩)] 36))) := sp_ld r h2 1 sh ((Below.heap_alloc _ _ _ HZ4.out).trans k4)
  have HB5 : Hid (Below w.heap.size w (w4.alloc (Obj.cells #[.iface T v, .pointer (some ⟨c, 0, none⟩), .pointer (some ⟨d, 0, none⟩)] 36))) := HB4.out.alloc HB4.out.size _
  have k5 := (Below.heap_alloc w4 (Obj.cells #[.iface T v, .pointer (some ⟨c, 0, none⟩), .pointer (some ⟨d, 0, none⟩)] 36) _ HZ4.out).trans k4
  have q5 : (w4.alloc (Obj.cells #[.iface T v, .pointer (some ⟨c, 0, none⟩), .pointer (some ⟨d, 0, none⟩)] 36)).heap[w4.heap.size]? = some (Obj.cells #[.iface T v, .pointer (some ⟨c, 0, none⟩), .pointer (some ⟨d, 0, none⟩)] 36) := heap_alloc_last _ _
  have c5 : Core r h2 1 sh c (w4.alloc (Obj.cells #[.iface T v, .pointer (some ⟨c, 0, none⟩), .pointer (some ⟨d, 0, none⟩)] 36)) := (Below.heap_alloc w4 (Obj.cells #[.iface T v, .pointer (some ⟨c, 0, none⟩), .pointer (some ⟨d, 0, none⟩)] 36) _ (Array.getElem?_eq_some_iff.1 hC).1).trans hC
  clear k4 hO hC hA hT hs hh
  go_wp2_with (first | (go_at_call 7; refine (HAb.out _).mono ?_; rintro e w' ⟨rfl, rfl⟩) | ((with_reducible refine ldr ?_ ?_ HLD5.out ?_); rfl; rfl))
  refine (HNi.out _).mono ?_
  rintro e w6 ⟨rfl, hb6⟩
  have HB6 : Hid (Below w.heap.size w w6) := HB5.out.trans (hb6.mono HB5.out.size)
  have k6 := (hb6.block _ (Array.getElem?_eq_some_iff.1 k5).1).trans k5
  have q6 := (hb6.block _ (Array.getElem?_eq_some_iff.1 q5).1).trans q5
  have c6 : Core r h2 1 sh c w6 := (hb6.block _ (Array.getElem?_eq_some_iff.1 c5).1).trans c5
  have x1 : w6.cell? ⟨w.heap.size, 1, none⟩ = some (.int .i64 1) := by rw [cell_of_row _ _ 1 _ _ _ k6]; rfl
  have x0 : w6.cell? ⟨w4.heap.size, 0, none⟩ = some (.iface T v) := by rw [cell_of_row _ _ 0 _ _ _ q6]; rfl
  have x0a : ∀ X, (w6.alloc X).cell? ⟨w4.heap.size, 0, none⟩ = some (.iface T v) := fun X => by rw [((Below.refl w6.heap.size w6).alloc (Nat.le_refl _) X).cell (p := ⟨w4.heap.size, 0, none⟩) (World.block_lt_of_cell? _ _ x0)]; exact x0
  have HQ6 : Hid (w6.heap[w4.heap.size]? = some (Obj.cells #[.iface T v, .pointer (some ⟨c, 0, none⟩), .pointer (some ⟨d, 0, none⟩)] 36) ∧ Core r h2 1 sh c w6) := ⟨q6, c6⟩
  clear hb6 k5 q5 c5 k6 q6 c6 HLD5 HNi HAb HB5
  go_wp2_with (first | (go_at_call 17; refine (HA0.out _).mono ?_; rintro e w' ⟨rfl, rfl⟩) | (go_at_call 18; refine (HA1.out _).mono ?_; rintro e w' ⟨rfl, rfl⟩) | (go_at_call 19; refine (HA2.out _).mono ?_; rintro e w' ⟨rfl, rfl⟩) | (go_at_call 20; refine (HA3.out _).mono ?_; rintro e w' ⟨rfl, rfl⟩))
  have m8 : ((w6.alloc (Obj.cells #[.func (.func 9) #[] #[.pointer (some ⟨w4.heap.size, 0, none⟩)], .func (.func 11) #[] #[.pointer (some ⟨w4.heap.size, 0, none⟩)], .func (.func 13) #[] #[.pointer (some ⟨w4.heap.size, 0, none⟩)], .func (.func 15) #[] #[.pointer (some ⟨w4.heap.size, 0, none⟩)]] 1)).alloc (Obj.cells #[.bool true, .bool false, .bool false, .bool false] 4)).heap[w6.heap.size]? = some (Obj.cells #[.func (.func 9) #[] #[.pointer (some ⟨w4.heap.size, 0, none⟩)], .func (.func 11) #[] #[.pointer (some ⟨w4.heap.size, 0, none⟩)], .func (.func 13) #[] #[.pointer (some ⟨w4.heap.size, 0, none⟩)], .func (.func 15) #[] #[.pointer (some ⟨w4.heap.size, 0, none⟩)]] 1) := al2_old _ _ _
  have s8 : ((w6.alloc (Obj.cells #[.func (.func 9) #[] #[.pointer (some ⟨w4.heap.size, 0, none⟩)], .func (.func 11) #[] #[.pointer (some ⟨w4.heap.size, 0, none⟩)], .func (.func 13) #[] #[.pointer (some ⟨w4.heap.size, 0, none⟩)], .func (.func 15) #[] #[.pointer (some ⟨w4.heap.size, 0, none⟩)]] 1)).alloc (Obj.cells #[.bool true, .bool false, .bool false, .bool false] 4)).heap[w6.heap.size + 1]? = some (Obj.cells #[.bool true, .bool false, .bool false, .bool false] 4) := al2_new _ _ _
  have b8 : Below w6.heap.size w6 ((w6.alloc (Obj.cells #[.func (.func 9) #[] #[.pointer (some ⟨w4.heap.size, 0, none⟩)], .func (.func 11) #[] #[.pointer (some ⟨w4.heap.size, 0, none⟩)], .func (.func 13) #[] #[.pointer (some ⟨w4.heap.size, 0, none⟩)], .func (.func 15) #[] #[.pointer (some ⟨w4.heap.size, 0, none⟩)]] 1)).alloc (Obj.cells #[.bool true, .bool false, .bool false, .bool false] 4)) := ((Below.refl _ _).alloc (Nat.le_refl _) _).alloc (by simp) _
  have q8 := (b8.block _ (Array.getElem?_eq_some_iff.1 HQ6.out.1).1).trans HQ6.out.1
  have c8 : Core r h2 1 sh c ((w6.alloc (Obj.cells #[.func (.func 9) #[] #[.pointer (some ⟨w4.heap.size, 0, none⟩)], .func (.func 11) #[] #[.pointer (some ⟨w4.heap.size, 0, none⟩)], .func (.func 13) #[] #[.pointer (some ⟨w4.heap.size, 0, none⟩)], .func (.func 15) #[] #[.pointer (some ⟨w4.heap.size, 0, none⟩)]] 1)).alloc (Obj.cells #[.bool true, .bool false, .bool false, .bool false] 4)) := (b8.block _ (Array.getElem?_eq_some_iff.1 HQ6.out.2).1).trans HQ6.out.2
  have HB8 : Hid (Below w.heap.size w ((w6.alloc (Obj.cells #[.func (.func 9) #[] #[.pointer (some ⟨w4.heap.size, 0, none⟩)], .func (.func 11) #[] #[.pointer (some ⟨w4.heap.size, 0, none⟩)], .func (.func 13) #[] #[.pointer (some ⟨w4.heap.size, 0, none⟩)], .func (.func 15) #[] #[.pointer (some ⟨w4.heap.size, 0, none⟩)]] 1)).alloc (Obj.cells #[.bool true, .bool false, .bool false, .bool false] 4))) := HB6.out.trans (b8.mono HB6.out.size)
  refine wp_loop_rounds 5 ?_
  generalize (w6.alloc (Obj.cells #[.func (.func 9) #[] #[.pointer (some ⟨w4.heap.size, 0, none⟩)], .func (.func 11) #[] #[.pointer (some ⟨w4.heap.size, 0, none⟩)], .func (.func 13) #[] #[.pointer (some ⟨w4.heap.size, 0, none⟩)], .func (.func 15) #[] #[.pointer (some ⟨w4.heap.size, 0, none⟩)]] 1)).alloc (Obj.cells #[.bool true, .bool false, .bool false, .bool false] 4) = w8 at m8 s8 b8 q8 c8 HB8 ⊢
  have HR8 : Hid (w8.heap[w6.heap.size]? = some (Obj.cells #[.func (.func 9) #[] #[.pointer (some ⟨w4.heap.size, 0, none⟩)], .func (.func 11) #[] #[.pointer (some ⟨w4.heap.size, 0, none⟩)], .func (.func 13) #[] #[.pointer (some ⟨w4.heap.size, 0, none⟩)], .func (.func 15) #[] #[.pointer (some ⟨w4.heap.size, 0, none⟩)]] 1) ∧ w8.heap[w6.heap.size + 1]? = some (Obj.cells #[.bool true, .bool false, .bool false, .bool false] 4) ∧ w8.heap[w4.heap.size]? = some (Obj.cells #[.iface T v, .pointer (some ⟨c, 0, none⟩), .pointer (some ⟨d, 0, none⟩)] 36) ∧ Core r h2 1 sh c w8) := ⟨m8, s8, q8, c8⟩
  clear m8 s8 b8 q8 c8 HQ6 x0 x0a x1 HB6 HA0 HA1 HA2 HA3
  have m_ : w8.cell? ⟨w6.heap.size, 0, none⟩ = some (.func (.func 9) #[] #[.pointer (some ⟨w4.heap.size, 0, none⟩)]) := by rw [cell_of_row _ _ 0 _ _ _ HR8.out.1]; rfl
  have s_ : w8.cell? ⟨w6.heap.size + 1, 0, none⟩ = some (.bool true) := by rw [cell_of_row _ _ 0 _ _ _ HR8.out.2.1]; rfl
  have HX : Hid (w8.cell? ⟨w4.heap.size, 0, none⟩ = some (.iface T v)) := by show _ = _; rw [cell_of_row _ _ 0 _ _ _ HR8.out.2.2.1]; rfl
  rw [rounds_succ]
  go_wp2_with fail
  refine (HT0.out _ HX.out).mono ?_
  rintro e w9 ⟨rfl, hb⟩
  have HR9 : Hid (w9.heap[w6.heap.size]? = some (Obj.cells #[.func (.func 9) #[] #[.pointer (some ⟨w4.heap.size, 0, none⟩)], .func (.func 11) #[] #[.pointer (some ⟨w4.heap.size, 0, none⟩)], .func (.func 13) #[] #[.pointer (some ⟨w4.heap.size, 0, none⟩)], .func (.func 15) #[] #[.pointer (some ⟨w4.heap.size, 0, none⟩)]] 1) ∧ w9.heap[w6.heap.size + 1]? = some (Obj.cells #[.bool true, .bool false, .bool false, .bool false] 4) ∧ w9.heap[w4.heap.size]? = some (Obj.cells #[.iface T v, .pointer (some ⟨c, 0, none⟩), .pointer (some ⟨d, 0, none⟩)] 36) ∧ Core r h2 1 sh c w9) :=
    ⟨(hb.block _ (Array.getElem?_eq_some_iff.1 HR8.out.1).1).trans HR8.out.1, (hb.block _ (Array.getElem?_eq_some_iff.1 HR8.out.2.1).1).trans HR8.out.2.1, (hb.block _ (Array.getElem?_eq_some_iff.1 HR8.out.2.2.1).1).trans HR8.out.2.2.1, (hb.block _ (Array.getElem?_eq_some_iff.1 HR8.out.2.2.2).1).trans HR8.out.2.2.2⟩
  have HB9 : Hid (Below w.heap.size w w9) := HB8.out.trans (hb.mono HB8.out.size)
  have s_ : w9.cell? ⟨w6.heap.size + 1, 0, none⟩ = some (.bool true) := by rw [cell_of_row _ _ 0 _ _ _ HR9.out.2.1]; rfl
  clear hb m_ HX HR8 HB8 HT0
  go_wp2_with fail
  clear s_
  have m_ : w9.cell? ⟨w6.heap.size, 1, none⟩ = some (.func (.func 11) #[] #[.pointer (some ⟨w4.heap.size, 0, none⟩)]) := by rw [cell_of_row _ _ 1 _ _ _ HR9.out.1]; rfl
  have s_ : w9.cell? ⟨w6.heap.size + 1, 1, none⟩ = some (.bool false) := by rw [cell_of_row _ _ 1 _ _ _ HR9.out.2.1]; rfl
  have HX : Hid (w9.cell? ⟨w4.heap.size, 0, none⟩ = some (.iface T v)) := by show _ = _; rw [cell_of_row _ _ 0 _ _ _ HR9.out.2.2.1]; rfl
  rw [rounds_succ]
  go_wp2_with fail
  refine (HT1.out _ HX.out).mono ?_
  rintro e w10 ⟨rfl, hb⟩
  have HR10 : Hid (w10.heap[w6.heap.size]? = some (Obj.cells #[.func (.func 9) #[] #[.pointer (some ⟨w4.heap.size, 0, none⟩)], .func (.func 11) #[] #[.pointer (some ⟨w4.heap.size, 0, none⟩)], .func (.func 13) #[] #[.pointer (some ⟨w4.heap.size, 0, none⟩)], .func (.func 15) #[] #[.pointer (some ⟨w4.heap.size, 0, none⟩)]] 1) ∧ w10.heap[w6.heap.size + 1]? = some (Obj.cells #[.bool true, .bool false, .bool false, .bool false] 4) ∧ w10.heap[w4.heap.size]? = some (Obj.cells #[.iface T v, .pointer (some ⟨c, 0, none⟩), .pointer (some ⟨d, 0, none⟩)] 36) ∧ Core r h2 1 sh c w10) :=
    ⟨(hb.block _ (Array.getElem?_eq_some_iff.1 HR9.out.1).1).trans HR9.out.1, (hb.block _ (Array.getElem?_eq_some_iff.1 HR9.out.2.1).1).trans HR9.out.2.1, (hb.block _ (Array.getElem?_eq_some_iff.1 HR9.out.2.2.1).1).trans HR9.out.2.2.1, (hb.block _ (Array.getElem?_eq_some_iff.1 HR9.out.2.2.2).1).trans HR9.out.2.2.2⟩
  have HB10 : Hid (Below w.heap.size w w10) := HB9.out.trans (hb.mono HB9.out.size)
  have s_ : w10.cell? ⟨w6.heap.size + 1, 1, none⟩ = some (.bool false) := by rw [cell_of_row _ _ 1 _ _ _ HR10.out.2.1]; rfl
  clear hb m_ HX HR9 HB9 HT1
  go_wp2_with fail
  clear s_
  have m_ : w10.cell? ⟨w6.heap.size, 2, none⟩ = some (.func (.func 13) #[] #[.pointer (some ⟨w4.heap.size, 0, none⟩)]) := by rw [cell_of_row _ _ 2 _ _ _ HR10.out.1]; rfl
  have s_ : w10.cell? ⟨w6.heap.size + 1, 2, none⟩ = some (.bool false) := by rw [cell_of_row _ _ 2 _ _ _ HR10.out.2.1]; rfl
  have HX : Hid (w10.cell? ⟨w4.heap.size, 0, none⟩ = some (.iface T v)) := by show _ = _; rw [cell_of_row _ _ 0 _ _ _ HR10.out.2.2.1]; rfl
  rw [rounds_succ]
  go_wp2_with fail
  refine (HT2.out _ HX.out).mono ?_
  rintro e w11 ⟨rfl, hb⟩
  have HR11 : Hid (w11.heap[w6.heap.size]? = some (Obj.cells #[.func (.func 9) #[] #[.pointer (some ⟨w4.heap.size, 0, none⟩)], .func (.func 11) #[] #[.pointer (some ⟨w4.heap.size, 0, none⟩)], .func (.func 13) #[] #[.pointer (some ⟨w4.heap.size, 0, none⟩)], .func (.func 15) #[] #[.pointer (some ⟨w4.heap.size, 0, none⟩)]] 1) ∧ w11.heap[w6.heap.size + 1]? = some (Obj.cells #[.bool true, .bool false, .bool false, .bool false] 4) ∧ w11.heap[w4.heap.size]? = some (Obj.cells #[.iface T v, .pointer (some ⟨c, 0, none⟩), .pointer (some ⟨d, 0, none⟩)] 36) ∧ Core r h2 1 sh c w11) :=
    ⟨(hb.block _ (Array.getElem?_eq_some_iff.1 HR10.out.1).1).trans HR10.out.1, (hb.block _ (Array.getElem?_eq_some_iff.1 HR10.out.2.1).1).trans HR10.out.2.1, (hb.block _ (Array.getElem?_eq_some_iff.1 HR10.out.2.2.1).1).trans HR10.out.2.2.1, (hb.block _ (Array.getElem?_eq_some_iff.1 HR10.out.2.2.2).1).trans HR10.out.2.2.2⟩
  have HB11 : Hid (Below w.heap.size w w11) := HB10.out.trans (hb.mono HB10.out.size)
  have s_ : w11.cell? ⟨w6.heap.size + 1, 2, none⟩ = some (.bool false) := by rw [cell_of_row _ _ 2 _ _ _ HR11.out.2.1]; rfl
  clear hb m_ HX HR10 HB10 HT2
  go_wp2_with fail
  clear s_
  have m_ : w11.cell? ⟨w6.heap.size, 3, none⟩ = some (.func (.func 15) #[] #[.pointer (some ⟨w4.heap.size, 0, none⟩)]) := by rw [cell_of_row _ _ 3 _ _ _ HR11.out.1]; rfl
  have s_ : w11.cell? ⟨w6.heap.size + 1, 3, none⟩ = some (.bool false) := by rw [cell_of_row _ _ 3 _ _ _ HR11.out.2.1]; rfl
  have HX : Hid (w11.cell? ⟨w4.heap.size, 0, none⟩ = some (.iface T v)) := by show _ = _; rw [cell_of_row _ _ 0 _ _ _ HR11.out.2.2.1]; rfl
  rw [rounds_succ]
  go_wp2_with fail
  refine (HT3.out _ HX.out).mono ?_
  rintro e w12 ⟨rfl, hb⟩
  have HR12 : Hid (w12.heap[w6.heap.size]? = some (Obj.cells #[.func (.func 9) #[] #[.pointer (some ⟨w4.heap.size, 0, none⟩)], .func (.func 11) #[] #[.pointer (some ⟨w4.heap.size, 0, none⟩)], .func (.func 13) #[] #[.pointer (some ⟨w4.heap.size, 0, none⟩)], .func (.func 15) #[] #[.pointer (some ⟨w4.heap.size, 0, none⟩)]] 1) ∧ w12.heap[w6.heap.size + 1]? = some (Obj.cells #[.bool true, .bool false, .bool false, .bool false] 4) ∧ w12.heap[w4.heap.size]? = some (Obj.cells #[.iface T v, .pointer (some ⟨c, 0, none⟩), .pointer (some ⟨d, 0, none⟩)] 36) ∧ Core r h2 1 sh c w12) :=
    ⟨(hb.block _ (Array.getElem?_eq_some_iff.1 HR11.out.1).1).trans HR11.out.1, (hb.block _ (Array.getElem?_eq_some_iff.1 HR11.out.2.1).1).trans HR11.out.2.1, (hb.block _ (Array.getElem?_eq_some_iff.1 HR11.out.2.2.1).1).trans HR11.out.2.2.1, (hb.block _ (Array.getElem?_eq_some_iff.1 HR11.out.2.2.2).1).trans HR11.out.2.2.2⟩
  have HB12 : Hid (Below w.heap.size w w12) := HB11.out.trans (hb.mono HB11.out.size)
  have s_ : w12.cell? ⟨w6.heap.size + 1, 3, none⟩ = some (.bool false) := by rw [cell_of_row _ _ 3 _ _ _ HR12.out.2.1]; rfl
  clear hb m_ HX HR11 HB11 HT3
  go_wp2_with fail
  clear s_
  have x0 : w12.cell? ⟨w4.heap.size, 0, none⟩ = some (.iface T v) := by rw [cell_of_row _ _ 0 _ _ _ HR12.out.2.2.1]; rfl
  have x1 : w12.cell? ⟨w4.heap.size, 1, none⟩ = some (.pointer (some ⟨c, 0, none⟩)) := by rw [cell_of_row _ _ 1 _ _ _ HR12.out.2.2.1]; rfl
  have HLC : Hid ((loadVar 70 ⟨c, 14, none⟩).run Tryz.prog w12 = .ok (.agg #[.int .i64 0, .int .i64 0, .int .i64 0, .int .i64 0, .int .i64 0, .int .i64 0, .int .i64 0, .int .i64 0, .int .i64 0]) w12) := calls_ld HR12.out.2.2.2
  have hq : ∀ W, (binOp .eql 70 (.agg #[.int .i64 0, .int .i64 0, .int .i64 0, .int .i64 0, .int .i64 0, .int .i64 0, .int .i64 0, .int .i64 0, .int .i64 0]) (.agg #[.int .i64 0, .int .i64 0, .int .i64 0, .int .i64 0, .int .i64 0, .int .i64 0, .int .i64 0, .int .i64 0, .int .i64 0])).run Tryz.prog W = .ok (.bool true) W := fun W => by kernel_rfl
  have hg : ∀ (x y : Operand) W, (eqGuard .eql 70 x y (.agg #[.int .i64 0, .int .i64 0, .int .i64 0, .int .i64 0, .int .i64 0, .int .i64 0, .int .i64 0, .int .i64 0, .int .i64 0]) (.agg #[.int .i64 0, .int .i64 0, .int .i64 0, .int .i64 0, .int .i64 0, .int .i64 0, .int .i64 0, .int .i64 0, .int .i64 0])).run Tryz.prog W = .ok () W := fun x y W => by kernel_rfl
  have hn : ∀ W, (binOp .neq 32 (.iface T v) .nilIface).run Tryz.prog W = .ok (.bool true) W := fun W => by kernel_rfl
  have hng : ∀ (x y : Operand) W, (eqGuard .neq 32 x y (.iface T v) .nilIface).run Tryz.prog W = .ok () W := fun x y W => by kernel_rfl
  clear HR12
  rw [rounds_succ]
  go_wp2_with (first | (go_at_call 22; refine (HAO.out _).mono ?_; rintro e w' ⟨rfl, rfl⟩) | (go_at_call 23; refine (HAT.out _).mono ?_; rintro e w' ⟨rfl, rfl⟩) | ((with_reducible refine ldr ?_ ?_ HLC.out ?_); rfl; rfl))
  go_ret
  exact ⟨rfl, HB12.out⟩

set_option maxRecDepth 100000 in
set_option maxHeartbeats 8000000 in
theorem Shown_2 (r : Sr) (h n sh : Int) (hk : fitM 16 n = 2) (hh : Hid (fitM 4 h = 0 ∨ fitM 4 h = 3)) (w : World) :
    Calls Tryz.prog 3 #[.agg (r.cs h n sh)] w fun e w' => e = .returned (.bool true) ∧ Below w.heap.size w w' := by
  have hmf : ∀ (fn : Fn) (first cap : Array Value) (w : World), (Instr.makeFunc fn first cap).run Tryz.prog w = .ok (.func fn first cap) w := fun _ _ _ _ => rfl
  have HLv : Hid (∀ W, Calls Tryz.prog 4 #[] W fun e w' => e = .returned (.bool true) ∧ Below W.heap.size W w') := lives_any
  have HF : Hid (∀ W, Calls Tryz.prog 5 #[.agg (r.cs h n sh)] W fun e w' => e = .returned (.agg (r.cs (fitM 4 h) (fitM 16 n) sh)) ∧ Below W.heap.size W w') := fun W => Fit_any r h n sh W
  have Hh : Hid (0 ≤ fitM 4 h ∧ fitM 4 h < 4) := (fitM_eq 4 h (by decide) (by decide)).1
  generalize fitM 4 h = h' at HF Hh hh
  rw [hk] at HF
  clear hk
  have HA : Hid (∀ o, (w.alloc o).heap[w.heap.size]? = some o) := fun o => heap_alloc_last w o
  go_enter Tryz.func3, Tryz.ntmps3
  unfold Sr.cs
  go_wp2_with fail
  show Calls Tryz.prog _ _ (w.alloc (.cells (r.cs h n sh) 28)) _
  refine (HLv.out _).mono ?_
  rintro e w1 ⟨rfl, hb1⟩
  have k1 := (hb1.block w.heap.size (by simp)).trans (HA.out _)
  have HB1 : Hid (Below w.heap.size w w1) := ((Below.refl _ _).alloc (Nat.le_refl _) _).trans (hb1.mono (by simp))
  have HLD1 : Hid ((loadVar 28 ⟨w.heap.size, 0, none⟩).run Tryz.prog w1 = .ok (.agg (r.cs h n sh)) w1) := sp_ld r h n sh k1
  have HZ1 : Hid (w.heap.size < w1.heap.size) := (Array.getElem?_eq_some_iff.1 k1).1
  clear hb1
  go_wp2_with ((with_reducible refine ldr ?_ ?_ HLD1.out ?_); rfl; rfl)
  refine (HF.out _).mono ?_
  rintro e w2 ⟨rfl, hb2⟩
  have k2 := (hb2.block w.heap.size HZ1.out).trans k1
  have HB2 : Hid (Below w.heap.size w w2) := HB1.out.trans (hb2.mono HB1.out.size)
  have HST : Hid ((storeVar 28 ⟨w.heap.size, 0, none⟩ (.agg (r.cs h' 2 sh))).run Tryz.prog w2 = .ok () (w2.setRow w.heap.size (r.cs h' 2 sh))) := sp_st r h' 2 sh k2 rfl
  have k3 := setRow_heap _ _ _ (r.cs h' 2 sh) _ _ k2
  have HB3 : Hid (Below w.heap.size w (w2.setRow w.heap.size (r.cs h' 2 sh))) := HB2.out.trans ⟨rfl, rfl, rfl, by rw [setRow_size]; exact Nat.le_refl _, fun k hk => setRow_other _ _ _ _ (by omega)⟩
  generalize w2.setRow w.heap.size (r.cs h' 2 sh) = w3 at HST k3 HB3
  have HZ3 : Hid (w.heap.size < w3.heap.size) := (Array.getElem?_eq_some_iff.1 k3).1
  have HLD3 : Hid ((loadVar 28 ⟨w.heap.size, 0, none⟩).run Tryz.prog w3 = .ok (.agg (r.cs h' 2 sh)) w3) := sp_ld r h' 2 sh k3
  clear hb2 k1 k2 HB1 HB2 HLD1 HZ1 HF HLv HA
  go_wp2_with (first | ((with_reducible refine str ?_ ?_ ?_ HST.out ?_); rfl; rfl; rfl) | ((with_reducible refine ldr ?_ ?_ HLD3.out ?_); rfl; rfl))
  refine (made_any r h' 2 sh w3).mono ?_
  rintro e w4 ⟨h2, n2, o, c, d, rfl, hb4, _, _, eh, en, hO⟩
  obtain rfl := eh Hh.out.1 Hh.out.2
  have e2 : n2 = 2 := by have := en (by omega) (by omega); omega
  subst e2
  have k4 := (hb4.block w.heap.size HZ3.out).trans k3
  have HB4 : Hid (Below w.heap.size w w4) := HB3.out.trans (hb4.mono HB3.out.size)
  have HZ4 : Hid (w.heap.size < w4.heap.size) := (Array.getElem?_eq_some_iff.1 k4).1
  clear hb4 k3 HB3 HLD3 HZ3 HST eh en
  obtain ⟨T, v, rfl, hA, hT, hC⟩ : ∃ T v, o = .iface T v ∧ Ab T 2 ∧ T ≠ 66 ∧ Core r h2 2 sh c w4 := by
    rcases hO with ⟨h, _⟩ | ⟨h, _⟩ | ⟨_, h⟩
    · have := hh.out; omega
    · have := hh.out; omega
    · exact h
  have hs : Sm T v := .inr hT
  have HAb : Hid (∀ W, Calls Tryz.prog 7 #[.iface T v] W fun e w' => e = .returned (.tuple #[.int .i64 2, .int .i64 0]) ∧ W = w') := fun W => Abilities_any hA (by decide) hs W
  have HA0 : Hid (∀ W, Calls Tryz.prog 17 #[.iface T v] W fun e w' => e = .returned (.tuple #[.nilIface, .bool false]) ∧ W = w') := fun W => As_Versioned hA hs W
  have HT0 : Hid (∀ W : World, W.cell? ⟨w4.heap.size, 0, none⟩ = some (.iface T v) → Calls Tryz.prog 21 #[.func (.func 9) #[] #[.pointer (some ⟨w4.heap.size, 0, none⟩)]] W fun e w' => e = .returned (.tuple #[.int .i64 1, .int .i64 9]) ∧ Below W.heap.size W w') := fun W h => Try_musts_0 hA v _ W h
  have HA1 : Hid (∀ W, Calls Tryz.prog 18 #[.iface T v] W fun e w' => e = .returned (.tuple #[.iface T v, .bool true]) ∧ W = w') := fun W => As_Indexed hA hs W
  have HT1 : Hid (∀ W : World, W.cell? ⟨w4.heap.size, 0, none⟩ = some (.iface T v) → Calls Tryz.prog 21 #[.func (.func 11) #[] #[.pointer (some ⟨w4.heap.size, 0, none⟩)]] W fun e w' => e = .returned (.tuple #[.int .i64 0, .int .i64 0]) ∧ Below W.heap.size W w') := fun W h => Try_musts_1 hA v _ W h
  have HA2 : Hid (∀ W, Calls Tryz.prog 19 #[.iface T v] W fun e w' => e = .returned (.tuple #[.nilIface, .bool false]) ∧ W = w') := fun W => As_Owned hA hs W
  have HT2 : Hid (∀ W : World, W.cell? ⟨w4.heap.size, 0, none⟩ = some (.iface T v) → Calls Tryz.prog 21 #[.func (.func 13) #[] #[.pointer (some ⟨w4.heap.size, 0, none⟩)]] W fun e w' => e = .returned (.tuple #[.int .i64 1, .int .i64 9]) ∧ Below W.heap.size W w') := fun W h => Try_musts_2 hA v _ W h
  have HA3 : Hid (∀ W, Calls Tryz.prog 20 #[.iface T v] W fun e w' => e = .returned (.tuple #[.nilIface, .bool false]) ∧ W = w') := fun W => As_Lazy hA hs W
  have HT3 : Hid (∀ W : World, W.cell? ⟨w4.heap.size, 0, none⟩ = some (.iface T v) → Calls Tryz.prog 21 #[.func (.func 15) #[] #[.pointer (some ⟨w4.heap.size, 0, none⟩)]] W fun e w' => e = .returned (.tuple #[.int .i64 1, .int .i64 9]) ∧ Below W.heap.size W w') := fun W h => Try_musts_3 hA v _ W h
  have HAO : Hid (∀ W, Calls Tryz.prog 22 #[.iface T v] W fun e w' => e = .returned (.tuple #[.iface T v, .bool true]) ∧ W = w') := fun W => As_Object hA hs W
  have HAT : Hid (∀ W, Calls Tryz.prog 23 #[.iface T v] W fun e w' => e = .returned (.tuple #[.pointer none, .bool false]) ∧ W = w') := fun W => As_Thing hT v W
  have HNi : Hid (∀ W, Calls Tryz.prog 8 #[.agg (r.cs h2 2 sh)] W fun e w' => e = .returned (.bool false) ∧ Below W.heap.size W w') := fun W => Nil_no r h2 2 sh (by have := hh.out; simp; omega) (by have := hh.out; simp; omega) W
  have HLD5 : Hid ((loadVar 28 ⟨w.heap.size, 0, none⟩).run Tryz.prog (w4.alloc (Obj.cells #[.iface T v, .pointer (some ⟨c, 0, none⟩), .pointer (some ⟨d, 0, none⟩)] 36)) = .ok (.agg (r.cs h2 2 sh)) (w4.alloc (Obj.cells #[.iface T v, .pointer (some ⟨c, 0, none⟩), .pointer (some ⟨d, 0, none⟩)] 36))) := sp_ld r h2 2 sh ((Below.heap_alloc _ _ _ HZ4.out).trans k4)
  have HB5 : Hid (Below w.heap.size w (w4.alloc (Obj.cells #[.iface T v, .pointer (some ⟨c, 0, none⟩), .pointer (some ⟨d, 0, none⟩)] 36))) := HB4.out.alloc HB4.out.size _
  have k5 := (Below.heap_alloc w4 (Obj.cells #[.iface T v, .pointer (some ⟨c, 0, none⟩), .pointer (some ⟨d, 0, none⟩)] 36) _ HZ4.out).trans k4
  have q5 : (w4.alloc (Obj.cells #[.iface T v, .pointer (some ⟨c, 0, none⟩), .pointer (some ⟨d, 0, none⟩)] 36)).heap[w4.heap.size]? = some (Obj.cells #[.iface T v, .pointer (some ⟨c, 0, none⟩), .pointer (some ⟨d, 0, none⟩)] 36) := heap_alloc_last _ _
  have c5 : Core r h2 2 sh c (w4.alloc (Obj.cells #[.iface T v, .pointer (some ⟨c, 0, none⟩), .pointer (some ⟨d, 0, none⟩)] 36)) := (Below.heap_alloc w4 (Obj.cells #[.iface T v, .pointer (some ⟨c, 0, none⟩), .pointer (some ⟨d, 0, none⟩)] 36) _ (Array.getElem?_eq_some_iff.1 hC).1).trans hC
  clear k4 hO hC hA hT hs hh
  go_wp2_with (first | (go_at_call 7; refine (HAb.out _).mono ?_; rintro e w' ⟨rfl, rfl⟩) | ((with_reducible refine ldr ?_ ?_ HLD5.out ?_); rfl; rfl))
  refine (HNi.out _).mono ?_
  rintro e w6 ⟨rfl, hb6⟩
  have HB6 : Hid (Below w.heap.size w w6) := HB5.out.trans (hb6.mono HB5.out.size)
  have k6 := (hb6.block _ (Array.getElem?_eq_some_iff.1 k5).1).trans k5
  have q6 := (hb6.block _ (Array.getElem?_eq_some_iff.1 q5).1).trans q5
  have c6 : Core r h2 2 sh c w6 := (hb6.block _ (Array.getElem?_eq_some_iff.1 c5).1).trans c5
  have x1 : w6.cell? ⟨w.heap.size, 1, none⟩ = some (.int .i64 2) := by rw [cell_of_row _ _ 1 _ _ _ k6]; rfl
  have x0 : w6.cell? ⟨w4.heap.size, 0, none⟩ = some (.iface T v) := by rw [cell_of_row _ _ 0 _ _ _ q6]; rfl
  have x0a : ∀ X, (w6.alloc X).cell? ⟨w4.heap.size, 0, none⟩ = some (.iface T v) := fun X => by rw [((Below.refl w6.heap.size w6).alloc (Nat.le_refl _) X).cell (p := ⟨w4.heap.size, 0, none⟩) (World.block_lt_of_cell? _ _ x0)]; exact x0
  have HQ6 : Hid (w6.heap[w4.heap.size]? = some (Obj.cells #[.iface T v, .pointer (some ⟨c, 0, none⟩), .pointer (some ⟨d, 0, none⟩)] 36) ∧ Core r h2 2 sh c w6) := ⟨q6, c6⟩
  clear hb6 k5 q5 c5 k6 q6 c6 HLD5 HNi HAb HB5
  go_wp2_with (first | (go_at_call 17; refine (HA0.out _).mono ?_; rintro e w' ⟨rfl, rfl⟩) | (go_at_call 18; refine (HA1.out _).mono ?_; rintro e w' ⟨rfl, rfl⟩) | (go_at_call 19; refine (HA2.out _).mono ?_; rintro e w' ⟨rfl, rfl⟩) | (go_at_call 20; refine (HA3.out _).mono ?_; rintro e w' ⟨rfl, rfl⟩))
  have m8 : ((w6.alloc (Obj.cells #[.func (.func 9) #[] #[.pointer (some ⟨w4.heap.size, 0, none⟩)], .func (.func 11) #[] #[.pointer (some ⟨w4.heap.size, 0, none⟩)], .func (.func 13) #[] #[.pointer (some ⟨w4.heap.size, 0, none⟩)], .func (.func 15) #[] #[.pointer (some ⟨w4.heap.size, 0, none⟩)]] 1)).alloc (Obj.cells #[.bool false, .bool true, .bool false, .bool false] 4)).heap[w6.heap.size]? = some (Obj.cells #[.func (.func 9) #[] #[.pointer (some ⟨w4.heap.size, 0, none⟩)], .func (.func 11) #[] #[.pointer (some ⟨w4.heap.size, 0, none⟩)], .func (.func 13) #[] #[.pointer (some ⟨w4.heap.size, 0, none⟩)], .func (.func 15) #[] #[.pointer (some ⟨w4.heap.size, 0, none⟩)]] 1) := al2_old _ _ _
  have s8 : ((w6.alloc (Obj.cells #[.func (.func 9) #[] #[.pointer (some ⟨w4.heap.size, 0, none⟩)], .func (.func 11) #[] #[.pointer (some ⟨w4.heap.size, 0, none⟩)], .func (.func 13) #[] #[.pointer (some ⟨w4.heap.size, 0, none⟩)], .func (.func 15) #[] #[.pointer (some ⟨w4.heap.size, 0, none⟩)]] 1)).alloc (Obj.cells #[.bool false, .bool true, .bool false, .bool false] 4)).heap[w6.heap.size + 1]? = some (Obj.cells #[.bool false, .bool true, .bool false, .bool false] 4) := al2_new _ _ _
  have b8 : Below w6.heap.size w6 ((w6.alloc (Obj.cells #[.func (.func 9) #[] #[.pointer (some ⟨w4.heap.size, 0, none⟩)], .func (.func 11) #[] #[.pointer (some ⟨w4.heap.size, 0, none⟩)], .func (.func 13) #[] #[.pointer (some ⟨w4.heap.size, 0, none⟩)], .func (.func 15) #[] #[.pointer (some ⟨w4.heap.size, 0, none⟩)]] 1)).alloc (Obj.cells #[.bool false, .bool true, .bool false, .bool false] 4)) := ((Below.refl _ _).alloc (Nat.le_refl _) _).alloc (by simp) _
  have q8 := (b8.block _ (Array.getElem?_eq_some_iff.1 HQ6.out.1).1).trans HQ6.out.1
  have c8 : Core r h2 2 sh c ((w6.alloc (Obj.cells #[.func (.func 9) #[] #[.pointer (some ⟨w4.heap.size, 0, none⟩)], .func (.func 11) #[] #[.pointer (some ⟨w4.heap.size, 0, none⟩)], .func (.func 13) #[] #[.pointer (some ⟨w4.heap.size, 0, none⟩)], .func (.func 15) #[] #[.pointer (some ⟨w4.heap.size, 0, none⟩)]] 1)).alloc (Obj.cells #[.bool false, .bool true, .bool false, .bool false] 4)) := (b8.block _ (Array.getElem?_eq_some_iff.1 HQ6.out.2).1).trans HQ6.out.2
  have HB8 : Hid (Below w.heap.size w ((w6.alloc (Obj.cells #[.func (.func 9) #[] #[.pointer (some ⟨w4.heap.size, 0, none⟩)], .func (.func 11) #[] #[.pointer (some ⟨w4.heap.size, 0, none⟩)], .func (.func 13) #[] #[.pointer (some ⟨w4.heap.size, 0, none⟩)], .func (.func 15) #[] #[.pointer (some ⟨w4.heap.size, 0, none⟩)]] 1)).alloc (Obj.cells #[.bool false, .bool true, .bool false, .bool false] 4))) := HB6.out.trans (b8.mono HB6.out.size)
  refine wp_loop_rounds 5 ?_
  generalize (w6.alloc (Obj.cells #[.func (.func 9) #[] #[.pointer (some ⟨w4.heap.size, 0, none⟩)], .func (.func 11) #[] #[.pointer (some ⟨w4.heap.size, 0, none⟩)], .func (.func 13) #[] #[.pointer (some ⟨w4.heap.size, 0, none⟩)], .func (.func 15) #[] #[.pointer (some ⟨w4.heap.size, 0, none⟩)]] 1)).alloc (Obj.cells #[.bool false, .bool true, .bool false, .bool false] 4) = w8 at m8 s8 b8 q8 c8 HB8 ⊢
  have HR8 : Hid (w8.heap[w6.heap.size]? = some (Obj.cells #[.func (.func 9) #[] #[.pointer (some ⟨w4.heap.size, 0, none⟩)], .func (.func 11) #[] #[.pointer (some ⟨w4.heap.size, 0, none⟩)], .func (.func 13) #[] #[.pointer (some ⟨w4.heap.size, 0, none⟩)], .func (.func 15) #[] #[.pointer (some ⟨w4.heap.size, 0, none⟩)]] 1) ∧ w8.heap[w6.heap.size + 1]? = some (Obj.cells #[.bool false, .bool true, .bool false, .bool false] 4) ∧ w8.heap[w4.heap.size]? = some (Obj.cells #[.iface T v, .pointer (some ⟨c, 0, none⟩), .pointer (some ⟨d, 0, none⟩)] 36) ∧ Core r h2 2 sh c w8) := ⟨m8, s8, q8, c8⟩
  clear m8 s8 b8 q8 c8 HQ6 x0 x0a x1 HB6 HA0 HA1 HA2 HA3
  have m_ : w8.cell? ⟨w6.heap.size, 0, none⟩ = some (.func (.func 9) #[] #[.pointer (some ⟨w4.heap.size, 0, none⟩)]) := by rw [cell_of_row _ _ 0 _ _ _ HR8.out.1]; rfl
  have s_ : w8.cell? ⟨w6.heap.size + 1, 0, none⟩ = some (.bool false) := by rw [cell_of_row _ _ 0 _ _ _ HR8.out.2.1]; rfl
  have HX : Hid (w8.cell? ⟨w4.heap.size, 0, none⟩ = some (.iface T v)) := by show _ = _; rw [cell_of_row _ _ 0 _ _ _ HR8.out.2.2.1]; rfl
  rw [rounds_succ]
  go_wp2_with fail
  refine (HT0.out _ HX.out).mono ?_
  rintro e w9 ⟨rfl, hb⟩
  have HR9 : Hid (w9.heap[w6.heap.size]? = some (Obj.cells #[.func (.func 9) #[] #[.pointer (some ⟨w4.heap.size, 0, none⟩)], .func (.func 11) #[] #[.pointer (some ⟨w4.heap.size, 0, none⟩)], .func (.func 13) #[] #[.pointer (some ⟨w4.heap.size, 0, none⟩)], .func (.func 15) #[] #[.pointer (some ⟨w4.heap.size, 0, none⟩)]] 1) ∧ w9.heap[w6.heap.size + 1]? = some (Obj.cells #[.bool false, .bool true, .bool false, .bool false] 4) ∧ w9.heap[w4.heap.size]? = some (Obj.cells #[.iface T v, .pointer (some ⟨c, 0, none⟩), .pointer (some ⟨d, 0, none⟩)] 36) ∧ Core r h2 2 sh c w9) :=
    ⟨(hb.block _ (Array.getElem?_eq_some_iff.1 HR8.out.1).1).trans HR8.out.1, (hb.block _ (Array.getElem?_eq_some_iff.1 HR8.out.2.1).1).trans HR8.out.2.1, (hb.block _ (Array.getElem?_eq_some_iff.1 HR8.out.2.2.1).1).trans HR8.out.2.2.1, (hb.block _ (Array.getElem?_eq_some_iff.1 HR8.out.2.2.2).1).trans HR8.out.2.2.2⟩
  have HB9 : Hid (Below w.heap.size w w9) := HB8.out.trans (hb.mono HB8.out.size)
  have s_ : w9.cell? ⟨w6.heap.size + 1, 0, none⟩ = some (.bool false) := by rw [cell_of_row _ _ 0 _ _ _ HR9.out.2.1]; rfl
  clear hb m_ HX HR8 HB8 HT0
  go_wp2_with fail
  clear s_
  have m_ : w9.cell? ⟨w6.heap.size, 1, none⟩ = some (.func (.func 11) #[] #[.pointer (some ⟨w4.heap.size, 0, none⟩)]) := by rw [cell_of_row _ _ 1 _ _ _ HR9.out.1]; rfl
  have s_ : w9.cell? ⟨w6.heap.size + 1, 1, none⟩ = some (.bool true) := by rw [cell_of_row _ _ 1 _ _ _ HR9.out.2.1]; rfl
  have HX : Hid (w9.cell? ⟨w4.heap.size, 0, none⟩ = some (.iface T v)) := by show _ = _; rw [cell_of_row _ _ 0 _ _ _ HR9.out.2.2.1]; rfl
  rw [rounds_succ]
  go_wp2_with fail
  refine (HT1.out _ HX.out).mono ?_
  rintro e w10 ⟨rfl, hb⟩
  have HR10 : Hid (w10.heap[w6.heap.size]? = some (Obj.cells #[.func (.func 9) #[] #[.pointer (some ⟨w4.heap.size, 0, none⟩)], .func (.func 11) #[] #[.pointer (some ⟨w4.heap.size, 0, none⟩)], .func (.func 13) #[] #[.pointer (some ⟨w4.heap.size, 0, none⟩)], .func (.func 15) #[] #[.pointer (some ⟨w4.heap.size, 0, none⟩)]] 1) ∧ w10.heap[w6.heap.size + 1]? = some (Obj.cells #[.bool false, .bool true, .bool false, .bool false] 4) ∧ w10.heap[w4.heap.size]? = some (Obj.cells #[.iface T v, .pointer (some ⟨c, 0, none⟩), .pointer (some ⟨d, 0, none⟩)] 36) ∧ Core r h2 2 sh c w10) :=
    ⟨(hb.block _ (Array.getElem?_eq_some_iff.1 HR9.out.1).1).trans HR9.out.1, (hb.block _ (Array.getElem?_eq_some_iff.1 HR9.out.2.1).1).trans HR9.out.2.1, (hb.block _ (Array.getElem?_eq_some_iff.1 HR9.out.2.2.1).1).trans HR9.out.2.2.1, (hb.block _ (Array.getElem?_eq_some_iff.1 HR9.out.2.2.2).1).trans HR9.out.2.2.2⟩
  have HB10 : Hid (Below w.heap.size w w10) := HB9.out.trans (hb.mono HB9.out.size)
  have s_ : w10.cell? ⟨w6.heap.size + 1, 1, none⟩ = some (.bool true) := by rw [cell_of_row _ _ 1 _ _ _ HR10.out.2.1]; rfl
  clear hb m_ HX HR9 HB9 HT1
  go_wp2_with fail
  clear s_
  have m_ : w10.cell? ⟨w6.heap.size, 2, none⟩ = some (.func (.func 13) #[] #[.pointer (some ⟨w4.heap.size, 0, none⟩)]) := by rw [cell_of_row _ _ 2 _ _ _ HR10.out.1]; rfl
  have s_ : w10.cell? ⟨w6.heap.size + 1, 2, none⟩ = some (.bool false) := by rw [cell_of_row _ _ 2 _ _ _ HR10.out.2.1]; rfl
  have HX : Hid (w10.cell? ⟨w4.heap.size, 0, none⟩ = some (.iface T v)) := by show _ = _; rw [cell_of_row _ _ 0 _ _ _ HR10.out.2.2.1]; rfl
  rw [rounds_succ]
  go_wp2_with fail
  refine (HT2.out _ HX.out).mono ?_
  rintro e w11 ⟨rfl, hb⟩
  have HR11 : Hid (w11.heap[w6.heap.size]? = some (Obj.cells #[.func (.func 9) #[] #[.pointer (some ⟨w4.heap.size, 0, none⟩)], .func (.func 11) #[] #[.pointer (some ⟨w4.heap.size, 0, none⟩)], .func (.func 13) #[] #[.pointer (some ⟨w4.heap.size, 0, none⟩)], .func (.func 15) #[] #[.pointer (some ⟨w4.heap.size, 0, none⟩)]] 1) ∧ w11.heap[w6.heap.size + 1]? = some (Obj.cells #[.bool false, .bool true, .bool false, .bool false] 4) ∧ w11.heap[w4.heap.size]? = some (Obj.cells #[.iface T v, .pointer (some ⟨c, 0, none⟩), .pointer (some ⟨d, 0, none⟩)] 36) ∧ Core r h2 2 sh c w11) :=
    ⟨(hb.block _ (Array.getElem?_eq_some_iff.1 HR10.out.1).1).trans HR10.out.1, (hb.block _ (Array.getElem?_eq_some_iff.1 HR10.out.2.1).1).trans HR10.out.2.1, (hb.block _ (Array.getElem?_eq_some_iff.1 HR10.out.2.2.1).1).trans HR10.out.2.2.1, (hb.block _ (Array.getElem?_eq_some_iff.1 HR10.out.2.2.2).1).trans HR10.out.2.2.2⟩
  have HB11 : Hid (Below w.heap.size w w11) := HB10.out.trans (hb.mono HB10.out.size)
  have s_ : w11.cell? ⟨w6.heap.size + 1, 2, none⟩ = some (.bool false) := by rw [cell_of_row _ _ 2 _ _ _ HR11.out.2.1]; rfl
  clear hb m_ HX HR10 HB10 HT2
  go_wp2_with fail
  clear s_
  have m_ : w11.cell? ⟨w6.heap.size, 3, none⟩ = some (.func (.func 15) #[] #[.pointer (some ⟨w4.heap.size, 0, none⟩)]) := by rw [cell_of_row _ _ 3 _ _ _ HR11.out.1]; rfl
  have s_ : w11.cell? ⟨w6.heap.size + 1, 3, none⟩ = some (.bool false) := by rw [cell_of_row _ _ 3 _ _ _ HR11.out.2.1]; rfl
  have HX : Hid (w11.cell? ⟨w4.heap.size, 0, none⟩ = some (.iface T v)) := by show _ = _; rw [cell_of_row _ _ 0 _ _ _ HR11.out.2.2.1]; rfl
  rw [rounds_succ]
  go_wp2_with fail
  refine (HT3.out _ HX.out).mono ?_
  rintro e w12 ⟨rfl, hb⟩
  have HR12 : Hid (w12.heap[w6.heap.size]? = some (Obj.cells #[.func (.func 9) #[] #[.pointer (some ⟨w4.heap.size, 0, none⟩)], .func (.func 11) #[] #[.pointer (some ⟨w4.heap.size, 0, none⟩)], .func (.func 13) #[] #[.pointer (some ⟨w4.heap.size, 0, none⟩)], .func (.func 15) #[] #[.pointer (some ⟨w4.heap.size, 0, none⟩)]] 1) ∧ w12.heap[w6.heap.size + 1]? = some (Obj.cells #[.bool false, .bool true, .bool false, .bool false] 4) ∧ w12.heap[w4.heap.size]? = some (Obj.cells #[.iface T v, .pointer (some ⟨c, 0, none⟩), .pointer (some ⟨d, 0, none⟩)] 36) ∧ Core r h2 2 sh c w12) :=
    ⟨(hb.block _ (Array.getElem?_eq_some_iff.1 HR11.out.1).1).trans HR11.out.1, (hb.block _ (Array.getElem?_eq_some_iff.1 HR11.out.2.1).1).trans HR11.out.2.1, (hb.block _ (Array.getElem?_eq_some_iff.1 HR11.out.2.2.1).1).trans HR11.out.2.2.1, (hb.block _ (Array.getElem?_eq_some_iff.1 HR11.out.2.2.2).1).trans HR11.out.2.2.2⟩
  have HB12 : Hid (Below w.heap.size w w12) := HB11.out.trans (hb.mono HB11.out.size)
  have s_ : w12.cell? ⟨w6.heap.size + 1, 3, none⟩ = some (.bool false) := by rw [cell_of_row _ _ 3 _ _ _ HR12.out.2.1]; rfl
  clear hb m_ HX HR11 HB11 HT3
  go_wp2_with fail
  clear s_
  have x0 : w12.cell? ⟨w4.heap.size, 0, none⟩ = some (.iface T v) := by rw [cell_of_row _ _ 0 _ _ _ HR12.out.2.2.1]; rfl
  have x1 : w12.cell? ⟨w4.heap.size, 1, none⟩ = some (.pointer (some ⟨c, 0, none⟩)) := by rw [cell_of_row _ _ 1 _ _ _ HR12.out.2.2.1]; rfl
  have HLC : Hid ((loadVar 70 ⟨c, 14, none⟩).run Tryz.prog w12 = .ok (.agg #[.int .i64 0, .int .i64 0, .int .i64 0, .int .i64 0, .int .i64 0, .int .i64 0, .int .i64 0, .int .i64 0, .int .i64 0]) w12) := calls_ld HR12.out.2.2.2
  have hq : ∀ W, (binOp .eql 70 (.agg #[.int .i64 0, .int .i64 0, .int .i64 0, .int .i64 0, .int .i64 0, .int .i64 0, .int .i64 0, .int .i64 0, .int .i64 0]) (.agg #[.int .i64 0, .int .i64 0, .int .i64 0, .int .i64 0, .int .i64 0, .int .i64 0, .int .i64 0, .int .i64 0, .int .i64 0])).run Tryz.prog W = .ok (.bool true) W := fun W => by kernel_rfl
  have hg : ∀ (x y : Operand) W, (eqGuard .eql 70 x y (.agg #[.int .i64 0, .int .i64 0, .int .i64 0, .int .i64 0, .int .i64 0, .int .i64 0, .int .i64 0, .int .i64 0, .int .i64 0]) (.agg #[.int .i64 0, .int .i64 0, .int .i64 0, .int .i64 0, .int .i64 0, .int .i64 0, .int .i64 0, .int .i64 0, .int .i64 0])).run Tryz.prog W = .ok () W := fun x y W => by kernel_rfl
  have hn : ∀ W, (binOp .neq 32 (.iface T v) .nilIface).run Tryz.prog W = .ok (.bool true) W := fun W => by kernel_rfl
  have hng : ∀ (x y : Operand) W, (eqGuard .neq 32 x y (.iface T v) .nilIface).run Tryz.prog W = .ok () W := fun x y W => by kernel_rfl
  clear HR12
  rw [rounds_succ]
  go_wp2_with (first | (go_at_call 22; refine (HAO.out _).mono ?_; rintro e w' ⟨rfl, rfl⟩) | (go_at_call 23; refine (HAT.out _).mono ?_; rintro e w' ⟨rfl, rfl⟩) | ((with_reducible refine ldr ?_ ?_ HLC.out ?_); rfl; rfl))
  go_ret
  exact ⟨rfl, HB12.out⟩

set_option maxRecDepth 100000 in
set_option maxHeartbeats 8000000 in
theorem Shown_3 (r : Sr) (h n sh : Int) (hk : fitM 16 n = 3) (hh : Hid (fitM 4 h = 0 ∨ fitM 4 h = 3)) (w : World) :
    Calls Tryz.prog 3 #[.agg (r.cs h n sh)] w fun e w' => e = .returned (.bool true) ∧ Below w.heap.size w w' := by
  have hmf : ∀ (fn : Fn) (first cap : Array Value) (w : World), (Instr.makeFunc fn first cap).run Tryz.prog w = .ok (.func fn first cap) w := fun _ _ _ _ => rfl
  have HLv : Hid (∀ W, Calls Tryz.prog 4 #[] W fun e w' => e = .returned (.bool true) ∧ Below W.heap.size W w') := lives_any
  have HF : Hid (∀ W, Calls Tryz.prog 5 #[.agg (r.cs h n sh)] W fun e w' => e = .returned (.agg (r.cs (fitM 4 h) (fitM 16 n) sh)) ∧ Below W.heap.size W w') := fun W => Fit_any r h n sh W
  have Hh : Hid (0 ≤ fitM 4 h ∧ fitM 4 h < 4) := (fitM_eq 4 h (by decide) (by decide)).1
  generalize fitM 4 h = h' at HF Hh hh
  rw [hk] at HF
  clear hk
  have HA : Hid (∀ o, (w.alloc o).heap[w.heap.size]? = some o) := fun o => heap_alloc_last w o
  go_enter Tryz.func3, Tryz.ntmps3
  unfold Sr.cs
  go_wp2_with fail
  show Calls Tryz.prog _ _ (w.alloc (.cells (r.cs h n sh) 28)) _
  refine (HLv.out _).mono ?_
  rintro e w1 ⟨rfl, hb1⟩
  have k1 := (hb1.block w.heap.size (by simp)).trans (HA.out _)
  have HB1 : Hid (Below w.heap.size w w1) := ((Below.refl _ _).alloc (Nat.le_refl _) _).trans (hb1.mono (by simp))
  have HLD1 : Hid ((loadVar 28 ⟨w.heap.size, 0, none⟩).run Tryz.prog w1 = .ok (.agg (r.cs h n sh)) w1) := sp_ld r h n sh k1
  have HZ1 : Hid (w.heap.size < w1.heap.size) := (Array.getElem?_eq_some_iff.1 k1).1
  clear hb1
  go_wp2_with ((with_reducible refine ldr ?_ ?_ HLD1.out ?_); rfl; rfl)
  refine (HF.out _).mono ?_
  rintro e w2 ⟨rfl, hb2⟩
  have k2 := (hb2.block w.heap.size HZ1.out).trans k1
  have HB2 : Hid (Below w.heap.size w w2) := HB1.out.trans (hb2.mono HB1.out.size)
  have HST : Hid ((storeVar 28 ⟨w.heap.size, 0, none⟩ (.agg (r.cs h' 3 sh))).run Tryz.prog w2 = .ok () (w2.setRow w.heap.size (r.cs h' 3 sh))) := sp_st r h' 3 sh k2 rfl
  have k3 := setRow_heap _ _ _ (r.cs h' 3 sh) _ _ k2
  have HB3 : Hid (Below w.heap.size w (w2.setRow w.heap.size (r.cs h' 3 sh))) := HB2.out.trans ⟨rfl, rfl, rfl, by rw [setRow_size]; exact Nat.le_refl _, fun k hk => setRow_other _ _ _ _ (by omega)⟩
  generalize w2.setRow w.heap.size (r.cs h' 3 sh) = w3 at HST k3 HB3
  have HZ3 : Hid (w.heap.size < w3.heap.size) := (Array.getElem?_eq_some_iff.1 k3).1
  have HLD3 : Hid ((loadVar 28 ⟨w.heap.size, 0, none⟩).run Tryz.prog w3 = .ok (.agg (r.cs h' 3 sh)) w3) := sp_ld r h' 3 sh k3
  clear hb2 k1 k2 HB1 HB2 HLD1 HZ1 HF HLv HA
  go_wp2_with (first | ((with_reducible refine str ?_ ?_ ?_ HST.out ?_); rfl; rfl; rfl) | ((with_reducible refine ldr ?_ ?_ HLD3.out ?_); rfl; rfl))
  refine (made_any r h' 3 sh w3).mono ?_
  rintro e w4 ⟨h2, n2, o, c, d, rfl, hb4, _, _, eh, en, hO⟩
  obtain rfl := eh Hh.out.1 Hh.out.2
  have e2 : n2 = 3 := by have := en (by omega) (by omega); omega
  subst e2
  have k4 := (hb4.block w.heap.size HZ3.out).trans k3
  have HB4 : Hid (Below w.heap.size w w4) := HB3.out.trans (hb4.mono HB3.out.size)
  have HZ4 : Hid (w.heap.size < w4.heap.size) := (Array.getElem?_eq_some_iff.1 k4).1
  clear hb4 k3 HB3 HLD3 HZ3 HST eh en
  obtain ⟨T, v, rfl, hA, hT, hC⟩ : ∃ T v, o = .iface T v ∧ Ab T 3 ∧ T ≠ 66 ∧ Core r h2 3 sh c w4 := by
    rcases hO with ⟨h, _⟩ | ⟨h, _⟩ | ⟨_, h⟩
    · have := hh.out; omega
    · have := hh.out; omega
    · exact h
  have hs : Sm T v := .inr hT
  have HAb : Hid (∀ W, Calls Tryz.prog 7 #[.iface T v] W fun e w' => e = .returned (.tuple #[.int .i64 3, .int .i64 0]) ∧ W = w') := fun W => Abilities_any hA (by decide) hs W
  have HA0 : Hid (∀ W, Calls Tryz.prog 17 #[.iface T v] W fun e w' => e = .returned (.tuple #[.iface T v, .bool true]) ∧ W = w') := fun W => As_Versioned hA hs W
  have HT0 : Hid (∀ W : World, W.cell? ⟨w4.heap.size, 0, none⟩ = some (.iface T v) → Calls Tryz.prog 21 #[.func (.func 9) #[] #[.pointer (some ⟨w4.heap.size, 0, none⟩)]] W fun e w' => e = .returned (.tuple #[.int .i64 0, .int .i64 0]) ∧ Below W.heap.size W w') := fun W h => Try_musts_0 hA v _ W h
  have HA1 : Hid (∀ W, Calls Tryz.prog 18 #[.iface T v] W fun e w' => e = .returned (.tuple #[.iface T v, .bool true]) ∧ W = w') := fun W => As_Indexed hA hs W
  have HT1 : Hid (∀ W : World, W.cell? ⟨w4.heap.size, 0, none⟩ = some (.iface T v) → Calls Tryz.prog 21 #[.func (.func 11) #[] #[.pointer (some ⟨w4.heap.size, 0, none⟩)]] W fun e w' => e = .returned (.tuple #[.int .i64 0, .int .i64 0]) ∧ Below W.heap.size W w') := fun W h => Try_musts_1 hA v _ W h
  have HA2 : Hid (∀ W, Calls Tryz.prog 19 #[.iface T v] W fun e w' => e = .returned (.tuple #[.nilIface, .bool false]) ∧ W = w') := fun W => As_Owned hA hs W
  have HT2 : Hid (∀ W : World, W.cell? ⟨w4.heap.size, 0, none⟩ = some (.iface T v) → Calls Tryz.prog 21 #[.func (.func 13) #[] #[.pointer (some ⟨w4.heap.size, 0, none⟩)]] W fun e w' => e = .returned (.tuple #[.int .i64 1, .int .i64 9]) ∧ Below W.heap.size W w') := fun W h => Try_musts_2 hA v _ W h
  have HA3 : Hid (∀ W, Calls Tryz.prog 20 #[.iface T v] W fun e w' => e = .returned (.tuple #[.nilIface, .bool false]) ∧ W = w') := fun W => As_Lazy hA hs W
  have HT3 : Hid (∀ W : World, W.cell? ⟨w4.heap.size, 0, none⟩ = some (.iface T v) → Calls Tryz.prog 21 #[.func (.func 15) #[] #[.pointer (some ⟨w4.heap.size, 0, none⟩)]] W fun e w' => e = .returned (.tuple #[.int .i64 1, .int .i64 9]) ∧ Below W.heap.size W w') := fun W h => Try_musts_3 hA v _ W h
  have HAO : Hid (∀ W, Calls Tryz.prog 22 #[.iface T v] W fun e w' => e = .returned (.tuple #[.iface T v, .bool true]) ∧ W = w') := fun W => As_Object hA hs W
  have HAT : Hid (∀ W, Calls Tryz.prog 23 #[.iface T v] W fun e w' => e = .returned (.tuple #[.pointer none, .bool false]) ∧ W = w') := fun W => As_Thing hT v W
  have HNi : Hid (∀ W, Calls Tryz.prog 8 #[.agg (r.cs h2 3 sh)] W fun e w' => e = .returned (.bool false) ∧ Below W.heap.size W w') := fun W => Nil_no r h2 3 sh (by have := hh.out; simp; omega) (by have := hh.out; simp; omega) W
  have HLD5 : Hid ((loadVar 28 ⟨w.heap.size, 0, none⟩).run Tryz.prog (w4.alloc (Obj.cells #[.iface T v, .pointer (some ⟨c, 0, none⟩), .pointer (some ⟨d, 0, none⟩)] 36)) = .ok (.agg (r.cs h2 3 sh)) (w4.alloc (Obj.cells #[.iface T v, .pointer (some ⟨c, 0, none⟩), .pointer (some ⟨d, 0, none⟩)] 36))) := sp_ld r h2 3 sh ((Below.heap_alloc _ _ _ HZ4.out).trans k4)
  have HB5 : Hid (Below w.heap.size w (w4.alloc (Obj.cells #[.iface T v, .pointer (some ⟨c, 0, none⟩), .pointer (some ⟨d, 0, none⟩)] 36))) := HB4.out.alloc HB4.out.size _
  have k5 := (Below.heap_alloc w4 (Obj.cells #[.iface T v, .pointer (some ⟨c, 0, none⟩), .pointer (some ⟨d, 0, none⟩)] 36) _ HZ4.out).trans k4
  have q5 : (w4.alloc (Obj.cells #[.iface T v, .pointer (some ⟨c, 0, none⟩), .pointer (some ⟨d, 0, none⟩)] 36)).heap[w4.heap.size]? = some (Obj.cells #[.iface T v, .pointer (some ⟨c, 0, none⟩), .pointer (some ⟨d, 0, none⟩)] 36) := heap_alloc_last _ _
  have c5 : Core r h2 3 sh c (w4.alloc (Obj.cells #[.iface T v, .pointer (some ⟨c, 0, none⟩), .pointer (some ⟨d, 0, none⟩)] 36)) := (Below.heap_alloc w4 (Obj.cells #[.iface T v, .pointer (some ⟨c, 0, none⟩), .pointer (some ⟨d, 0, none⟩)] 36) _ (Array.getElem?_eq_some_iff.1 hC).1).trans hC
  clear k4 hO hC hA hT hs hh
  go_wp2_with (first | (go_at_call 7; refine (HAb.out _).mono ?_; rintro e w' ⟨rfl, rfl⟩) | ((with_reducible refine ldr ?_ ?_ HLD5.out ?_); rfl; rfl))
  refine (HNi.out _).mono ?_
  rintro e w6 ⟨rfl, hb6⟩
  have HB6 : Hid (Below w.heap.size w w6) := HB5.out.trans (hb6.mono HB5.out.size)
  have k6 := (hb6.block _ (Array.getElem?_eq_some_iff.1 k5).1).trans k5
  have q6 := (hb6.block _ (Array.getElem?_eq_some_iff.1 q5).1).trans q5
  have c6 : Core r h2 3 sh c w6 := (hb6.block _ (Array.getElem?_eq_some_iff.1 c5).1).trans c5
  have x1 : w6.cell? ⟨w.heap.size, 1, none⟩ = some (.int .i64 3) := by rw [cell_of_row _ _ 1 _ _ _ k6]; rfl
  have x0 : w6.cell? ⟨w4.heap.size, 0, none⟩ = some (.iface T v) := by rw [cell_of_row _ _ 0 _ _ _ q6]; rfl
  have x0a : ∀ X, (w6.alloc X).cell? ⟨w4.heap.size, 0, none⟩ = some (.iface T v) := fun X => by rw [((Below.refl w6.heap.size w6).alloc (Nat.le_refl _) X).cell (p := ⟨w4.heap.size, 0, none⟩) (World.block_lt_of_cell? _ _ x0)]; exact x0
  have HQ6 : Hid (w6.heap[w4.heap.size]? = some (Obj.cells #[.iface T v, .pointer (some ⟨c, 0, none⟩), .pointer (some ⟨d, 0, none⟩)] 36) ∧ Core r h2 3 sh c w6) := ⟨q6, c6⟩
  clear hb6 k5 q5 c5 k6 q6 c6 HLD5 HNi HAb HB5
  go_wp2_with (first | (go_at_call 17; refine (HA0.out _).mono ?_; rintro e w' ⟨rfl, rfl⟩) | (go_at_call 18; refine (HA1.out _).mono ?_; rintro e w' ⟨rfl, rfl⟩) | (go_at_call 19; refine (HA2.out _).mono ?_; rintro e w' ⟨rfl, rfl⟩) | (go_at_call 20; refine (HA3.out _).mono ?_; rintro e w' ⟨rfl, rfl⟩))
  have m8 : ((w6.alloc (Obj.cells #[.func (.func 9) #[] #[.pointer (some ⟨w4.heap.size, 0, none⟩)], .func (.func 11) #[] #[.pointer (some ⟨w4.heap.size, 0, none⟩)], .func (.func 13) #[] #[.pointer (some ⟨w4.heap.size, 0, none⟩)], .func (.func 15) #[] #[.pointer (some ⟨w4.heap.size, 0, none⟩)]] 1)).alloc (Obj.cells #[.bool true, .bool true, .bool false, .bool false] 4)).heap[w6.heap.size]? = some (Obj.cells #[.func (.func 9) #[] #[.pointer (some ⟨w4.heap.size, 0, none⟩)], .func (.func 11) #[] #[.pointer (some ⟨w4.heap.size, 0, none⟩)], .func (.func 13) #[] #[.pointer (some ⟨w4.heap.size, 0, none⟩)], .func (.func 15) #[] #[.pointer (some ⟨w4.heap.size, 0, none⟩)]] 1) := al2_old _ _ _
  have s8 : ((w6.alloc (Obj.cells #[.func (.func 9) #[] #[.pointer (some ⟨w4.heap.size, 0, none⟩)], .func (.func 11) #[] #[.pointer (some ⟨w4.heap.size, 0, none⟩)], .func (.func 13) #[] #[.pointer (some ⟨w4.heap.size, 0, none⟩)], .func (.func 15) #[] #[.pointer (some ⟨w4.heap.size, 0, none⟩)]] 1)).alloc (Obj.cells #[.bool true, .bool true, .bool false, .bool false] 4)).heap[w6.heap.size + 1]? = some (Obj.cells #[.bool true, .bool true, .bool false, .bool false] 4) := al2_new _ _ _
  have b8 : Below w6.heap.size w6 ((w6.alloc (Obj.cells #[.func (.func 9) #[] #[.pointer (some ⟨w4.heap.size, 0, none⟩)], .func (.func 11) #[] #[.pointer (some ⟨w4.heap.size, 0, none⟩)], .func (.func 13) #[] #[.pointer (some ⟨w4.heap.size, 0, none⟩)], .func (.func 15) #[] #[.pointer (some ⟨w4.heap.size, 0, none⟩)]] 1)).alloc (Obj.cells #[.bool true, .bool true, .bool false, .bool false] 4)) := ((Below.refl _ _).alloc (Nat.le_refl _) _).alloc (by simp) _
  have q8 := (b8.block _ (Array.getElem?_eq_some_iff.1 HQ6.out.1).1).trans HQ6.out.1
  have c8 : Core r h2 3 sh c ((w6.alloc (Obj.cells #[.func (.func 9) #[] #[.pointer (some ⟨w4.heap.size, 0, none⟩)], .func (.func 11) #[] #[.pointer (some ⟨w4.heap.size, 0, none⟩)], .func (.func 13) #[] #[.pointer (some ⟨w4.heap.size, 0, none⟩)], .func (.func 15) #[] #[.pointer (some ⟨w4.heap.size, 0, none⟩)]] 1)).alloc (Obj.cells #[.bool true, .bool true, .bool false, .bool false] 4)) := (b8.block _ (Array.getElem?_eq_some_iff.1 HQ6.out.2).1).trans HQ6.out.2
  have HB8 : Hid (Below w.heap.size w ((w6.alloc (Obj.cells #[.func (.func 9) #[] #[.pointer (some ⟨w4.heap.size, 0, none⟩)], .func (.func 11) #[] #[.pointer (some ⟨w4.heap.size, 0, none⟩)], .func (.func 13) #[] #[.pointer (some ⟨w4.heap.size, 0, none⟩)], .func (.func 15) #[] #[.pointer (some ⟨w4.heap.size, 0, none⟩)]] 1)).alloc (Obj.cells #[.bool true, .bool true, .bool false, .bool false] 4))) := HB6.out.trans (b8.mono HB6.out.size)
  refine wp_loop_rounds 5 ?_
  generalize (w6.alloc (Obj.cells #[.func (.func 9) #[] #[.pointer (some ⟨w4.heap.size, 0, none⟩)], .func (.func 11) #[] #[.pointer (some ⟨w4.heap.size, 0, none⟩)], .func (.func 13) #[] #[.pointer (some ⟨w4.heap.size, 0, none⟩)], .func (.func 15) #[] #[.pointer (some ⟨w4.heap.size, 0, none⟩)]] 1)).alloc (Obj.cells #[.bool true, .bool true, .bool false, .bool false] 4) = w8 at m8 s8 b8 q8 c8 HB8 ⊢
  have HR8 : Hid (w8.heap[w6.heap.size]? = some (Obj.cells #[.func (.func 9) #[] #[.pointer (some ⟨w4.heap.size, 0, none⟩)], .func (.func 11) #[] #[.pointer (some ⟨w4.heap.size, 0, none⟩)], .func (.func 13) #[] #[.pointer (some ⟨w4.heap.size, 0, none⟩)], .func (.func 15) #[] #[.pointer (some ⟨w4.heap.size, 0, none⟩)]] 1) ∧ w8.heap[w6.heap.size + 1]? = some (Obj.cells #[.bool true, .bool true, .bool false, .bool false] 4) ∧ w8.heap[w4.heap.size]? = some (Obj.cells #[.iface T v, .pointer (some ⟨c, 0, none⟩), .pointer (some ⟨d, 0, none⟩)] 36) ∧ Core r h2 3 sh c w8) := ⟨m8, s8, q8, c8⟩
  clear m8 s8 b8 q8 c8 HQ6 x0 x0a x1 HB6 HA0 HA1 HA2 HA3
  have m_ : w8.cell? ⟨w6.heap.size, 0, none⟩ = some (.func (.func 9) #[] #[.pointer (some ⟨w4.heap.size, 0, none⟩)]) := by rw [cell_of_row _ _ 0 _ _ _ HR8.out.1]; rfl
  have s_ : w8.cell? ⟨w6.heap.size + 1, 0, none⟩ = some (.bool true) := by rw [cell_of_row _ _ 0 _ _ _ HR8.out.2.1]; rfl
  have HX : Hid (w8.cell? ⟨w4.heap.size, 0, none⟩ = some (.iface T v)) := by show _ = _; rw [cell_of_row _ _ 0 _ _ _ HR8.out.2.2.1]; rfl
  rw [rounds_succ]
  go_wp2_with fail
  refine (HT0.out _ HX.out).mono ?_
  rintro e w9 ⟨rfl, hb⟩
  have HR9 : Hid (w9.heap[w6.heap.size]? = some (Obj.cells #[.func (.func 9) #[] #[.pointer (some ⟨w4.heap.size, 0, none⟩)], .func (.func 11) #[] #[.pointer (some ⟨w4.heap.size, 0, none⟩)], .func (.func 13) #[] #[.pointer (some ⟨w4.heap.size, 0, none⟩)], .func (.func 15) #[] #[.pointer (some ⟨w4.heap.size, 0, none⟩)]] 1) ∧ w9.heap[w6.heap.size + 1]? = some (Obj.cells #[.bool true, .bool true, .bool false, .bool false] 4) ∧ w9.heap[w4.heap.size]? = some (Obj.cells #[.iface T v, .pointer (some ⟨c, 0, none⟩), .pointer (some ⟨d, 0, none⟩)] 36) ∧ Core r h2 3 sh c w9) :=
    ⟨(hb.block _ (Array.getElem?_eq_some_iff.1 HR8.out.1).1).trans HR8.out.1, (hb.block _ (Array.getElem?_eq_some_iff.1 HR8.out.2.1).1).trans HR8.out.2.1, (hb.block _ (Array.getElem?_eq_some_iff.1 HR8.out.2.2.1).1).trans HR8.out.2.2.1, (hb.block _ (Array.getElem?_eq_some_iff.1 HR8.out.2.2.2).1).trans HR8.out.2.2.2⟩
  have HB9 : Hid (Below w.heap.size w w9) := HB8.out.trans (hb.mono HB8.out.size)
  have s_ : w9.cell? ⟨w6.heap.size + 1, 0, none⟩ = some (.bool true) := by rw [cell_of_row _ _ 0 _ _ _ HR9.out.2.1]; rfl
  clear hb m_ HX HR8 HB8 HT0
  go_wp2_with fail
  clear s_
  have m_ : w9.cell? ⟨w6.heap.size, 1, none⟩ = some (.func (.func 11) #[] #[.pointer (some ⟨w4.heap.size, 0, none⟩)]) := by rw [cell_of_row _ _ 1 _ _ _ HR9.out.1]; rfl
  have s_ : w9.cell? ⟨w6.heap.size + 1, 1, none⟩ = some (.bool true) := by rw [cell_of_row _ _ 1 _ _ _ HR9.out.2.1]; rfl
  have HX : Hid (w9.cell? ⟨w4.heap.size, 0, none⟩ = some (.iface T v)) := by show _ = _; rw [cell_of_row _ _ 0 _ _ _ HR9.out.2.2.1]; rfl
  rw [rounds_succ]
  go_wp2_with fail
  refine (HT1.out _ HX.out).mono ?_
  rintro e w10 ⟨rfl, hb⟩
  have HR10 : Hid (w10.heap[w6.heap.size]? = some (Obj.cells #[.func (.func 9) #[] #[.pointer (some ⟨w4.heap.size, 0, none⟩)], .func (.func 11) #[] #[.pointer (some ⟨w4.heap.size, 0, none⟩)], .func (.func 13) #[] #[.pointer (some ⟨w4.heap.size, 0, none⟩)], .func (.func 15) #[] #[.pointer (some ⟨w4.heap.size, 0, none⟩)]] 1) ∧ w10.heap[w6.heap.size + 1]? = some (Obj.cells #[.bool true, .bool true, .bool false, .bool false] 4) ∧ w10.heap[w4.heap.size]? = some (Obj.cells #[.iface T v, .pointer (some ⟨c, 0, none⟩), .pointer (some ⟨d, 0, none⟩)] 36) ∧ Core r h2 3 sh c w10) :=
    ⟨(hb.block _ (Array.getElem?_eq_some_iff.1 HR9.out.1).1).trans HR9.out.1, (hb.block _ (Array.getElem?_eq_some_iff.1 HR9.out.2.1).1).trans HR9.out.2.1, (hb.block _ (Array.getElem?_eq_some_iff.1 HR9.out.2.2.1).1).trans HR9.out.2.2.1, (hb.block _ (Array.getElem?_eq_some_iff.1 HR9.out.2.2.2).1).trans HR9.out.2.2.2⟩
  have HB10 : Hid (Below w.heap.size w w10) := HB9.out.trans (hb.mono HB9.out.size)
  have s_ : w10.cell? ⟨w6.heap.size + 1, 1, none⟩ = some (.bool true) := by rw [cell_of_row _ _ 1 _ _ _ HR10.out.2.1]; rfl
  clear hb m_ HX HR9 HB9 HT1
  go_wp2_with fail
  clear s_
  have m_ : w10.cell? ⟨w6.heap.size, 2, none⟩ = some (.func (.func 13) #[] #[.pointer (some ⟨w4.heap.size, 0, none⟩)]) := by rw [cell_of_row _ _ 2 _ _ _ HR10.out.1]; rfl
  have s_ : w10.cell? ⟨w6.heap.size + 1, 2, none⟩ = some (.bool false) := by rw [cell_of_row _ _ 2 _ _ _ HR10.out.2.1]; rfl
  have HX : Hid (w10.cell? ⟨w4.heap.size, 0, none⟩ = some (.iface T v)) := by show _ = _; rw [cell_of_row _ _ 0 _ _ _ HR10.out.2.2.1]; rfl
  rw [rounds_succ]
  go_wp2_with fail
  refine (HT2.out _ HX.out).mono ?_
  rintro e w11 ⟨rfl, hb⟩
  have HR11 : Hid (w11.heap[w6.heap.size]? = some (Obj.cells #[.func (.func 9) #[] #[.pointer (some ⟨w4.heap.size, 0, none⟩)], .func (.func 11) #[] #[.pointer (some ⟨w4.heap.size, 0, none⟩)], .func (.func 13) #[] #[.pointer (some ⟨w4.heap.size, 0, none⟩)], .func (.func 15) #[] #[.pointer (some ⟨w4.heap.size, 0, none⟩)]] 1) ∧ w11.heap[w6.heap.size + 1]? = some (Obj.cells #[.bool true, .bool true, .bool false, .bool false] 4) ∧ w11.heap[w4.heap.size]? = some (Obj.cells #[.iface T v, .pointer (some ⟨c, 0, none⟩), .pointer (some ⟨d, 0, none⟩)] 36) ∧ Core r h2 3 sh c w11) :=
    ⟨(hb.block _ (Array.getElem?_eq_some_iff.1 HR10.out.1).1).trans HR10.out.1, (hb.block _ (Array.getElem?_eq_some_iff.1 HR10.out.2.1).1).trans HR10.out.2.1, (hb.block _ (Array.getElem?_eq_some_iff.1 HR10.out.2.2.1).1).trans HR10.out.2.2.1, (hb.block _ (Array.getElem?_eq_some_iff.1 HR10.out.2.2.2).1).trans HR10.out.2.2.2⟩
  have HB11 : Hid (Below w.heap.size w w11) := HB10.out.trans (hb.mono HB10.out.size)
  have s_ : w11.cell? ⟨w6.heap.size + 1, 2, none⟩ = some (.bool false) := by rw [cell_of_row _ _ 2 _ _ _ HR11.out.2.1]; rfl
  clear hb m_ HX HR10 HB10 HT2
  go_wp2_with fail
  clear s_
  have m_ : w11.cell? ⟨w6.heap.size, 3, none⟩ = some (.func (.func 15) #[] #[.pointer (some ⟨w4.heap.size, 0, none⟩)]) := by rw [cell_of_row _ _ 3 _ _ _ HR11.out.1]; rfl
  have s_ : w11.cell? ⟨w6.heap.size + 1, 3, none⟩ = some (.bool false) := by rw [cell_of_row _ _ 3 _ _ _ HR11.out.2.1]; rfl
  have HX : Hid (w11.cell? ⟨w4.heap.size, 0, none⟩ = some (.iface T v)) := by show _ = _; rw [cell_of_row _ _ 0 _ _ _ HR11.out.2.2.1]; rfl
  rw [rounds_succ]
  go_wp2_with fail
  refine (HT3.out _ HX.out).mono ?_
  rintro e w12 ⟨rfl, hb⟩
  have HR12 : Hid (w12.heap[w6.heap.size]? = some (Obj.cells #[.func (.func 9) #[] #[.pointer (some ⟨w4.heap.size, 0, none⟩)], .func (.func 11) #[] #[.pointer (some ⟨w4.heap.size, 0, none⟩)], .func (.func 13) #[] #[.pointer (some ⟨w4.heap.size, 0, none⟩)], .func (.func 15) #[] #[.pointer (some ⟨w4.heap.size, 0, none⟩)]] 1) ∧ w12.heap[w6.heap.size + 1]? = some (Obj.cells #[.bool true, .bool true, .bool false, .bool false] 4) ∧ w12.heap[w4.heap.size]? = some (Obj.cells #[.iface T v, .pointer (some ⟨c, 0, none⟩), .pointer (some ⟨d, 0, none⟩)] 36) ∧ Core r h2 3 sh c w12) :=
    ⟨(hb.block _ (Array.getElem?_eq_some_iff.1 HR11.out.1).1).trans HR11.out.1, (hb.block _ (Array.getElem?_eq_some_iff.1 HR11.out.2.1).1).trans HR11.out.2.1, (hb.block _ (Array.getElem?_eq_some_iff.1 HR11.out.2.2.1).1).trans HR11.out.2.2.1, (hb.block _ (Array.getElem?_eq_some_iff.1 HR11.out.2.2.2).1).trans HR11.out.2.2.2⟩
  have HB12 : Hid (Below w.heap.size w w12) := HB11.out.trans (hb.mono HB11.out.size)
  have s_ : w12.cell? ⟨w6.heap.size + 1, 3, none⟩ = some (.bool false) := by rw [cell_of_row _ _ 3 _ _ _ HR12.out.2.1]; rfl
  clear hb m_ HX HR11 HB11 HT3
  go_wp2_with fail
  clear s_
  have x0 : w12.cell? ⟨w4.heap.size, 0, none⟩ = some (.iface T v) := by rw [cell_of_row _ _ 0 _ _ _ HR12.out.2.2.1]; rfl
  have x1 : w12.cell? ⟨w4.heap.size, 1, none⟩ = some (.pointer (some ⟨c, 0, none⟩)) := by rw [cell_of_row _ _ 1 _ _ _ HR12.out.2.2.1]; rfl
  have HLC : Hid ((loadVar 70 ⟨c, 14, none⟩).run Tryz.prog w12 = .ok (.agg #[.int .i64 0, .int .i64 0, .int .i64 0, .int .i64 0, .int .i64 0, .int .i64 0, .int .i64 0, .int .i64 0, .int .i64 0]) w12) := calls_ld HR12.out.2.2.2
  have hq : ∀ W, (binOp .eql 70 (.agg #[.int .i64 0, .int .i64 0, .int .i64 0, .int .i64 0, .int .i64 0, .int .i64 0, .int .i64 0, .int .i64 0, .int .i64 0]) (.agg #[.int .i64 0, .int .i64 0, .int .i64 0, .int .i64 0, .int .i64 0, .int .i64 0, .int .i64 0, .int .i64 0, .int .i64 0])).run Tryz.prog W = .ok (.bool true) W := fun W => by kernel_rfl
  have hg : ∀ (x y : Operand) W, (eqGuard .eql 70 x y (.agg #[.int .i64 0, .int .i64 0, .int .i64 0, .int .i64 0, .int .i64 0, .int .i64 0, .int .i64 0, .int .i64 0, .int .i64 0]) (.agg #[.int .i64 0, .int .i64 0, .int .i64 0, .int .i64 0, .int .i64 0, .int .i64 0, .int .i64 0, .int .i64 0, .int .i64 0])).run Tryz.prog W = .ok () W := fun x y W => by kernel_rfl
  have hn : ∀ W, (binOp .neq 32 (.iface T v) .nilIface).run Tryz.prog W = .ok (.bool true) W := fun W => by kernel_rfl
  have hng : ∀ (x y : Operand) W, (eqGuard .neq 32 x y (.iface T v) .nilIface).run Tryz.prog W = .ok () W := fun x y W => by kernel_rfl
  clear HR12
  rw [rounds_succ]
  go_wp2_with (first | (go_at_call 22; refine (HAO.out _).mono ?_; rintro e w' ⟨rfl, rfl⟩) | (go_at_call 23; refine (HAT.out _).mono ?_; rintro e w' ⟨rfl, rfl⟩) | ((with_reducible refine ldr ?_ ?_ HLC.out ?_); rfl; rfl))
  go_ret
  exact ⟨rfl, HB12.out⟩

end Go.Proofs.YtbjjeleoimcboaaGreat

/- tenonlaw10.ObjectShown at a description of an object that has just the abilities of 4, 5, 6, 7. -/
namespace Go.Proofs.YtbjjeleoimcboaaGreat
open Go.RowKit

set_option maxRecDepth 100000 in
set_option maxHeartbeats 8000000 in
theorem Shown_4 (r : Sr) (h n sh : Int) (hk : fitM 16 n = 4) (hh : Hid (fitM 4 h = 0 ∨ fitM 4 h = 3)) (w : World) :
    Calls Tryz.prog 3 #[.agg (r.cs h n sh)] w fun e w' => e = .returned (.bool true) ∧ Below w.heap.size w w' := by
  have hmf : ∀ (fn : Fn) (first cap : Array Value) (w : World), (Instr.makeFunc fn first cap).run Tryz.prog w = .ok (.func fn first cap) w := fun _ _ _ _ => rfl
  have HLv : Hid (∀ W, Calls Tryz.prog 4 #[] W fun e w' => e = .returned (.bool true) ∧ Below W.heap.size W w') := lives_any
  have HF : Hid (∀ W, Calls Tryz.prog 5 #[.agg (r.cs h n sh)] W fun e w' => e = .returned (.agg (r.cs (fitM 4 h) (fitM 16 n) sh)) ∧ Below W.heap.size W w') := fun W => Fit_any r h n sh W
  have Hh : Hid (0 ≤ fitM 4 h ∧ fitM 4 h < 4) := (fitM_eq 4 h (by decide) (by decide)).1
  generalize fitM 4 h = h' at HF Hh hh
  rw [hk] at HF
  clear hk
  have HA : Hid (∀ o, (w.alloc o).heap[w.heap.size]? = some o) := fun o => heap_alloc_last w o
  go_enter Tryz.func3, Tryz.ntmps3
  unfold Sr.cs
  go_wp2_with fail
  show Calls Tryz.prog _ _ (w.alloc (.cells (r.cs h n sh) 28)) _
  refine (HLv.out _).mono ?_
  rintro e w1 ⟨rfl, hb1⟩
  have k1 := (hb1.block w.heap.size (by simp)).trans (HA.out _)
  have HB1 : Hid (Below w.heap.size w w1) := ((Below.refl _ _).alloc (Nat.le_refl _) _).trans (hb1.mono (by simp))
  have HLD1 : Hid ((loadVar 28 ⟨w.heap.size, 0, none⟩).run Tryz.prog w1 = .ok (.agg (r.cs h n sh)) w1) := sp_ld r h n sh k1
  have HZ1 : Hid (w.heap.size < w1.heap.size) := (Array.getElem?_eq_some_iff.1 k1).1
  clear hb1
  go_wp2_with ((with_reducible refine ldr ?_ ?_ HLD1.out ?_); rfl; rfl)
  refine (HF.out _).mono ?_
  rintro e w2 ⟨rfl, hb2⟩
  have k2 := (hb2.block w.heap.size HZ1.out).trans k1
  have HB2 : Hid (Below w.heap.size w w2) := HB1.out.trans (hb2.mono HB1.out.size)
  have HST : Hid ((storeVar 28 ⟨w.heap.size, 0, none⟩ (.agg (r.cs h' 4 sh))).run Tryz.prog w2 = .ok () (w2.setRow w.heap.size (r.cs h' 4 sh))) := sp_st r h' 4 sh k2 rfl
  have k3 := setRow_heap _ _ _ (r.cs h' 4 sh) _ _ k2
  have HB3 : Hid (Below w.heap.size w (w2.setRow w.heap.size (r.cs h' 4 sh))) := HB2.out.trans ⟨rfl, rfl, rfl, by rw [setRow_size]; exact Nat.le_refl _, fun k hk => setRow_other _ _ _ _ (by omega)⟩
  generalize w2.setRow w.heap.size (r.cs h' 4 sh) = w3 at HST k3 HB3
  have HZ3 : Hid (w.heap.size < w3.heap.size) := (Array.getElem?_eq_some_iff.1 k3).1
  have HLD3 : Hid ((loadVar 28 ⟨w.heap.size, 0, none⟩).run Tryz.prog w3 = .ok (.agg (r.cs h' 4 sh)) w3) := sp_ld r h' 4 sh k3
  clear hb2 k1 k2 HB1 HB2 HLD1 HZ1 HF HLv HA
  go_wp2_with (first | ((with_reducible refine str ?_ ?_ ?_ HST.out ?_); rfl; rfl; rfl) | ((with_reducible refine ldr ?_ ?_ HLD3.out ?_); rfl; rfl))
  refine (made_any r h' 4 sh w3).mono ?_
  rintro e w4 ⟨h2, n2, o, c, d, rfl, hb4, _, _, eh, en, hO⟩
  obtain rfl := eh Hh.out.1 Hh.out.2
  have e2 : n2 = 4 := by have := en (by omega) (by omega); omega
  subst e2
  have k4 := (hb4.block w.heap.size HZ3.out).trans k3
  have HB4 : Hid (Below w.heap.size w w4) := HB3.out.trans (hb4.mono HB3.out.size)
  have HZ4 : Hid (w.heap.size < w4.heap.size) := (Array.getElem?_eq_some_iff.1 k4).1
  clear hb4 k3 HB3 HLD3 HZ3 HST eh en
  obtain ⟨T, v, rfl, hA, hT, hC⟩ : ∃ T v, o = .iface T v ∧ Ab T 4 ∧ T ≠ 66 ∧ Core r h2 4 sh c w4 := by
    rcases hO with ⟨h, _⟩ | ⟨h, _⟩ | ⟨_, h⟩
    · have := hh.out; omega
    · have := hh.out; omega
    · exact h
  have hs : Sm T v := .inr hT
  have HAb : Hid (∀ W, Calls Tryz.prog 7 #[.iface T v] W fun e w' => e = .returned (.tuple #[.int .i64 4, .int .i64 0]) ∧ W = w') := fun W => Abilities_any hA (by decide) hs W
  have HA0 : Hid (∀ W, Calls Tryz.prog 17 #[.iface T v] W fun e w' => e = .returned (.tuple #[.nilIface, .bool false]) ∧ W = w') := fun W => As_Versioned hA hs W
  have HT0 : Hid (∀ W : World, W.cell? ⟨w4.heap.size, 0, none⟩ = some (.iface T v) → Calls Tryz.prog 21 #[.func (.func 9) #[] #[.pointer (some ⟨w4.heap.size, 0, none⟩)]] W fun e w' => e = .returned (.tuple #[.int .i64 1, .int .i64 9]) ∧ Below W.heap.size W w') := fun W h => Try_musts_0 hA v _ W h
  have HA1 : Hid (∀ W, Calls Tryz.prog 18 #[.iface T v] W fun e w' => e = .returned (.tuple #[.nilIface, .bool false]) ∧ W = w') := fun W => As_Indexed hA hs W
  have HT1 : Hid (∀ W : World, W.cell? ⟨w4.heap.size, 0, none⟩ = some (.iface T v) → Calls Tryz.prog 21 #[.func (.func 11) #[] #[.pointer (some ⟨w4.heap.size, 0, none⟩)]] W fun e w' => e = .returned (.tuple #[.int .i64 1, .int .i64 9]) ∧ Below W.heap.size W w') := fun W h => Try_musts_1 hA v _ W h
  have HA2 : Hid (∀ W, Calls Tryz.prog 19 #[.iface T v] W fun e w' => e = .returned (.tuple #[.iface T v, .bool true]) ∧ W = w') := fun W => As_Owned hA hs W
  have HT2 : Hid (∀ W : World, W.cell? ⟨w4.heap.size, 0, none⟩ = some (.iface T v) → Calls Tryz.prog 21 #[.func (.func 13) #[] #[.pointer (some ⟨w4.heap.size, 0, none⟩)]] W fun e w' => e = .returned (.tuple #[.int .i64 0, .int .i64 0]) ∧ Below W.heap.size W w') := fun W h => Try_musts_2 hA v _ W h
  have HA3 : Hid (∀ W, Calls Tryz.prog 20 #[.iface T v] W fun e w' => e = .returned (.tuple #[.nilIface, .bool false]) ∧ W = w') := fun W => As_Lazy hA hs W
  have HT3 : Hid (∀ W : World, W.cell? ⟨w4.heap.size, 0, none⟩ = some (.iface T v) → Calls Tryz.prog 21 #[.func (.func 15) #[] #[.pointer (some ⟨w4.heap.size, 0, none⟩)]] W fun e w' => e = .returned (.tuple #[.int .i64 1, .int .i64 9]) ∧ Below W.heap.size W w') := fun W h => Try_musts_3 hA v _ W h
  have HAO : Hid (∀ W, Calls Tryz.prog 22 #[.iface T v] W fun e w' => e = .returned (.tuple #[.iface T v, .bool true]) ∧ W = w') := fun W => As_Object hA hs W
  have HAT : Hid (∀ W, Calls Tryz.prog 23 #[.iface T v] W fun e w' => e = .returned (.tuple #[.pointer none, .bool false]) ∧ W = w') := fun W => As_Thing hT v W
  have HNi : Hid (∀ W, Calls Tryz.prog 8 #[.agg (r.cs h2 4 sh)] W fun e w' => e = .returned (.bool false) ∧ Below W.heap.size W w') := fun W => Nil_no r h2 4 sh (by have := hh.out; simp; omega) (by have := hh.out; simp; omega) W
  have HLD5 : Hid ((loadVar 28 ⟨w.heap.size, 0, none⟩).run Tryz.prog (w4.alloc (Obj.cells #[.iface T v, .pointer (some ⟨c, 0, none⟩), .pointer (some ⟨d, 0, none⟩)] 36)) = .ok (.agg (r.cs h2 4 sh)) (w4.alloc (Obj.cells #[.iface T v, .pointer (some ⟨c, 0, none⟩), .pointer (some ⟨d, 0, none⟩)] 36))) := sp_ld r h2 4 sh ((Below.heap_alloc _ _ _ HZ4.out).trans k4)
  have HB5 : Hid (Below w.heap.size w (w4.alloc (Obj.cells #[.iface T v, .pointer (some ⟨c, 0, none⟩), .pointer (some ⟨d, 0, none⟩)] 36))) := HB4.out.alloc HB4.out.size _
  have k5 := (Below.heap_alloc w4 (Obj.cells #[.iface T v, .pointer (some ⟨c, 0, none⟩), .pointer (some ⟨d, 0, none⟩)] 36) _ HZ4.out).trans k4
  have q5 : (w4.alloc (Obj.cells #[.iface T v, .pointer (some ⟨c, 0, none⟩), .pointer (some ⟨d, 0, none⟩)] 36)).heap[w4.heap.size]? = some (Obj.cells #[.iface T v, .pointer (some ⟨c, 0, none⟩), .pointer (some ⟨d, 0, none⟩)] 36) := heap_alloc_last _ _
  have c5 : Core r h2 4 sh c (w4.alloc (Obj.cells #[.iface T v, .pointer (some ⟨c, 0, none⟩), .pointer (some ⟨d, 0, none⟩)] 36)) := (Below.heap_alloc w4 (Obj.cells #[.iface T v, .pointer (some ⟨c, 0, none⟩), .pointer (some ⟨d, 0, none⟩)] 36) _ (Array.getElem?_eq_some_iff.1 hC).1).trans hC
  clear k4 hO hC hA hT hs hh
  go_wp2_with (first | (go_at_call 7; refine (HAb.out _).mono ?_; rintro e w' ⟨rfl, rfl⟩) | ((with_reducible refine ldr ?_ ?_ HLD5.out ?_); rfl; rfl))
  refine (HNi.out _).mono ?_
  rintro e w6 ⟨rfl, hb6⟩
  have HB6 : Hid (Below w.heap.size w w6) := HB5.out.trans (hb6.mono HB5.out.size)
  have k6 := (hb6.block _ (Array.getElem?_eq_some_iff.1 k5).1).trans k5
  have q6 := (hb6.block _ (Array.getElem?_eq_some_iff.1 q5).1).trans q5
  have c6 : Core r h2 4 sh c w6 := (hb6.block _ (Array.getElem?_eq_some_iff.1 c5).1).trans c5
  have x1 : w6.cell? ⟨w.heap.size, 1, none⟩ = some (.int .i64 4) := by rw [cell_of_row _ _ 1 _ _ _ k6]; rfl
  have x0 : w6.cell? ⟨w4.heap.size, 0, none⟩ = some (.iface T v) := by rw [cell_of_row _ _ 0 _ _ _ q6]; rfl
  have x0a : ∀ X, (w6.alloc X).cell? ⟨w4.heap.size, 0, none⟩ = some (.iface T v) := fun X => by rw [((Below.refl w6.heap.size w6).alloc (Nat.le_refl _) X).cell (p := ⟨w4.heap.size, 0, none⟩) (World.block_lt_of_cell? _ _ x0)]; exact x0
  have HQ6 : Hid (w6.heap[w4.heap.size]? = some (Obj.cells #[.iface T v, .pointer (some ⟨c, 0, none⟩), .pointer (some ⟨d, 0, none⟩)] 36) ∧ Core r h2 4 sh c w6) := ⟨q6, c6⟩
  clear hb6 k5 q5 c5 k6 q6 c6 HLD5 HNi HAb HB5
  go_wp2_with (first | (go_at_call 17; refine (HA0.out _).mono ?_; rintro e w' ⟨rfl, rfl⟩) | (go_at_call 18; refine (HA1.out _).mono ?_; rintro e w' ⟨rfl, rfl⟩) | (go_at_call 19; refine (HA2.out _).mono ?_; rintro e w' ⟨rfl, rfl⟩) | (go_at_call 20; refine (HA3.out _).mono ?_; rintro e w' ⟨rfl, rfl⟩))
  have m8 : ((w6.alloc (Obj.cells #[.func (.func 9) #[] #[.pointer (some ⟨w4.heap.size, 0, none⟩)], .func (.func 11) #[] #[.pointer (some ⟨w4.heap.size, 0, none⟩)], .func (.func 13) #[] #[.pointer (some ⟨w4.heap.size, 0, none⟩)], .func (.func 15) #[] #[.pointer (some ⟨w4.heap.size, 0, none⟩)]] 1)).alloc (Obj.cells #[.bool false, .bool false, .bool true, .bool false] 4)).heap[w6.heap.size]? = some (Obj.cells #[.func (.func 9) #[] #[.pointer (some ⟨w4.heap.size, 0, none⟩)], .func (.func 11) #[] #[.pointer (some ⟨w4.heap.size, 0, none⟩)], .func (.func 13) #[] #[.pointer (some ⟨w4.heap.size, 0, none⟩)], .func (.func 15) #[] #[.pointer (some ⟨w4.heap.size, 0, none⟩)]] 1) := al2_old _ _ _
  have s8 : ((w6.alloc (Obj.cells #[.func (.func 9) #[] #[.pointer (some ⟨w4.heap.size, 0, none⟩)], .func (.func 11) #[] #[.pointer (some ⟨w4.heap.size, 0, none⟩)], .func (.func 13) #[] #[.pointer (some ⟨w4.heap.size, 0, none⟩)], .func (.func 15) #[] #[.pointer (some ⟨w4.heap.size, 0, none⟩)]] 1)).alloc (Obj.cells #[.bool false, .bool false, .bool true, .bool false] 4)).heap[w6.heap.size + 1]? = some (Obj.cells #[.bool false, .bool false, .bool true, .bool false] 4) := al2_new _ _ _
  have b8 : Below w6.heap.size w6 ((w6.alloc (Obj.cells #[.func (.func 9) #[] #[.pointer (some ⟨w4.heap.size, 0, none⟩)], .func (.func 11) #[] #[.pointer (some ⟨w4.heap.size, 0, none⟩)], .func (.func 13) #[] #[.pointer (some ⟨w4.heap.size, 0, none⟩)], .func (.func 15) #[] #[.pointer (some ⟨w4.heap.size, 0, none⟩)]] 1)).alloc (Obj.cells #[.bool false, .bool false, .bool true, .bool false] 4)) := ((Below.refl _ _).alloc (Nat.le_refl _) _).alloc (by simp) _
  have q8 := (b8.block _ (Array.getElem?_eq_some_iff.1 HQ6.out.1).1).trans HQ6.out.1
  have c8 : Core r h2 4 sh c ((w6.alloc (Obj.cells #[.func (.func 9) #[] #[.pointer (some ⟨w4.heap.size, 0, none⟩)], .func (.func 11) #[] #[.pointer (some ⟨w4.heap.size, 0, none⟩)], .func (.func 13) #[] #[.pointer (some ⟨w4.heap.size, 0, none⟩)], .func (.func 15) #[] #[.pointer (some ⟨w4.heap.size, 0, none⟩)]] 1)).alloc (Obj.cells #[.bool false, .bool false, .bool true, .bool false] 4)) := (b8.block _ (Array.getElem?_eq_some_iff.1 HQ6.out.2).1).trans HQ6.out.2
  have HB8 : Hid (Below w.heap.size w ((w6.alloc (Obj.cells #[.func (.func 9) #[] #[.pointer (some ⟨w4.heap.size, 0, none⟩)], .func (.func 11) #[] #[.pointer (some ⟨w4.heap.size, 0, none⟩)], .func (.func 13) #[] #[.pointer (some ⟨w4.heap.size, 0, none⟩)], .func (.func 15) #[] #[.pointer (some ⟨w4.heap.size, 0, none⟩)]] 1)).alloc (Obj.cells #[.bool false, .bool false, .bool true, .bool false] 4))) := HB6.out.trans (b8.mono HB6.out.size)
  refine wp_loop_rounds 5 ?_
  generalize (w6.alloc (Obj.cells #[.func (.func 9) #[] #[.pointer (some ⟨w4.heap.size, 0, none⟩)], .func (.func 11) #[] #[.pointer (some ⟨w4.heap.size, 0, none⟩)], .func (.func 13) #[] #[.pointer (some ⟨w4.heap.size, 0, none⟩)], .func (.func 15) #[] #[.pointer (some ⟨w4.heap.size, 0, none⟩)]] 1)).alloc (Obj.cells #[.bool false, .bool false, .bool true, .bool false] 4) = w8 at m8 s8 b8 q8 c8 HB8 ⊢
  have HR8 : Hid (w8.heap[w6.heap.size]? = some (Obj.cells #[.func (.func 9) #[] #[.pointer (some ⟨w4.heap.size, 0, none⟩)], .func (.func 11) #[] #[.pointer (some ⟨w4.heap.size, 0, none⟩)], .func (.func 13) #[] #[.pointer (some ⟨w4.heap.size, 0, none⟩)], .func (.func 15) #[] #[.pointer (some ⟨w4.heap.size, 0, none⟩)]] 1) ∧ w8.heap[w6.heap.size + 1]? = some (Obj.cells #[.bool false, .bool false, .bool true, .bool false] 4) ∧ w8.heap[w4.heap.size]? = some (Obj.cells #[.iface T v, .pointer (some ⟨c, 0, none⟩), .pointer (some ⟨d, 0, none⟩)] 36) ∧ Core r h2 4 sh c w8) := ⟨m8, s8, q8, c8⟩
  clear m8 s8 b8 q8 c8 HQ6 x0 x0a x1 HB6 HA0 HA1 HA2 HA3
  have m_ : w8.cell? ⟨w6.heap.size, 0, none⟩ = some (.func (.func 9) #[] #[.pointer (some ⟨w4.heap.size, 0, none⟩)]) := by rw [cell_of_row _ _ 0 _ _ _ HR8.out.1]; rfl
  have s_ : w8.cell? ⟨w6.heap.size + 1, 0, none⟩ = some (.bool false) := by rw [cell_of_row _ _ 0 _ _ _ HR8.out.2.1]; rfl
  have HX : Hid (w8.cell? ⟨w4.heap.size, 0, none⟩ = some (.iface T v)) := by show _ = _; rw [cell_of_row _ _ 0 _ _ _ HR8.out.2.2.1]; rfl
  rw [rounds_succ]
  go_wp2_with fail
  refine (HT0.out _ HX.out).mono ?_
  rintro e w9 ⟨rfl, hb⟩
  have HR9 : Hid (w9.heap[w6.heap.size]? = some (Obj.cells #[.func (.func 9) #[] #[.pointer (some ⟨w4.heap.size, 0, none⟩)], .func (.func 11) #[] #[.pointer (some ⟨w4.heap.size, 0, none⟩)], .func (.func 13) #[] #[.pointer (some ⟨w4.heap.size, 0, none⟩)], .func (.func 15) #[] #[.pointer (some ⟨w4.heap.size, 0, none⟩)]] 1) ∧ w9.heap[w6.heap.size + 1]? = some (Obj.cells #[.bool false, .bool false, .bool true, .bool false] 4) ∧ w9.heap[w4.heap.size]? = some (Obj.cells #[.iface T v, .pointer (some ⟨c, 0, none⟩), .pointer (some ⟨d, 0, none⟩)] 36) ∧ Core r h2 4 sh c w9) :=
    ⟨(hb.block _ (Array.getElem?_eq_some_iff.1 HR8.out.1).1).trans HR8.out.1, (hb.block _ (Array.getElem?_eq_some_iff.1 HR8.out.2.1).1).trans HR8.out.2.1, (hb.block _ (Array.getElem?_eq_some_iff.1 HR8.out.2.2.1).1).trans HR8.out.2.2.1, (hb.block _ (Array.getElem?_eq_some_iff.1 HR8.out.2.2.2).1).trans HR8.out.2.2.2⟩
  have HB9 : Hid (Below w.heap.size w w9) := HB8.out.trans (hb.mono HB8.out.size)
  have s_ : w9.cell? ⟨w6.heap.size + 1, 0, none⟩ = some (.bool false) := by rw [cell_of_row _ _ 0 _ _ _ HR9.out.2.1]; rfl
  clear hb m_ HX HR8 HB8 HT0
  go_wp2_with fail
  clear s_
  have m_ : w9.cell? ⟨w6.heap.size, 1, none⟩ = some (.func (.func 11) #[] #[.pointer (some ⟨w4.heap.size, 0, none⟩)]) := by rw [cell_of_row _ _ 1 _ _ _ HR9.out.1]; rfl
  have s_ : w9.cell? ⟨w6.heap.size + 1, 1, none⟩ = some (.bool false) := by rw [cell_of_row _ _ 1 _ _ _ HR9.out.2.1]; rfl
  have HX : Hid (w9.cell? ⟨w4.heap.size, 0, none⟩ = some (.iface T v)) := by show _ = _; rw [cell_of_row _ _ 0 _ _ _ HR9.out.2.2.1]; rfl
  rw [rounds_succ]
  go_wp2_with fail
  refine (HT1.out _ HX.out).mono ?_
  rintro e w10 ⟨rfl, hb⟩
  have HR10 : Hid (w10.heap[w6.heap.size]? = some (Obj.cells #[.func (.func 9) #[] #[.pointer (some ⟨w4.heap.size, 0, none⟩)], .func (.func 11) #[] #[.pointer (some ⟨w4.heap.size, 0, none⟩)], .func (.func 13) #[] #[.pointer (some ⟨w4.heap.size, 0, none⟩)], .func (.func 15) #[] #[.pointer (some ⟨w4.heap.size, 0, none⟩)]] 1) ∧ w10.heap[w6.heap.size + 1]? = some (Obj.cells #[.bool false, .bool false, .bool true, .bool false] 4) ∧ w10.heap[w4.heap.size]? = some (Obj.cells #[.iface T v, .pointer (some ⟨c, 0, none⟩), .pointer (some ⟨d, 0, none⟩)] 36) ∧ Core r h2 4 sh c w10) :=
    ⟨(hb.block _ (Array.getElem?_eq_some_iff.1 HR9.out.1).1).trans HR9.out.1, (hb.block _ (Array.getElem?_eq_some_iff.1 HR9.out.2.1).1).trans HR9.out.2.1, (hb.block _ (Array.getElem?_eq_some_iff.1 HR9.out.2.2.1).1).trans HR9.out.2.2.1, (hb.block _ (Array.getElem?_eq_some_iff.1 HR9.out.2.2.2).1).trans HR9.out.2.2.2⟩
  have HB10 : Hid (Below w.heap.size w w10) := HB9.out.trans (hb.mono HB9.out.size)
  have s_ : w10.cell? ⟨w6.heap.size + 1, 1, none⟩ = some (.bool false) := by rw [cell_of_row _ _ 1 _ _ _ HR10.out.2.1]; rfl
  clear hb m_ HX HR9 HB9 HT1
  go_wp2_with fail
  clear s_
  have m_ : w10.cell? ⟨w6.heap.size, 2, none⟩ = some (.func (.func 13) #[] #[.pointer (some ⟨w4.heap.size, 0, none⟩)]) := by rw [cell_of_row _ _ 2 _ _ _ HR10.out.1]; rfl
  have s_ : w10.cell? ⟨w6.heap.size + 1, 2, none⟩ = some (.bool true) := by rw [cell_of_row _ _ 2 _ _ _ HR10.out.2.1]; rfl
  have HX : Hid (w10.cell? ⟨w4.heap.size, 0, none⟩ = some (.iface T v)) := by show _ = _; rw [cell_of_row _ _ 0 _ _ _ HR10.out.2.2.1]; rfl
  rw [rounds_succ]
  go_wp2_with fail
  refine (HT2.out _ HX.out).mono ?_
  rintro e w11 ⟨rfl, hb⟩
  have HR11 : Hid (w11.heap[w6.heap.size]? = some (Obj.cells #[.func (.func 9) #[] #[.pointer (some ⟨w4.heap.size, 0, none⟩)], .func (.func 11) #[] #[.pointer (some ⟨w4.heap.size, 0, none⟩)], .func (.func 13) #[] #[.pointer (some ⟨w4.heap.size, 0, none⟩)], .func (.func 15) #[] #[.pointer (some ⟨w4.heap.size, 0, none⟩)]] 1) ∧ w11.heap[w6.heap.size + 1]? = some (Obj.cells #[.bool false, .bool false, .bool true, .bool false] 4) ∧ w11.heap[w4.heap.size]? = some (Obj.cells #[.iface T v, .pointer (some ⟨c, 0, none⟩), .pointer (some ⟨d, 0, none⟩)] 36) ∧ Core r h2 4 sh c w11) :=
    ⟨(hb.block _ (Array.getElem?_eq_some_iff.1 HR10.out.1).1).trans HR10.out.1, (hb.block _ (Array.getElem?_eq_some_iff.1 HR10.out.2.1).1).trans HR10.out.2.1, (hb.block _ (Array.getElem?_eq_some_iff.1 HR10.out.2.2.1).1).trans HR10.out.2.2.1, (hb.block _ (Array.getElem?_eq_some_iff.1 HR10.out.2.2.2).1).trans HR10.out.2.2.2⟩
  have HB11 : Hid (Below w.heap.size w w11) := HB10.out.trans (hb.mono HB10.out.size)
  have s_ : w11.cell? ⟨w6.heap.size + 1, 2, none⟩ = some (.bool true) := by rw [cell_of_row _ _ 2 _ _ _ HR11.out.2.1]; rfl
  clear hb m_ HX HR10 HB10 HT2
  go_wp2_with fail
  clear s_
  have m_ : w11.cell? ⟨w6.heap.size, 3, none⟩ = some (.func (.func 15) #[] #[.pointer (some ⟨w4.heap.size, 0, none⟩)]) := by rw [cell_of_row _ _ 3 _ _ _ HR11.out.1]; rfl
  have s_ : w11.cell? ⟨w6.heap.size + 1, 3, none⟩ = some (.bool false) := by rw [cell_of_row _ _ 3 _ _ _ HR11.out.2.1]; rfl
  have HX : Hid (w11.cell? ⟨w4.heap.size, 0, none⟩ = some (.iface T v)) := by show _ = _; rw [cell_of_row _ _ 0 _ _ _ HR11.out.2.2.1]; rfl
  rw [rounds_succ]
  go_wp2_with fail
  refine (HT3.out _ HX.out).mono ?_
  rintro e w12 ⟨rfl, hb⟩
  have HR12 : Hid (w12.heap[w6.heap.size]? = some (Obj.cells #[.func (.func 9) #[] #[.pointer (some ⟨w4.heap.size, 0, none⟩)], .func (.func 11) #[] #[.pointer (some ⟨w4.heap.size, 0, none⟩)], .func (.func 13) #[] #[.pointer (some ⟨w4.heap.size, 0, none⟩)], .func (.func 15) #[] #[.pointer (some ⟨w4.heap.size, 0, none⟩)]] 1) ∧ w12.heap[w6.heap.size + 1]? = some (Obj.cells #[.bool false, .bool false, .bool true, .bool false] 4) ∧ w12.heap[w4.heap.size]? = some (Obj.cells #[.iface T v, .pointer (some ⟨c, 0, none⟩), .pointer (some ⟨d, 0, none⟩)] 36) ∧ Core r h2 4 sh c w12) :=
    ⟨(hb.block _ (Array.getElem?_eq_some_iff.1 HR11.out.1).1).trans HR11.out.1, (hb.block _ (Array.getElem?_eq_some_iff.1 HR11.out.2.1).1).trans HR11.out.2.1, (hb.block _ (Array.getElem?_eq_some_iff.1 HR11.out.2.2.1).1).trans HR11.out.2.2.1, (hb.block _ (Array.getElem?_eq_some_iff.1 HR11.out.2.2.2).1).trans HR11.out.2.2.2⟩
  have HB12 : Hid (Below w.heap.size w w12) := HB11.out.trans (hb.mono HB11.out.size)
  have s_ : w12.cell? ⟨w6.heap.size + 1, 3, none⟩ = some (.bool false) := by rw [cell_of_row _ _ 3 _ _ _ HR12.out.2.1]; rfl
  clear hb m_ HX HR11 HB11 HT3
  go_wp2_with fail
  clear s_
  have x0 : w12.cell? ⟨w4.heap.size, 0, none⟩ = some (.iface T v) := by rw [cell_of_row _ _ 0 _ _ _ HR12.out.2.2.1]; rfl
  have x1 : w12.cell? ⟨w4.heap.size, 1, none⟩ = some (.pointer (some ⟨c, 0, none⟩)) := by rw [cell_of_row _ _ 1 _ _ _ HR12.out.2.2.1]; rfl
  have HLC : Hid ((loadVar 70 ⟨c, 14, none⟩).run Tryz.prog w12 = .ok (.agg #[.int .i64 0, .int .i64 0, .int .i64 0, .int .i64 0, .int .i64 0, .int .i64 0, .int .i64 0, .int .i64 0, .int .i64 0]) w12) := calls_ld HR12.out.2.2.2
  have hq : ∀ W, (binOp .eql 70 (.agg #[.int .i64 0, .int .i64 0, .int .i64 0, .int .i64 0, .int .i64 0, .int .i64 0, .int .i64 0, .int .i64 0, .int .i64 0]) (.agg #[.int .i64 0, .int .i64 0, .int .i64 0, .int .i64 0, .int .i64 0, .int .i64 0, .int .i64 0, .int .i64 0, .int .i64 0])).run Tryz.prog W = .ok (.bool true) W := fun W => by kernel_rfl
  have hg : ∀ (x y : Operand) W, (eqGuard .eql 70 x y (.agg #[.int .i64 0, .int .i64 0, .int .i64 0, .int .i64 0, .int .i64 0, .int .i64 0, .int .i64 0, .int .i64 0, .int .i64 0]) (.agg #[.int .i64 0, .int .i64 0, .int .i64 0, .int .i64 0, .int .i64 0, .int .i64 0, .int .i64 0, .int .i64 0, .int .i64 0])).run Tryz.prog W = .ok () W := fun x y W => by kernel_rfl
  have hn : ∀ W, (binOp .neq 32 (.iface T v) .nilIface).run Tryz.prog W = .ok (.bool true) W := fun W => by kernel_rfl
  have hng : ∀ (x y : Operand) W, (eqGuard .neq 32 x y (.iface T v) .nilIface).run Tryz.prog W = .ok () W := fun x y W => by kernel_rfl
  clear HR12
  rw [rounds_succ]
  go_wp2_with (first | (go_at_call 22; refine (HAO.out _).mono ?_; rintro e w' ⟨rfl, rfl⟩) | (go_at_call 23; refine (HAT.out _).mono ?_; rintro e w' ⟨rfl, rfl⟩) | ((with_reducible refine ldr ?_ ?_ HLC.out ?_); rfl; rfl))
  go_ret
  exact ⟨rfl, HB12.out⟩

set_option maxRecDepth 100000 in
set_option maxHeartbeats 8000000 in
theorem Shown_5 (r : Sr) (h n sh : Int) (hk : fitM 16 n = 5) (hh : Hid (fitM 4 h = 0 ∨ fitM 4 h = 3)) (w : World) :
    Calls Tryz.prog 3 #[.agg (r.cs h n sh)] w fun e w' => e = .returned (.bool true) ∧ Below w.heap.size w w' := by
  have hmf : ∀ (fn : Fn) (first cap : Array Value) (w : World), (Instr.makeFunc fn first cap).run Tryz.prog w = .ok (.func fn first cap) w := fun _ _ _ _ => rfl
  have HLv : Hid (∀ W, Calls Tryz.prog 4 #[] W fun e w' => e = .returned (.bool true) ∧ Below W.heap.size W w') := lives_any
  have HF : Hid (∀ W, Calls Tryz.prog 5 #[.agg (r.cs h n sh)] W fun e w' => e = .returned (.agg (r.cs (fitM 4 h) (fitM 16 n) sh)) ∧ Below W.heap.size W w') := fun W => Fit_any r h n sh W
  have Hh : Hid (0 ≤ fitM 4 h ∧ fitM 4 h < 4) := (fitM_eq 4 h (by decide) (by decide)).1
  generalize fitM 4 h = h' at HF Hh hh
  rw [hk] at HF
  clear hk
  have HA : Hid (∀ o, (w.alloc o).heap[w.heap.size]? = some o) := fun o => heap_alloc_last w o
  go_enter Tryz.func3, Tryz.ntmps3
  unfold Sr.cs
  go_wp2_with fail
  show Calls Tryz.prog _ _ (w.alloc (.cells (r.cs h n sh) 28)) _
  refine (HLv.out _).mono ?_
  rintro e w1 ⟨rfl, hb1⟩
  have k1 := (hb1.block w.heap.size (by simp)).trans (HA.out _)
  have HB1 : Hid (Below w.heap.size w w1) := ((Below.refl _ _).alloc (Nat.le_refl _) _).trans (hb1.mono (by simp))
  have HLD1 : Hid ((loadVar 28 ⟨w.heap.size, 0, none⟩).run Tryz.prog w1 = .ok (.agg (r.cs h n sh)) w1) := sp_ld r h n sh k1
  have HZ1 : Hid (w.heap.size < w1.heap.size) := (Array.getElem?_eq_some_iff.1 k1).1
  clear hb1
  go_wp2_with ((with_reducible refine ldr ?_ ?_ HLD1.out ?_); rfl; rfl)
  refine (HF.out _).mono ?_
  rintro e w2 ⟨rfl, hb2⟩
  have k2 := (hb2.block w.heap.size HZ1.out).trans k1
  have HB2 : Hid (Below w.heap.size w w2) := HB1.out.trans (hb2.mono HB1.out.size)
  have HST : Hid ((storeVar 28 ⟨w.heap.size, 0, none⟩ (.agg (r.cs h' 5 sh))).run Tryz.prog w2 = .ok () (w2.setRow w.heap.size (r.cs h' 5 sh))) := sp_st r h' 5 sh k2 rfl
  have k3 := setRow_heap _ _ _ (r.cs h' 5 sh) _ _ k2
  have HB3 : Hid (Below w.heap.size w (w2.setRow w.heap.size (r.cs h' 5 sh))) := HB2.out.trans ⟨rfl, rfl, rfl, by rw [setRow_size]; exact Nat.le_refl _, fun k hk => setRow_other _ _ _ _ (by omega)⟩
  generalize w2.setRow w.heap.size (r.cs h' 5 sh) = w3 at HST k3 HB3
  have HZ3 : Hid (w.heap.size < w3.heap.size) := (Array.getElem?_eq_some_iff.1 k3).1
  have HLD3 : Hid ((loadVar 28 ⟨w.heap.size, 0, none⟩).run Tryz.prog w3 = .ok (.agg (r.cs h' 5 sh)) w3) := sp_ld r h' 5 sh k3
  clear hb2 k1 k2 HB1 HB2 HLD1 HZ1 HF HLv HA
  go_wp2_with (first | ((with_reducible refine str ?_ ?_ ?_ HST.out ?_); rfl; rfl; rfl) | ((with_reducible refine ldr ?_ ?_ HLD3.out ?_); rfl; rfl))
  refine (made_any r h' 5 sh w3).mono ?_
  rintro e w4 ⟨h2, n2, o, c, d, rfl, hb4, _, _, eh, en, hO⟩
  obtain rfl := eh Hh.out.1 Hh.out.2
  have e2 : n2 = 5 := by have := en (by omega) (by omega); omega
  subst e2
  have k4 := (hb4.block w.heap.size HZ3.out).trans k3
  have HB4 : Hid (Below w.heap.size w w4) := HB3.out.trans (hb4.mono HB3.out.size)
  have HZ4 : Hid (w.heap.size < w4.heap.size) := (Array.getElem?_eq_some_iff.1 k4).1
  clear hb4 k3 HB3 HLD3 HZ3 HST eh en
  obtain ⟨T, v, rfl, hA, hT, hC⟩ : ∃ T v, o = .iface T v ∧ Ab T 5 ∧ T ≠ 66 ∧ Core r h2 5 sh c w4 := by
    rcases hO with ⟨h, _⟩ | ⟨h, _⟩ | ⟨_, h⟩
    · have := hh.out; omega
    · have := hh.out; omega
    · exact h
  have hs : Sm T v := .inr hT
  have HAb : Hid (∀ W, Calls Tryz.prog 7 #[.iface T v] W fun e w' => e = .returned (.tuple #[.int .i64 5, .int .i64 0]) ∧ W = w') := fun W => Abilities_any hA (by decide) hs W
  have HA0 : Hid (∀ W, Calls Tryz.prog 17 #[.iface T v] W fun e w' => e = .returned (.tuple #[.iface T v, .bool true]) ∧ W = w') := fun W => As_Versioned hA hs W
  have HT0 : Hid (∀ W : World, W.cell? ⟨w4.heap.size, 0, none⟩ = some (.iface T v) → Calls Tryz.prog 21 #[.func (.func 9) #[] #[.pointer (some ⟨w4.heap.size, 0, none⟩)]] W fun e w' => e = .returned (.tuple #[.int .i64 0, .int .i64 0]) ∧ Below W.heap.size W w') := fun W h => Try_musts_0 hA v _ W h
  have HA1 : Hid (∀ W, Calls Tryz.prog 18 #[.iface T v] W fun e w' => e = .returned (.tuple #[.nilIface, .bool false]) ∧ W = w') := fun W => As_Indexed hA hs W
  have HT1 : Hid (∀ W : World, W.cell? ⟨w4.heap.size, 0, none⟩ = some (.iface T v) → Calls Tryz.prog 21 #[.func (.func 11) #[] #[.pointer (some ⟨w4.heap.size, 0, none⟩)]] W fun e w' => e = .returned (.tuple #[.int .i64 1, .int .i64 9]) ∧ Below W.heap.size W w') := fun W h => Try_musts_1 hA v _ W h
  have HA2 : Hid (∀ W, Calls Tryz.prog 19 #[.iface T v] W fun e w' => e = .returned (.tuple #[.iface T v, .bool true]) ∧ W = w') := fun W => As_Owned hA hs W
  have HT2 : Hid (∀ W : World, W.cell? ⟨w4.heap.size, 0, none⟩ = some (.iface T v) → Calls Tryz.prog 21 #[.func (.func 13) #[] #[.pointer (some ⟨w4.heap.size, 0, none⟩)]] W fun e w' => e = .returned (.tuple #[.int .i64 0, .int .i64 0]) ∧ Below W.heap.size W w') := fun W h => Try_musts_2 hA v _ W h
  have HA3 : Hid (∀ W, Calls Tryz.prog 20 #[.iface T v] W fun e w' => e = .returned (.tuple #[.nilIface, .bool false]) ∧ W = w') := fun W => As_Lazy hA hs W
  have HT3 : Hid (∀ W : World, W.cell? ⟨w4.heap.size, 0, none⟩ = some (.iface T v) → Calls Tryz.prog 21 #[.func (.func 15) #[] #[.pointer (some ⟨w4.heap.size, 0, none⟩)]] W fun e w' => e = .returned (.tuple #[.int .i64 1, .int .i64 9]) ∧ Below W.heap.size W w') := fun W h => Try_musts_3 hA v _ W h
  have HAO : Hid (∀ W, Calls Tryz.prog 22 #[.iface T v] W fun e w' => e = .returned (.tuple #[.iface T v, .bool true]) ∧ W = w') := fun W => As_Object hA hs W
  have HAT : Hid (∀ W, Calls Tryz.prog 23 #[.iface T v] W fun e w' => e = .returned (.tuple #[.pointer none, .bool false]) ∧ W = w') := fun W => As_Thing hT v W
  have HNi : Hid (∀ W, Calls Tryz.prog 8 #[.agg (r.cs h2 5 sh)] W fun e w' => e = .returned (.bool false) ∧ Below W.heap.size W w') := fun W => Nil_no r h2 5 sh (by have := hh.out; simp; omega) (by have := hh.out; simp; omega) W
  have HLD5 : Hid ((loadVar 28 ⟨w.heap.size, 0, none⟩).run Tryz.prog (w4.alloc (Obj.cells #[.iface T v, .pointer (some ⟨c, 0, none⟩), .pointer (some ⟨d, 0, none⟩)] 36)) = .ok (.agg (r.cs h2 5 sh)) (w4.alloc (Obj.cells #[.iface T v, .pointer (some ⟨c, 0, none⟩), .pointer (some ⟨d, 0, none⟩)] 36))) := sp_ld r h2 5 sh ((Below.heap_alloc _ _ _ HZ4.out).trans k4)
  have HB5 : Hid (Below w.heap.size w (w4.alloc (Obj.cells #[.iface T v, .pointer (some ⟨c, 0, none⟩), .pointer (some ⟨d, 0, none⟩)] 36))) := HB4.out.alloc HB4.out.size _
  have k5 := (Below.heap_alloc w4 (Obj.cells #[.iface T v, .pointer (some ⟨c, 0, none⟩), .pointer (some ⟨d, 0, none⟩)] 36) _ HZ4.out).trans k4
  have q5 : (w4.alloc (Obj.cells #[.iface T v, .pointer (some ⟨c, 0, none⟩), .pointer (some ⟨d, 0, none⟩)] 36)).heap[w4.heap.size]? = some (Obj.cells #[.iface T v, .pointer (some ⟨c, 0, none⟩), .pointer (some ⟨d, 0, none⟩)] 36) := heap_alloc_last _ _
  have c5 : Core r h2 5 sh c (w4.alloc (Obj.cells #[.iface T v, .pointer (some ⟨c, 0, none⟩), .pointer (some ⟨d, 0, none⟩)] 36)) := (Below.heap_alloc w4 (Obj.cells #[.iface T v, .pointer (some ⟨c, 0, none⟩), .pointer (some ⟨d, 0, none⟩)] 36) _ (Array.getElem?_eq_some_iff.1 hC).1).trans hC
  clear k4 hO hC hA hT hs hh
  go_wp2_with (first | (go_at_call 7; refine (HAb.out _).mono ?_; rintro e w' ⟨rfl, rfl⟩) | ((with_reducible refine ldr ?_ ?_ HLD5.out ?_); rfl; rfl))
  refine (HNi.out _).mono ?_
  rintro e w6 ⟨rfl, hb6⟩
  have HB6 : Hid (Below w.heap.size w w6) := HB5.out.trans (hb6.mono HB5.out.size)
  have k6 := (hb6.block _ (Array.getElem?_eq_some_iff.1 k5).1).trans k5
  have q6 := (hb6.block _ (Array.getElem?_eq_some_iff.1 q5).1).trans q5
  have c6 : Core r h2 5 sh c w6 := (hb6.block _ (Array.getElem?_eq_some_iff.1 c5).1).trans c5
  have x1 : w6.cell? ⟨w.heap.size, 1, none⟩ = some (.int .i64 5) := by rw [cell_of_row _ _ 1 _ _ _ k6]; rfl
  have x0 : w6.cell? ⟨w4.heap.size, 0, none⟩ = some (.iface T v) := by rw [cell_of_row _ _ 0 _ _ _ q6]; rfl
  have x0a : ∀ X, (w6.alloc X).cell? ⟨w4.heap.size, 0, none⟩ = some (.iface T v) := fun X => by rw [((Below.refl w6.heap.size w6).alloc (Nat.le_refl _) X).cell (p := ⟨w4.heap.size, 0, none⟩) (World.block_lt_of_cell? _ _ x0)]; exact x0
  have HQ6 : Hid (w6.heap[w4.heap.size]? = some (Obj.cells #[.iface T v, .pointer (some ⟨c, 0, none⟩), .pointer (some ⟨d, 0, none⟩)] 36) ∧ Core r h2 5 sh c w6) := ⟨q6, c6⟩
  clear hb6 k5 q5 c5 k6 q6 c6 HLD5 HNi HAb HB5
  go_wp2_with (first | (go_at_call 17; refine (HA0.out _).mono ?_; rintro e w' ⟨rfl, rfl⟩) | (go_at_call 18; refine (HA1.out _).mono ?_; rintro e w' ⟨rfl, rfl⟩) | (go_at_call 19; refine (HA2.out _).mono ?_; rintro e w' ⟨rfl, rfl⟩) | (go_at_call 20; refine (HA3.out _).mono ?_; rintro e w' ⟨rfl, rfl⟩))
  have m8 : ((w6.alloc (Obj.cells #[.func (.func 9) #[] #[.pointer (some ⟨w4.heap.size, 0, none⟩)], .func (.func 11) #[] #[.pointer (some ⟨w4.heap.size, 0, none⟩)], .func (.func 13) #[] #[.pointer (some ⟨w4.heap.size, 0, none⟩)], .func (.func 15) #[] #[.pointer (some ⟨w4.heap.size, 0, none⟩)]] 1)).alloc (Obj.cells #[.bool true, .bool false, .bool true, .bool false] 4)).heap[w6.heap.size]? = some (Obj.cells #[.func (.func 9) #[] #[.pointer (some ⟨w4.heap.size, 0, none⟩)], .func (.func 11) #[] #[.pointer (some ⟨w4.heap.size, 0, none⟩)], .func (.func 13) #[] #[.pointer (some ⟨w4.heap.size, 0, none⟩)], .func (.func 15) #[] #[.pointer (some ⟨w4.heap.size, 0, none⟩)]] 1) := al2_old _ _ _
  have s8 : ((w6.alloc (Obj.cells #[.func (.func 9) #[] #[.pointer (some ⟨w4.heap.size, 0, none⟩)], .func (.func 11) #[] #[.pointer (some ⟨w4.heap.size, 0, none⟩)], .func (.func 13) #[] #[.pointer (some ⟨w4.heap.size, 0, none⟩)], .func (.func 15) #[] #[.pointer (some ⟨w4.heap.size, 0, none⟩)]] 1)).alloc (Obj.cells #[.bool true, .bool false, .bool true, .bool false] 4)).heap[w6.heap.size + 1]? = some (Obj.cells #[.bool true, .bool false, .bool true, .bool false] 4) := al2_new _ _ _
  have b8 : Below w6.heap.size w6 ((w6.alloc (Obj.cells #[.func (.func 9) #[] #[.pointer (some ⟨w4.heap.size, 0, none⟩)], .func (.func 11) #[] #[.pointer (some ⟨w4.heap.size, 0, none⟩)], .func (.func 13) #[] #[.pointer (some ⟨w4.heap.size, 0, none⟩)], .func (.func 15) #[] #[.pointer (some ⟨w4.heap.size, 0, none⟩)]] 1)).alloc (Obj.cells #[.bool true, .bool false, .bool true, .bool false] 4)) := ((Below.refl _ _).alloc (Nat.le_refl _) _).alloc (by simp) _
  have q8 := (b8.block _ (Array.getElem?_eq_some_iff.1 HQ6.out.1).1).trans HQ6.out.1
  have c8 : Core r h2 5 sh c ((w6.alloc (Obj.cells #[.func (.func 9) #[] #[.pointer (some ⟨w4.heap.size, 0, none⟩)], .func (.func 11) #[] #[.pointer (some ⟨w4.heap.size, 0, none⟩)], .func (.func 13) #[] #[.pointer (some ⟨w4.heap.size, 0, none⟩)], .func (.func 15) #[] #[.pointer (some ⟨w4.heap.size, 0, none⟩)]] 1)).alloc (Obj.cells #[.bool true, .bool false, .bool true, .bool false] 4)) := (b8.block _ (Array.getElem?_eq_some_iff.1 HQ6.out.2).1).trans HQ6.out.2
  have HB8 : Hid (Below w.heap.size w ((w6.alloc (Obj.cells #[.func (.func 9) #[] #[.pointer (some ⟨w4.heap.size, 0, none⟩)], .func (.func 11) #[] #[.pointer (some ⟨w4.heap.size, 0, none⟩)], .func (.func 13) #[] #[.pointer (some ⟨w4.heap.size, 0, none⟩)], .func (.func 15) #[] #[.pointer (some ⟨w4.heap.size, 0, none⟩)]] 1)).alloc (Obj.cells #[.bool true, .bool false, .bool true, .bool false] 4))) := HB6.out.trans (b8.mono HB6.out.size)
  refine wp_loop_rounds 5 ?_
  generalize (w6.alloc (Obj.cells #[.func (.func 9) #[] #[.pointer (some ⟨w4.heap.size, 0, none⟩)], .func (.func 11) #[] #[.pointer (some ⟨w4.heap.size, 0, none⟩)], .func (.func 13) #[] #[.pointer (some ⟨w4.heap.size, 0, none⟩)], .func (.func 15) #[] #[.pointer (some ⟨w4.heap.size, 0, none⟩)]] 1)).alloc (Obj.cells #[.bool true, .bool false, .bool true, .bool false] 4) = w8 at m8 s8 b8 q8 c8 HB8 ⊢
  have HR8 : Hid (w8.heap[w6.heap.size]? = some (Obj.cells #[.func (.func 9) #[] #[.pointer (some ⟨w4.heap.size, 0, none⟩)], .func (.func 11) #[] #[.pointer (some ⟨w4.heap.size, 0, none⟩)], .func (.func 13) #[] #[.pointer (some ⟨w4.heap.size, 0, none⟩)], .func (.func 15) #[] #[.pointer (some ⟨w4.heap.size, 0, none⟩)]] 1) ∧ w8.heap[w6.heap.size + 1]? = some (Obj.cells #[.bool true, .bool false, .bool true, .bool false] 4) ∧ w8.heap[w4.heap.size]? = some (Obj.cells #[.iface T v, .pointer (some ⟨c, 0, none⟩), .pointer (some ⟨d, 0, none⟩)] 36) ∧ Core r h2 5 sh c w8) := ⟨m8, s8, q8, c8⟩
  clear m8 s8 b8 q8 c8 HQ6 x0 x0a x1 HB6 HA0 HA1 HA2 HA3
  have m_ : w8.cell? ⟨w6.heap.size, 0, none⟩ = some (.func (.func 9) #[] #[.pointer (some ⟨w4.heap.size, 0, none⟩)]) := by rw [cell_of_row _ _ 0 _ _ _ HR8.out.1]; rfl
  have s_ : w8.cell? ⟨w6.heap.size + 1, 0, none⟩ = some (.bool true) := by rw [cell_of_row _ _ 0 _ _ _ HR8.out.2.1]; rfl
  have HX : Hid (w8.cell? ⟨w4.heap.size, 0, none⟩ = some (.iface T v)) := by show _ = _; rw [cell_of_row _ _ 0 _ _ _ HR8.out.2.2.1]; rfl
  rw [rounds_succ]
  go_wp2_with fail
  refine (HT0.out _ HX.out).mono ?_
  rintro e w9 ⟨rfl, hb⟩
  have HR9 : Hid (w9.heap[w6.heap.size]? = some (Obj.cells #[.func (.func 9) #[] #[.pointer (some ⟨w4.heap.size, 0, none⟩)], .func (.func 11) #[] #[.pointer (some ⟨w4.heap.size, 0, none⟩)], .func (.func 13) #[] #[.pointer (some ⟨w4.heap.size, 0, none⟩)], .func (.func 15) #[] #[.pointer (some ⟨w4.heap.size, 0, none⟩)]] 1) ∧ w9.heap[w6.heap.size + 1]? = some (Obj.cells #[.bool true, .bool false, .bool true, .bool false] 4) ∧ w9.heap[w4.heap.size]? = some (Obj.cells #[.iface T v, .pointer (some ⟨c, 0, none⟩), .pointer (some ⟨d, 0, none⟩)] 36) ∧ Core r h2 5 sh c w9) :=
    ⟨(hb.block _ (Array.getElem?_eq_some_iff.1 HR8.out.1).1).trans HR8.out.1, (hb.block _ (Array.getElem?_eq_some_iff.1 HR8.out.2.1).1).trans HR8.out.2.1, (hb.block _ (Array.getElem?_eq_some_iff.1 HR8.out.2.2.1).1).trans HR8.out.2.2.1, (hb.block _ (Array.getElem?_eq_some_iff.1 HR8.out.2.2.2).1).trans HR8.out.2.2.2⟩
  have HB9 : Hid (Below w.heap.size w w9) := HB8.out.trans (hb.mono HB8.out.size)
  have s_ : w9.cell? ⟨w6.heap.size + 1, 0, none⟩ = some (.bool true) := by rw [cell_of_row _ _ 0 _ _ _ HR9.out.2.1]; rfl
  clear hb m_ HX HR8 HB8 HT0
  go_wp2_with fail
  clear s_
  have m_ : w9.cell? ⟨w6.heap.size, 1, none⟩ = some (.func (.func 11) #[] #[.pointer (some ⟨w4.heap.size, 0, none⟩)]) := by rw [cell_of_row _ _ 1 _ _ _ HR9.out.1]; rfl
  have s_ : w9.cell? ⟨w6.heap.size + 1, 1, none⟩ = some (.bool false) := by rw [cell_of_row _ _ 1 _ _ _ HR9.out.2.1]; rfl
  have HX : Hid (w9.cell? ⟨w4.heap.size, 0, none⟩ = some (.iface T v)) := by show _ = _; rw [cell_of_row _ _ 0 _ _ _ HR9.out.2.2.1]; rfl
  rw [rounds_succ]
  go_wp2_with fail
  refine (HT1.out _ HX.out).mono ?_
  rintro e w10 ⟨rfl, hb⟩
  have HR10 : Hid (w10.heap[w6.heap.size]? = some (Obj.cells #[.func (.func 9) #[] #[.pointer (some ⟨w4.heap.size, 0, none⟩)], .func (.func 11) #[] #[.pointer (some ⟨w4.heap.size, 0, none⟩)], .func (.func 13) #[] #[.pointer (some ⟨w4.heap.size, 0, none⟩)], .func (.func 15) #[] #[.pointer (some ⟨w4.heap.size, 0, none⟩)]] 1) ∧ w10.heap[w6.heap.size + 1]? = some (Obj.cells #[.bool true, .bool false, .bool true, .bool false] 4) ∧ w10.heap[w4.heap.size]? = some (Obj.cells #[.iface T v, .pointer (some ⟨c, 0, none⟩), .pointer (some ⟨d, 0, none⟩)] 36) ∧ Core r h2 5 sh c w10) :=
    ⟨(hb.block _ (Array.getElem?_eq_some_iff.1 HR9.out.1).1).trans HR9.out.1, (hb.block _ (Array.getElem?_eq_some_iff.1 HR9.out.2.1).1).trans HR9.out.2.1, (hb.block _ (Array.getElem?_eq_some_iff.1 HR9.out.2.2.1).1).trans HR9.out.2.2.1, (hb.block _ (Array.getElem?_eq_some_iff.1 HR9.out.2.2.2).1).trans HR9.out.2.2.2⟩
  have HB10 : Hid (Below w.heap.size w w10) := HB9.out.trans (hb.mono HB9.out.size)
  have s_ : w10.cell? ⟨w6.heap.size + 1, 1, none⟩ = some (.bool false) := by rw [cell_of_row _ _ 1 _ _ _ HR10.out.2.1]; rfl
  clear hb m_ HX HR9 HB9 HT1
  go_wp2_with fail
  clear s_
  have m_ : w10.cell? ⟨w6.heap.size, 2, none⟩ = some (.func (.func 13) #[] #[.pointer (some ⟨w4.heap.size, 0, none⟩)]) := by rw [cell_of_row _ _ 2 _ _ _ HR10.out.1]; rfl
  have s_ : w10.cell? ⟨w6.heap.size + 1, 2, none⟩ = some (.bool true) := by rw [cell_of_row _ _ 2 _ _ _ HR10.out.2.1]; rfl
  have HX : Hid (w10.cell? ⟨w4.heap.size, 0, none⟩ = some (.iface T v)) := by show _ = _; rw [cell_of_row _ _ 0 _ _ _ HR10.out.2.2.1]; rfl
  rw [rounds_succ]
  go_wp2_with fail
  refine (HT2.out _ HX.out).mono ?_
  rintro e w11 ⟨rfl, hb⟩
  have HR11 : Hid (w11.heap[w6.heap.size]? = some (Obj.cells #[.func (.func 9) #[] #[.pointer (some ⟨w4.heap.size, 0, none⟩)], .func (.func 11) #[] #[.pointer (some ⟨w4.heap.size, 0, none⟩)], .func (.func 13) #[] #[.pointer (some ⟨w4.heap.size, 0, none⟩)], .func (.func 15) #[] #[.pointer (some ⟨w4.heap.size, 0, none⟩)]] 1) ∧ w11.heap[w6.heap.size + 1]? = some (Obj.cells #[.bool true, .bool false, .bool true, .bool false] 4) ∧ w11.heap[w4.heap.size]? = some (Obj.cells #[.iface T v, .pointer (some ⟨c, 0, none⟩), .pointer (some ⟨d, 0, none⟩)] 36) ∧ Core r h2 5 sh c w11) :=
    ⟨(hb.block _ (Array.getElem?_eq_some_iff.1 HR10.out.1).1).trans HR10.out.1, (hb.block _ (Array.getElem?_eq_some_iff.1 HR10.out.2.1).1).trans HR10.out.2.1, (hb.block _ (Array.getElem?_eq_some_iff.1 HR10.out.2.2.1).1).trans HR10.out.2.2.1, (hb.block _ (Array.getElem?_eq_some_iff.1 HR10.out.2.2.2).1).trans HR10.out.2.2.2⟩
  have HB11 : Hid (Below w.heap.size w w11) := HB10.out.trans (hb.mono HB10.out.size)
  have s_ : w11.cell? ⟨w6.heap.size + 1, 2, none⟩ = some (.bool true) := by rw [cell_of_row _ _ 2 _ _ _ HR11.out.2.1]; rfl
  clear hb m_ HX HR10 HB10 HT2
  go_wp2_with fail
  clear s_
  have m_ : w11.cell? ⟨w6.heap.size, 3, none⟩ = some (.func (.func 15) #[] #[.pointer (some ⟨w4.heap.size, 0, none⟩)]) := by rw [cell_of_row _ _ 3 _ _ _ HR11.out.1]; rfl
  have s_ : w11.cell? ⟨w6.heap.size + 1, 3, none⟩ = some (.bool false) := by rw [cell_of_row _ _ 3 _ _ _ HR11.out.2.1]; rfl
  have HX : Hid (w11.cell? ⟨w4.heap.size, 0, none⟩ = some (.iface T v)) := by show _ = _; rw [cell_of_row _ _ 0 _ _ _ HR11.out.2.2.1]; rfl
  rw [rounds_succ]
  go_wp2_with fail
  refine (HT3.out _ HX.out).mono ?_
  rintro e w12 ⟨rfl, hb⟩
  have HR12 : Hid (w12.heap[w6.heap.size]? = some (Obj.cells #[.func (.func 9) #[] #[.pointer (some ⟨w4.heap.size, 0, none⟩)], .func (.func 11) #[] #[.pointer (some ⟨w4.heap.size, 0, none⟩)], .func (.func 13) #[] #[.pointer (some ⟨w4.heap.size, 0, none⟩)], .func (.func 15) #[] #[.pointer (some ⟨w4.heap.size, 0, none⟩)]] 1) ∧ w12.heap[w6.heap.size + 1]? = some (Obj.cells #[.bool true, .bool false, .bool true, .bool false] 4) ∧ w12.heap[w4.heap.size]? = some (Obj.cells #[.iface T v, .pointer (some ⟨c, 0, none⟩), .pointer (some ⟨d, 0, none⟩)] 36) ∧ Core r h2 5 sh c w12) :=
    ⟨(hb.block _ (Array.getElem?_eq_some_iff.1 HR11.out.1).1).trans HR11.out.1, (hb.block _ (Array.getElem?_eq_some_iff.1 HR11.out.2.1).1).trans HR11.out.2.1, (hb.block _ (Array.getElem?_eq_some_iff.1 HR11.out.2.2.1).1).trans HR11.out.2.2.1, (hb.block _ (Array.getElem?_eq_some_iff.1 HR11.out.2.2.2).1).trans HR11.out.2.2.2⟩
  have HB12 : Hid (Below w.heap.size w w12) := HB11.out.trans (hb.mono HB11.out.size)
  have s_ : w12.cell? ⟨w6.heap.size + 1, 3, none⟩ = some (.bool false) := by rw [cell_of_row _ _ 3 _ _ _ HR12.out.2.1]; rfl
  clear hb m_ HX HR11 HB11 HT3
  go_wp2_with fail
  clear s_
  have x0 : w12.cell? ⟨w4.heap.size, 0, none⟩ = some (.iface T v) := by rw [cell_of_row _ _ 0 _ _ _ HR12.out.2.2.1]; rfl
  have x1 : w12.cell? ⟨w4.heap.size, 1, none⟩ = some (.pointer (some ⟨c, 0, none⟩)) := by rw [cell_of_row _ _ 1 _ _ _ HR12.out.2.2.1]; rfl
  have HLC : Hid ((loadVar 70 ⟨c, 14, none⟩).run Tryz.prog w12 = .ok (.agg #[.int .i64 0, .int .i64 0, .int .i64 0, .int .i64 0, .int .i64 0, .int .i64 0, .int .i64 0, .int .i64 0, .int .i64 0]) w12) := calls_ld HR12.out.2.2.2
  have hq : ∀ W, (binOp .eql 70 (.agg #[.int .i64 0, .int .i64 0, .int .i64 0, .int .i64 0, .int .i64 0, .int .i64 0, .int .i64 0, .int .i64 0, .int .i64 0]) (.agg #[.int .i64 0, .int .i64 0, .int .i64 0, .int .i64 0, .int .i64 0, .int .i64 0, .int .i64 0, .int .i64 0, .int .i64 0])).run Tryz.prog W = .ok (.bool true) W := fun W => by kernel_rfl
  have hg : ∀ (x y : Operand) W, (eqGuard .eql 70 x y (.agg #[.int .i64 0, .int .i64 0, .int .i64 0, .int .i64 0, .int .i64 0, .int .i64 0, .int .i64 0, .int .i64 0, .int .i64 0]) (.agg #[.int .i64 0, .int .i64 0, .int .i64 0, .int .i64 0, .int .i64 0, .int .i64 0, .int .i64 0, .int .i64 0, .int .i64 0])).run Tryz.prog W = .ok () W := fun x y W => by kernel_rfl
  have hn : ∀ W, (binOp .neq 32 (.iface T v) .nilIface).run Tryz.prog W = .ok (.bool true) W := fun W => by kernel_rfl
  have hng : ∀ (x y : Operand) W, (eqGuard .neq 32 x y (.iface T v) .nilIface).run Tryz.prog W = .ok () W := fun x y W => by kernel_rfl
  clear HR12
  rw [rounds_succ]
  go_wp2_with (first | (go_at_call 22; refine (HAO.out _).mono ?_; rintro e w' ⟨rfl, rfl⟩) | (go_at_call 23; refine (HAT.out _).mono ?_; rintro e w' ⟨rfl, rfl⟩) | ((with_reducible refine ldr ?_ ?_ HLC.out ?_); rfl; rfl))
  go_ret
  exact ⟨rfl, HB12.out⟩

set_option maxRecDepth 100000 in
set_option maxHeartbeats 8000000 in
theorem Shown_6 (r : Sr) (h n sh : Int) (hk : fitM 16 n = 6) (hh : Hid (fitM 4 h = 0 ∨ fitM 4 h = 3)) (w : World) :
    Calls Tryz.prog 3 #[.agg (r.cs h n sh)] w fun e w' => e = .returned (.bool true) ∧ Below w.heap.size w w' := by
  have hmf : ∀ (fn : Fn) (first cap : Array Value) (w : World), (Instr.makeFunc fn first cap).run Tryz.prog w = .ok (.func fn first cap) w := fun _ _ _ _ => rfl
  have HLv : Hid (∀ W, Calls Tryz.prog 4 #[] W fun e w' => e = .returned (.bool true) ∧ Below W.heap.size W w') := lives_any
  have HF : Hid (∀ W, Calls Tryz.prog 5 #[.agg (r.cs h n sh)] W fun e w' => e = .returned (.agg (r.cs (fitM 4 h) (fitM 16 n) sh)) ∧ Below W.heap.size W w') := fun W => Fit_any r h n sh W
  have Hh : Hid (0 ≤ fitM 4 h ∧ fitM 4 h < 4) := (fitM_eq 4 h (by decide) (by decide)).1
  generalize fitM 4 h = h' at HF Hh hh
  rw [hk] at HF
  clear hk
  have HA : Hid (∀ o, (w.alloc o).heap[w.heap.size]? = some o) := fun o => heap_alloc_last w o
  go_enter Tryz.func3, Tryz.ntmps3
  unfold Sr.cs
  go_wp2_with fail
  show Calls Tryz.prog _ _ (w.alloc (.cells (r.cs h n sh) 28)) _
  refine (HLv.out _).mono ?_
  rintro e w1 ⟨rfl, hb1⟩
  have k1 := (hb1.block w.heap.size (by simp)).trans (HA.out _)
  have HB1 : Hid (Below w.heap.size w w1) := ((Below.refl _ _).alloc (Nat.le_refl _) _).trans (hb1.mono (by simp))
  have HLD1 : Hid ((loadVar 28 ⟨w.heap.size, 0, none⟩).run Tryz.prog w1 = .ok (.agg (r.cs h n sh)) w1) := sp_ld r h n sh k1
  have HZ1 : Hid (w.heap.size < w1.heap.size) := (Array.getElem?_eq_some_iff.1 k1).1
  clear hb1
  go_wp2_with ((with_reducible refine ldr ?_ ?_ HLD1.out ?_); rfl; rfl)
  refine (HF.out _).mono ?_
  rintro e w2 ⟨rfl, hb2⟩
  have k2 := (hb2.block w.heap.size HZ1.out).trans k1
  have HB2 : Hid (Below w.heap.size w w2) := HB1.out.trans (hb2.mono HB1.out.size)
  have HST : Hid ((storeVar 28 ⟨w.heap.size, 0, none⟩ (.agg (r.cs h' 6 sh))).run Tryz.prog w2 = .ok () (w2.setRow w.heap.size (r.cs h' 6 sh))) := sp_st r h' 6 sh k2 rfl
  have k3 := setRow_heap _ _ _ (r.cs h' 6 sh) _ _ k2
  have HB3 : Hid (Below w.heap.size w (w2.setRow w.heap.size (r.cs h' 6 sh))) := HB2.out.trans ⟨rfl, rfl, rfl, by rw [setRow_size]; exact Nat.le_refl _, fun k hk => setRow_other _ _ _ _ (by omega)⟩
  generalize w2.setRow w.heap.size (r.cs h' 6 sh) = w3 at HST k3 HB3
  have HZ3 : Hid (w.heap.size < w3.heap.size) := (Array.getElem?_eq_some_iff.1 k3).1
  have HLD3 : Hid ((loadVar 28 ⟨w.heap.size, 0, none⟩).run Tryz.prog w3 = .ok (.agg (r.cs h' 6 sh)) w3) := sp_ld r h' 6 sh k3
  clear hb2 k1 k2 HB1 HB2 HLD1 HZ1 HF HLv HA
  go_wp2_with (first | ((with_reducible refine str ?_ ?_ ?_ HST.out ?_); rfl; rfl; rfl) | ((with_reducible refine ldr ?_ ?_ HLD3.out ?_); rfl; rfl))
  refine (made_any r h' 6 sh w3).mono ?_
  rintro e w4 ⟨h2, n2, o, c, d, rfl, hb4, _, _, eh, en, hO⟩
  obtain rfl := eh Hh.out.1 Hh.out.2
  have e2 : n2 = 6 := by have := en (by omega) (by omega); omega
  subst e2
  have k4 := (hb4.block w.heap.size HZ3.out).trans k3
  have HB4 : Hid (Below w.heap.size w w4) := HB3.out.trans (hb4.mono HB3.out.size)
  have HZ4 : Hid (w.heap.size < w4.heap.size) := (Array.getElem?_eq_some_iff.1 k4).1
  clear hb4 k3 HB3 HLD3 HZ3 HST eh en
  obtain ⟨T, v, rfl, hA, hT, hC⟩ : ∃ T v, o = .iface T v ∧ Ab T 6 ∧ T ≠ 66 ∧ Core r h2 6 sh c w4 := by
    rcases hO with ⟨h, _⟩ | ⟨h, _⟩ | ⟨_, h⟩
    · have := hh.out; omega
    · have := hh.out; omega
    · exact h
  have hs : Sm T v := .inr hT
  have HAb : Hid (∀ W, Calls Tryz.prog 7 #[.iface T v] W fun e w' => e = .returned (.tuple #[.int .i64 6, .int .i64 0]) ∧ W = w') := fun W => Abilities_any hA (by decide) hs W
  have HA0 : Hid (∀ W, Calls Tryz.prog 17 #[.iface T v] W fun e w' => e = .returned (.tuple #[.nilIface, .bool false]) ∧ W = w') := fun W => As_Versioned hA hs W
  have HT0 : Hid (∀ W : World, W.cell? ⟨w4.heap.size, 0, none⟩ = some (.iface T v) → Calls Tryz.prog 21 #[.func (.func 9) #[] #[.pointer (some ⟨w4.heap.size, 0, none⟩)]] W fun e w' => e = .returned (.tuple #[.int .i64 1, .int .i64 9]) ∧ Below W.heap.size W w') := fun W h => Try_musts_0 hA v _ W h
  have HA1 : Hid (∀ W, Calls Tryz.prog 18 #[.iface T v] W fun e w' => e = .returned (.tuple #[.iface T v, .bool true]) ∧ W = w') := fun W => As_Indexed hA hs W
  have HT1 : Hid (∀ W : World, W.cell? ⟨w4.heap.size, 0, none⟩ = some (.iface T v) → Calls Tryz.prog 21 #[.func (.func 11) #[] #[.pointer (some ⟨w4.heap.size, 0, none⟩)]] W fun e w' => e = .returned (.tuple #[.int .i64 0, .int .i64 0]) ∧ Below W.heap.size W w') := fun W h => Try_musts_1 hA v _ W h
  have HA2 : Hid (∀ W, Calls Tryz.prog 19 #[.iface T v] W fun e w' => e = .returned (.tuple #[.iface T v, .bool true]) ∧ W = w') := fun W => As_Owned hA hs W
  have HT2 : Hid (∀ W : World, W.cell? ⟨w4.heap.size, 0, none⟩ = some (.iface T v) → Calls Tryz.prog 21 #[.func (.func 13) #[] #[.pointer (some ⟨w4.heap.size, 0, none⟩)]] W fun e w' => e = .returned (.tuple #[.int .i64 0, .int .i64 0]) ∧ Below W.heap.size W w') := fun W h => Try_musts_2 hA v _ W h
  have HA3 : Hid (∀ W, Calls Tryz.prog 20 #[.iface T v] W fun e w' => e = .returned (.tuple #[.nilIface, .bool false]) ∧ W = w') := fun W => As_Lazy hA hs W
  have HT3 : Hid (∀ W : World, W.cell? ⟨w4.heap.size, 0, none⟩ = some (.iface T v) → Calls Tryz.prog 21 #[.func (.func 15) #[] #[.pointer (some ⟨w4.heap.size, 0, none⟩)]] W fun e w' => e = .returned (.tuple #[.int .i64 1, .int .i64 9]) ∧ Below W.heap.size W w') := fun W h => Try_musts_3 hA v _ W h
  have HAO : Hid (∀ W, Calls Tryz.prog 22 #[.iface T v] W fun e w' => e = .returned (.tuple #[.iface T v, .bool true]) ∧ W = w') := fun W => As_Object hA hs W
  have HAT : Hid (∀ W, Calls Tryz.prog 23 #[.iface T v] W fun e w' => e = .returned (.tuple #[.pointer none, .bool false]) ∧ W = w') := fun W => As_Thing hT v W
  have HNi : Hid (∀ W, Calls Tryz.prog 8 #[.agg (r.cs h2 6 sh)] W fun e w' => e = .returned (.bool false) ∧ Below W.heap.size W w') := fun W => Nil_no r h2 6 sh (by have := hh.out; simp; omega) (by have := hh.out; simp; omega) W
  have HLD5 : Hid ((loadVar 28 ⟨w.heap.size, 0, none⟩).run Tryz.prog (w4.alloc (Obj.cells #[.iface T v, .pointer (some ⟨c, 0, none⟩), .pointer (some ⟨d, 0, none⟩)] 36)) = .ok (.agg (r.cs h2 6 sh)) (w4.alloc (Obj.cells #[.iface T v, .pointer (some ⟨c, 0, none⟩), .pointer (some ⟨d, 0, none⟩)] 36))) := sp_ld r h2 6 sh ((Below.heap_alloc _ _ _ HZ4.out).trans k4)
  have HB5 : Hid (Below w.heap.size w (w4.alloc (Obj.cells #[.iface T v, .pointer (some ⟨c, 0, none⟩), .pointer (some ⟨d, 0, none⟩)] 36))) := HB4.out.alloc HB4.out.size _
  have k5 := (Below.heap_alloc w4 (Obj.cells #[.iface T v, .pointer (some ⟨c, 0, none⟩), .pointer (some ⟨d, 0, none⟩)] 36) _ HZ4.out).trans k4
  have q5 : (w4.alloc (Obj.cells #[.iface T v, .pointer (some ⟨c, 0, none⟩), .pointer (some ⟨d, 0, none⟩)] 36)).heap[w4.heap.size]? = some (Obj.cells #[.iface T v, .pointer (some ⟨c, 0, none⟩), .pointer (some ⟨d, 0, none⟩)] 36) := heap_alloc_last _ _
  have c5 : Core r h2 6 sh c (w4.alloc (Obj.cells #[.iface T v, .pointer (some ⟨c, 0, none⟩), .pointer (some ⟨d, 0, none⟩)] 36)) := (Below.heap_alloc w4 (Obj.cells #[.iface T v, .pointer (some ⟨c, 0, none⟩), .pointer (some ⟨d, 0, none⟩)] 36) _ (Array.getElem?_eq_some_iff.1 hC).1).trans hC
  clear k4 hO hC hA hT hs hh
  go_wp2_with (first | (go_at_call 7; refine (HAb.out _).mono ?_; rintro e w' ⟨rfl, rfl⟩) | ((with_reducible refine ldr ?_ ?_ HLD5.out ?_); rfl; rfl))
  refine (HNi.out _).mono ?_
  rintro e w6 ⟨rfl, hb6⟩
  have HB6 : Hid (Below w.heap.size w w6) := HB5.out.trans (hb6.mono HB5.out.size)
  have k6 := (hb6.block _ (Array.getElem?_eq_some_iff.1 k5).1).trans k5
  have q6 := (hb6.block _ (Array.getElem?_eq_some_iff.1 q5).1).trans q5
  have c6 : Core r h2 6 sh c w6 := (hb6.block _ (Array.getElem?_eq_some_iff.1 c5).1).trans c5
  have x1 : w6.cell? ⟨w.heap.size, 1, none⟩ = some (.int .i64 6) := by rw [cell_of_row _ _ 1 _ _ _ k6]; rfl
  have x0 : w6.cell? ⟨w4.heap.size, 0, none⟩ = some (.iface T v) := by rw [cell_of_row _ _ 0 _ _ _ q6]; rfl
  have x0a : ∀ X, (w6.alloc X).cell? ⟨w4.heap.size, 0, none⟩ = some (.iface T v) := fun X => by rw [((Below.refl w6.heap.size w6).alloc (Nat.le_refl _) X).cell (p := ⟨w4.heap.size, 0, none⟩) (World.block_lt_of_cell? _ _ x0)]; exact x0
  have HQ6 : Hid (w6.heap[w4.heap.size]? = some (Obj.cells #[.iface T v, .pointer (some ⟨c, 0, none⟩), .pointer (some ⟨d, 0, none⟩)] 36) ∧ Core r h2 6 sh c w6) := ⟨q6, c6⟩
  clear hb6 k5 q5 c5 k6 q6 c6 HLD5 HNi HAb HB5
  go_wp2_with (first | (go_at_call 17; refine (HA0.out _).mono ?_; rintro e w' ⟨rfl, rfl⟩) | (go_at_call 18; refine (HA1.out _).mono ?_; rintro e w' ⟨rfl, rfl⟩) | (go_at_call 19; refine (HA2.out _).mono ?_; rintro e w' ⟨rfl, rfl⟩) | (go_at_call 20; refine (HA3.out _).mono ?_; rintro e w' ⟨rfl, rfl⟩))
  have m8 : ((w6.alloc (Obj.cells #[.func (.func 9) #[] #[.pointer (some ⟨w4.heap.size, 0, none⟩)], .func (.func 11) #[] #[.pointer (some ⟨w4.heap.size, 0, none⟩)], .func (.func 13) #[] #[.pointer (some ⟨w4.heap.size, 0, none⟩)], .func (.func 15) #[] #[.pointer (some ⟨w4.heap.size, 0, none⟩)]] 1)).alloc (Obj.cells #[.bool false, .bool true, .bool true, .bool false] 4)).heap[w6.heap.size]? = some (Obj.cells #[.func (.func 9) #[] #[.pointer (some ⟨w4.heap.size, 0, none⟩)], .func (.func 11) #[] #[.pointer (some ⟨w4.heap.size, 0, none⟩)], .func (.func 13) #[] #[.pointer (some ⟨w4.heap.size, 0, none⟩)], .func (.func 15) #[] #[.pointer (some ⟨w4.heap.size, 0, none⟩)]] 1) := al2_old _ _ _
  have s8 : ((w6.alloc (Obj.cells #[.func (.func 9) #[] #[.pointer (some ⟨w4.heap.size, 0, none⟩)], .func (.func 11) #[] #[.pointer (some ⟨w4.heap.size, 0, none⟩)], .func (.func 13) #[] #[.pointer (some ⟨w4.heap.size, 0, none⟩)], .func (.func 15) #[] #[.pointer (some ⟨w4.heap.size, 0, none⟩)]] 1)).alloc (Obj.cells #[.bool false, .bool true, .bool true, .bool false] 4)).heap[w6.heap.size + 1]? = some (Obj.cells #[.bool false, .bool true, .bool true, .bool false] 4) := al2_new _ _ _
  have b8 : Below w6.heap.size w6 ((w6.alloc (Obj.cells #[.func (.func 9) #[] #[.pointer (some ⟨w4.heap.size, 0, none⟩)], .func (.func 11) #[] #[.pointer (some ⟨w4.heap.size, 0, none⟩)], .func (.func 13) #[] #[.pointer (some ⟨w4.heap.size, 0, none⟩)], .func (.func 15) #[] #[.pointer (some ⟨w4.heap.size, 0, none⟩)]] 1)).alloc (Obj.cells #[.bool false, .bool true, .bool true, .bool false] 4)) := ((Below.refl _ _).alloc (Nat.le_refl _) _).alloc (by simp) _
  have q8 := (b8.block _ (Array.getElem?_eq_some_iff.1 HQ6.out.1).1).trans HQ6.out.1
  have c8 : Core r h2 6 sh c ((w6.alloc (Obj.cells #[.func (.func 9) #[] #[.pointer (some ⟨w4.heap.size, 0, none⟩)], .func (.func 11) #[] #[.pointer (some ⟨w4.heap.size, 0, none⟩)], .func (.func 13) #[] #[.pointer (some ⟨w4.heap.size, 0, none⟩)], .func (.func 15) #[] #[.pointer (some ⟨w4.heap.size, 0, none⟩)]] 1)).alloc (Obj.cells #[.bool false, .bool true, .bool true, .bool false] 4)) := (b8.block _ (Array.getElem?_eq_some_iff.1 HQ6.out.2).1).trans HQ6.out.2
  have HB8 : Hid (Below w.heap.size w ((w6.alloc (Obj.cells #[.func (.func 9) #[] #[.pointer (some ⟨w4.heap.size, 0, none⟩)], .func (.func 11) #[] #[.pointer (some ⟨w4.heap.size, 0, none⟩)], .func (.func 13) #[] #[.pointer (some ⟨w4.heap.size, 0, none⟩)], .func (.func 15) #[] #[.pointer (some ⟨w4.heap.size, 0, none⟩)]] 1)).alloc (Obj.cells #[.bool false, .bool true, .bool true, .bool false] 4))) := HB6.out.trans (b8.mono HB6.out.size)
  refine wp_loop_rounds 5 ?_
  generalize (w6.alloc (Obj.cells #[.func (.func 9) #[] #[.pointer (some ⟨w4.heap.size, 0, none⟩)], .func (.func 11) #[] #[.pointer (some ⟨w4.heap.size, 0, none⟩)], .func (.func 13) #[] #[.pointer (some ⟨w4.heap.size, 0, none⟩)], .func (.func 15) #[] #[.pointer (some ⟨w4.heap.size, 0, none⟩)]] 1)).alloc (Obj.cells #[.bool false, .bool true, .bool true, .bool false] 4) = w8 at m8 s8 b8 q8 c8 HB8 ⊢
  have HR8 : Hid (w8.heap[w6.heap.size]? = some (Obj.cells #[.func (.func 9) #[] #[.pointer (some ⟨w4.heap.size, 0, none⟩)], .func (.func 11) #[] #[.pointer (some ⟨w4.heap.size, 0, none⟩)], .func (.func 13) #[] #[.pointer (some ⟨w4.heap.size, 0, none⟩)], .func (.func 15) #[] #[.pointer (some ⟨w4.heap.size, 0, none⟩)]] 1) ∧ w8.heap[w6.heap.size + 1]? = some (Obj.cells #[.bool false, .bool true, .bool true, .bool false] 4) ∧ w8.heap[w4.heap.size]? = some (Obj.cells #[.iface T v, .pointer (some ⟨c, 0, none⟩), .pointer (some ⟨d, 0, none⟩)] 36) ∧ Core r h2 6 sh c w8) := ⟨m8, s8, q8, c8⟩
  clear m8 s8 b8 q8 c8 HQ6 x0 x0a x1 HB6 HA0 HA1 HA2 HA3
  have m_ : w8.cell? ⟨w6.heap.size, 0, none⟩ = some (.func (.func 9) #[] #[.pointer (some ⟨w4.heap.size, 0, none⟩)]) := by rw [cell_of_row _ _ 0 _ _ _ HR8.out.1]; rfl
  have s_ : w8.cell? ⟨w6.heap.size + 1, 0, none⟩ = some (.bool false) := by rw [cell_of_row _ _ 0 _ _ _ HR8.out.2.1]; rfl
  have HX : Hid (w8.cell? ⟨w4.heap.size, 0, none⟩ = some (.iface T v)) := by show _ = _; rw [cell_of_row _ _ 0 _ _ _ HR8.out.2.2.1]; rfl
  rw [rounds_succ]
  go_wp2_with fail
  refine (HT0.out _ HX.out).mono ?_
  rintro e w9 ⟨rfl, hb⟩
  have HR9 : Hid (w9.heap[w6.heap.size]? = some (Obj.cells #[.func (.func 9) #[] #[.pointer (some ⟨w4.heap.size, 0, none⟩)], .func (.func 11) #[] #[.pointer (some ⟨w4.heap.size, 0, none⟩)], .func (.func 13) #[] #[.pointer (some ⟨w4.heap.size, 0, none⟩)], .func (.func 15) #[] #[.pointer (some ⟨w4.heap.size, 0, none⟩)]] 1) ∧ w9.heap[w6.heap.size + 1]? = some (Obj.cells #[.bool false, .bool true, .bool true, .bool false] 4) ∧ w9.heap[w4.heap.size]? = some (Obj.cells #[.iface T v, .pointer (some ⟨c, 0, none⟩), .pointer (some ⟨d, 0, none⟩)] 36) ∧ Core r h2 6 sh c w9) :=
    ⟨(hb.block _ (Array.getElem?_eq_some_iff.1 HR8.out.1).1).trans HR8.out.1, (hb.block _ (Array.getElem?_eq_some_iff.1 HR8.out.2.1).1).trans HR8.out.2.1, (hb.block _ (Array.getElem?_eq_some_iff.1 HR8.out.2.2.1).1).trans HR8.out.2.2.1, (hb.block _ (Array.getElem?_eq_some_iff.1 HR8.out.2.2.2).1).trans HR8.out.2.2.2⟩
  have HB9 : Hid (Below w.heap.size w w9) := HB8.out.trans (hb.mono HB8.out.size)
  have s_ : w9.cell? ⟨w6.heap.size + 1, 0, none⟩ = some (.bool false) := by rw [cell_of_row _ _ 0 _ _ _ HR9.out.2.1]; rfl
  clear hb m_ HX HR8 HB8 HT0
  go_wp2_with fail
  clear s_
  have m_ : w9.cell? ⟨w6.heap.size, 1, none⟩ = some (.func (.func 11) #[] #[.pointer (some ⟨w4.heap.size, 0, none⟩)]) := by rw [cell_of_row _ _ 1 _ _ _ HR9.out.1]; rfl
  have s_ : w9.cell? ⟨w6.heap.size + 1, 1, none⟩ = some (.bool true) := by rw [cell_of_row _ _ 1 _ _ _ HR9.out.2.1]; rfl
  have HX : Hid (w9.cell? ⟨w4.heap.size, 0, none⟩ = some (.iface T v)) := by show _ = _; rw [cell_of_row _ _ 0 _ _ _ HR9.out.2.2.1]; rfl
  rw [rounds_succ]
  go_wp2_with fail
  refine (HT1.out _ HX.out).mono ?_
  rintro e w10 ⟨rfl, hb⟩
  have HR10 : Hid (w10.heap[w6.heap.size]? = some (Obj.cells #[.func (.func 9) #[] #[.pointer (some ⟨w4.heap.size, 0, none⟩)], .func (.func 11) #[] #[.pointer (some ⟨w4.heap.size, 0, none⟩)], .func (.func 13) #[] #[.pointer (some ⟨w4.heap.size, 0, none⟩)], .func (.func 15) #[] #[.pointer (some ⟨w4.heap.size, 0, none⟩)]] 1) ∧ w10.heap[w6.heap.size + 1]? = some (Obj.cells #[.bool false, .bool true, .bool true, .bool false] 4) ∧ w10.heap[w4.heap.size]? = some (Obj.cells #[.iface T v, .pointer (some ⟨c, 0, none⟩), .pointer (some ⟨d, 0, none⟩)] 36) ∧ Core r h2 6 sh c w10) :=
    ⟨(hb.block _ (Array.getElem?_eq_some_iff.1 HR9.out.1).1).trans HR9.out.1, (hb.block _ (Array.getElem?_eq_some_iff.1 HR9.out.2.1).1).trans HR9.out.2.1, (hb.block _ (Array.getElem?_eq_some_iff.1 HR9.out.2.2.1).1).trans HR9.out.2.2.1, (hb.block _ (Array.getElem?_eq_some_iff.1 HR9.out.2.2.2).1).trans HR9.out.2.2.2⟩
  have HB10 : Hid (Below w.heap.size w w10) := HB9.out.trans (hb.mono HB9.out.size)
  have s_ : w10.cell? ⟨w6.heap.size + 1, 1, none⟩ = some (.bool true) := by rw [cell_of_row _ _ 1 _ _ _ HR10.out.2.1]; rfl
  clear hb m_ HX HR9 HB9 HT1
  go_wp2_with fail
  clear s_
  have m_ : w10.cell? ⟨w6.heap.size, 2, none⟩ = some (.func (.func 13) #[] #[.pointer (some ⟨w4.heap.size, 0, none⟩)]) := by rw [cell_of_row _ _ 2 _ _ _ HR10.out.1]; rfl
  have s_ : w10.cell? ⟨w6.heap.size + 1, 2, none⟩ = some (.bool true) := by rw [cell_of_row _ _ 2 _ _ _ HR10.out.2.1]; rfl
  have HX : Hid (w10.cell? ⟨w4.heap.size, 0, none⟩ = some (.iface T v)) := by show _ = _; rw [cell_of_row _ _ 0 _ _ _ HR10.out.2.2.1]; rfl
  rw [rounds_succ]
  go_wp2_with fail
  refine (HT2.out _ HX.out).mono ?_
  rintro e w11 ⟨rfl, hb⟩
  have HR11 : Hid (w11.heap[w6.heap.size]? = some (Obj.cells #[.func (.func 9) #[] #[.pointer (some ⟨w4.heap.size, 0, none⟩)], .func (.func 11) #[] #[.pointer (some ⟨w4.heap.size, 0, none⟩)], .func (.func 13) #[] #[.pointer (some ⟨w4.heap.size, 0, none⟩)], .func (.func 15) #[] #[.pointer (some ⟨w4.heap.size, 0, none⟩)]] 1) ∧ w11.heap[w6.heap.size + 1]? = some (Obj.cells #[.bool false, .bool true, .bool true, .bool false] 4) ∧ w11.heap[w4.heap.size]? = some (Obj.cells #[.iface T v, .pointer (some ⟨c, 0, none⟩), .pointer (some ⟨d, 0, none⟩)] 36) ∧ Core r h2 6 sh c w11) :=
    ⟨(hb.block _ (Array.getElem?_eq_some_iff.1 HR10.out.1).1).trans HR10.out.1, (hb.block _ (Array.getElem?_eq_some_iff.1 HR10.out.2.1).1).trans HR10.out.2.1, (hb.block _ (Array.getElem?_eq_some_iff.1 HR10.out.2.2.1).1).trans HR10.out.2.2.1, (hb.block _ (Array.getElem?_eq_some_iff.1 HR10.out.2.2.2).1).trans HR10.out.2.2.2⟩
  have HB11 : Hid (Below w.heap.size w w11) := HB10.out.trans (hb.mono HB10.out.size)
  have s_ : w11.cell? ⟨w6.heap.size + 1, 2, none⟩ = some (.bool true) := by rw [cell_of_row _ _ 2 _ _ _ HR11.out.2.1]; rfl
  clear hb m_ HX HR10 HB10 HT2
  go_wp2_with fail
  clear s_
  have m_ : w11.cell? ⟨w6.heap.size, 3, none⟩ = some (.func (.func 15) #[] #[.pointer (some ⟨w4.heap.size, 0, none⟩)]) := by rw [cell_of_row _ _ 3 _ _ _ HR11.out.1]; rfl
  have s_ : w11.cell? ⟨w6.heap.size + 1, 3, none⟩ = some (.bool false) := by rw [cell_of_row _ _ 3 _ _ _ HR11.out.2.1]; rfl
  have HX : Hid (w11.cell? ⟨w4.heap.size, 0, none⟩ = some (.iface T v)) := by show _ = _; rw [cell_of_row _ _ 0 _ _ _ HR11.out.2.2.1]; rfl
  rw [rounds_succ]
  go_wp2_with fail
  refine (HT3.out _ HX.out).mono ?_
  rintro e w12 ⟨rfl, hb⟩
  have HR12 : Hid (w12.heap[w6.heap.size]? = some (Obj.cells #[.func (.func 9) #[] #[.pointer (some ⟨w4.heap.size, 0, none⟩)], .func (.func 11) #[] #[.pointer (some ⟨w4.heap.size, 0, none⟩)], .func (.func 13) #[] #[.pointer (some ⟨w4.heap.size, 0, none⟩)], .func (.func 15) #[] #[.pointer (some ⟨w4.heap.size, 0, none⟩)]] 1) ∧ w12.heap[w6.heap.size + 1]? = some (Obj.cells #[.bool false, .bool true, .bool true, .bool false] 4) ∧ w12.heap[w4.heap.size]? = some (Obj.cells #[.iface T v, .pointer (some ⟨c, 0, none⟩), .pointer (some ⟨d, 0, none⟩)] 36) ∧ Core r h2 6 sh c w12) :=
    ⟨(hb.block _ (Array.getElem?_eq_some_iff.1 HR11.out.1).1).trans HR11.out.1, (hb.block _ (Array.getElem?_eq_some_iff.1 HR11.out.2.1).1).trans HR11.out.2.1, (hb.block _ (Array.getElem?_eq_some_iff.1 HR11.out.2.2.1).1).trans HR11.out.2.2.1, (hb.block _ (Array.getElem?_eq_some_iff.1 HR11.out.2.2.2).1).trans HR11.out.2.2.2⟩
  have HB12 : Hid (Below w.heap.size w w12) := HB11.out.trans (hb.mono HB11.out.size)
  have s_ : w12.cell? ⟨w6.heap.size + 1, 3, none⟩ = some (.bool false) := by rw [cell_of_row _ _ 3 _ _ _ HR12.out.2.1]; rfl
  clear hb m_ HX HR11 HB11 HT3
  go_wp2_with fail
  clear s_
  have x0 : w12.cell? ⟨w4.heap.size, 0, none⟩ = some (.iface T v) := by rw [cell_of_row _ _ 0 _ _ _ HR12.out.2.2.1]; rfl
  have x1 : w12.cell? ⟨w4.heap.size, 1, none⟩ = some (.pointer (some ⟨c, 0, none⟩)) := by rw [cell_of_row _ _ 1 _ _ _ HR12.out.2.2.1]; rfl
  have HLC : Hid ((loadVar 70 ⟨c, 14, none⟩).run Tryz.prog w12 = .ok (.agg #[.int .i64 0, .int .i64 0, .int .i64 0, .int .i64 0, .int .i64 0, .int .i64 0, .int .i64 0, .int .i64 0, .int .i64 0]) w12) := calls_ld HR12.out.2.2.2
  have hq : ∀ W, (binOp .eql 70 (.agg #[.int .i64 0, .int .i64 0, .int .i64 0, .int .i64 0, .int .i64 0, .int .i64 0, .int .i64 0, .int .i64 0, .int .i64 0]) (.agg #[.int .i64 0, .int .i64 0, .int .i64 0, .int .i64 0, .int .i64 0, .int .i64 0, .int .i64 0, .int .i64 0, .int .i64 0])).run Tryz.prog W = .ok (.bool true) W := fun W => by kernel_rfl
  have hg : ∀ (x y : Operand) W, (eqGuard .eql 70 x y (.agg #[.int .i64 0, .int .i64 0, .int .i64 0, .int .i64 0, .int .i64 0, .int .i64 0, .int .i64 0, .int .i64 0, .int .i64 0]) (.agg #[.int .i64 0, .int .i64 0, .int .i64 0, .int .i64 0, .int .i64 0, .int .i64 0, .int .i64 0, .int .i64 0, .int .i64 0])).run Tryz.prog W = .ok () W := fun x y W => by kernel_rfl
  have hn : ∀ W, (binOp .neq 32 (.iface T v) .nilIface).run Tryz.prog W = .ok (.bool true) W := fun W => by kernel_rfl
  have hng : ∀ (x y : Operand) W, (eqGuard .neq 32 x y (.iface T v) .nilIface).run Tryz.prog W = .ok () W := fun x y W => by kernel_rfl
  clear HR12
  rw [rounds_succ]
  go_wp2_with (first | (go_at_call 22; refine (HAO.out _).mono ?_; rintro e w' ⟨rfl, rfl⟩) | (go_at_call 23; refine (HAT.out _).mono ?_; rintro e w' ⟨rfl, rfl⟩) | ((with_reducible refine ldr ?_ ?_ HLC.out ?_); rfl; rfl))
  go_ret
  exact ⟨rfl, HB12.out⟩

set_option maxRecDepth 100000 in
set_option maxHeartbeats 8000000 in
theorem Shown_7 (r : Sr) (h n sh : Int) (hk : fitM 16 n = 7) (hh : Hid (fitM 4 h = 0 ∨ fitM 4 h = 3)) (w : World) :
    Calls Tryz.prog 3 #[.agg (r.cs h n sh)] w fun e w' => e = .returned (.bool true) ∧ Below w.heap.size w w' := by
  have hmf : ∀ (fn : Fn) (first cap : Array Value) (w : World), (Instr.makeFunc fn first cap).run Tryz.prog w = .ok (.func fn first cap) w := fun _ _ _ _ => rfl
  have HLv : Hid (∀ W, Calls Tryz.prog 4 #[] W fun e w' => e = .returned (.bool true) ∧ Below W.heap.size W w') := lives_any
  have HF : Hid (∀ W, Calls Tryz.prog 5 #[.agg (r.cs h n sh)] W fun e w' => e = .returned (.agg (r.cs (fitM 4 h) (fitM 16 n) sh)) ∧ Below W.heap.size W w') := fun W => Fit_any r h n sh W
  have Hh : Hid (0 ≤ fitM 4 h ∧ fitM 4 h < 4) := (fitM_eq 4 h (by decide) (by decide)).1
  generalize fitM 4 h = h' at HF Hh hh
  rw [hk] at HF
  clear hk
  have HA : Hid (∀ o, (w.alloc o).heap[w.heap.size]? = some o) := fun o => heap_alloc_last w o
  go_enter Tryz.func3, Tryz.ntmps3
  unfold Sr.cs
  go_wp2_with fail
  show Calls Tryz.prog _ _ (w.alloc (.cells (r.cs h n sh) 28)) _
  refine (HLv.out _).mono ?_
  rintro e w1 ⟨rfl, hb1⟩
  have k1 := (hb1.block w.heap.size (by simp)).trans (HA.out _)
  have HB1 : Hid (Below w.heap.size w w1) := ((Below.refl _ _).alloc (Nat.le_refl _) _).trans (hb1.mono (by simp))
  have HLD1 : Hid ((loadVar 28 ⟨w.heap.size, 0, none⟩).run Tryz.prog w1 = .ok (.agg (r.cs h n sh)) w1) := sp_ld r h n sh k1
  have HZ1 : Hid (w.heap.size < w1.heap.size) := (Array.getElem?_eq_some_iff.1 k1).1
  clear hb1
  go_wp2_with ((with_reducible refine ldr ?_ ?_ HLD1.out ?_); rfl; rfl)
  refine (HF.out _).mono ?_
  rintro e w2 ⟨rfl, hb2⟩
  have k2 := (hb2.block w.heap.size HZ1.out).trans k1
  have HB2 : Hid (Below w.heap.size w w2) := HB1.out.trans (hb2.mono HB1.out.size)
  have HST : Hid ((storeVar 28 ⟨w.heap.size, 0, none⟩ (.agg (r.cs h' 7 sh))).run Tryz.prog w2 = .ok () (w2.setRow w.heap.size (r.cs h' 7 sh))) := sp_st r h' 7 sh k2 rfl
  have k3 := setRow_heap _ _ _ (r.cs h' 7 sh) _ _ k2
  have HB3 : Hid (Below w.heap.size w (w2.setRow w.heap.size (r.cs h' 7 sh))) := HB2.out.trans ⟨rfl, rfl, rfl, by rw [setRow_size]; exact Nat.le_refl _, fun k hk => setRow_other _ _ _ _ (by omega)⟩
  generalize w2.setRow w.heap.size (r.cs h' 7 sh) = w3 at HST k3 HB3
  have HZ3 : Hid (w.heap.size < w3.heap.size) := (Array.getElem?_eq_some_iff.1 k3).1
  have HLD3 : Hid ((loadVar 28 ⟨w.heap.size, 0, none⟩).run Tryz.prog w3 = .ok (.agg (r.cs h' 7 sh)) w3) := sp_ld r h' 7 sh k3
  clear hb2 k1 k2 HB1 HB2 HLD1 HZ1 HF HLv HA
  go_wp2_with (first | ((with_reducible refine str ?_ ?_ ?_ HST.out ?_); rfl; rfl; rfl) | ((with_reducible refine ldr ?_ ?_ HLD3.out ?_); rfl; rfl))
  refine (made_any r h' 7 sh w3).mono ?_
  rintro e w4 ⟨h2, n2, o, c, d, rfl, hb4, _, _, eh, en, hO⟩
  obtain rfl := eh Hh.out.1 Hh.out.2
  have e2 : n2 = 7 := by have := en (by omega) (by omega); omega
  subst e2
  have k4 := (hb4.block w.heap.size HZ3.out).trans k3
  have HB4 : Hid (Below w.heap.size w w4) := HB3.out.trans (hb4.mono HB3.out.size)
  have HZ4 : Hid (w.heap.size < w4.heap.size) := (Array.getElem?_eq_some_iff.1 k4).1
  clear hb4 k3 HB3 HLD3 HZ3 HST eh en
  obtain ⟨T, v, rfl, hA, hT, hC⟩ : ∃ T v, o = .iface T v ∧ Ab T 7 ∧ T ≠ 66 ∧ Core r h2 7 sh c w4 := by
    rcases hO with ⟨h, _⟩ | ⟨h, _⟩ | ⟨_, h⟩
    · have := hh.out; omega
    · have := hh.out; omega
    · exact h
  have hs : Sm T v := .inr hT
  have HAb : Hid (∀ W, Calls Tryz.prog 7 #[.iface T v] W fun e w' => e = .returned (.tuple #[.int .i64 7, .int .i64 0]) ∧ W = w') := fun W => Abilities_any hA (by decide) hs W
  have HA0 : Hid (∀ W, Calls Tryz.prog 17 #[.iface T v] W fun e w' => e = .returned (.tuple #[.iface T v, .bool true]) ∧ W = w') := fun W => As_Versioned hA hs W
  have HT0 : Hid (∀ W : World, W.cell? ⟨w4.heap.size, 0, none⟩ = some (.iface T v) → Calls Tryz.prog 21 #[.func (.func 9) #[] #[.pointer (some ⟨w4.heap.size, 0, none⟩)]] W fun e w' => e = .returned (.tuple #[.int .i64 0, .int .i64 0]) ∧ Below W.heap.size W w') := fun W h => Try_musts_0 hA v _ W h
  have HA1 : Hid (∀ W, Calls Tryz.prog 18 #[.iface T v] W fun e w' => e = .returned (.tuple #[.iface T v, .bool true]) ∧ W = w') := fun W => As_Indexed hA hs W
  have HT1 : Hid (∀ W : World, W.cell? ⟨w4.heap.size, 0, none⟩ = some (.iface T v) → Calls Tryz.prog 21 #[.func (.func 11) #[] #[.pointer (some ⟨w4.heap.size, 0, none⟩)]] W fun e w' => e = .returned (.tuple #[.int .i64 0, .int .i64 0]) ∧ Below W.heap.size W w') := fun W h => Try_musts_1 hA v _ W h
  have HA2 : Hid (∀ W, Calls Tryz.prog 19 #[.iface T v] W fun e w' => e = .returned (.tuple #[.iface T v, .bool true]) ∧ W = w') := fun W => As_Owned hA hs W
  have HT2 : Hid (∀ W : World, W.cell? ⟨w4.heap.size, 0, none⟩ = some (.iface T v) → Calls Tryz.prog 21 #[.func (.func 13) #[] #[.pointer (some ⟨w4.heap.size, 0, none⟩)]] W fun e w' => e = .returned (.tuple #[.int .i64 0, .int .i64 0]) ∧ Below W.heap.size W w') := fun W h => Try_musts_2 hA v _ W h
  have HA3 : Hid (∀ W, Calls Tryz.prog 20 #[.iface T v] W fun e w' => e = .returned (.tuple #[.nilIface, .bool false]) ∧ W = w') := fun W => As_Lazy hA hs W
  have HT3 : Hid (∀ W : World, W.cell? ⟨w4.heap.size, 0, none⟩ = some (.iface T v) → Calls Tryz.prog 21 #[.func (.func 15) #[] #[.pointer (some ⟨w4.heap.size, 0, none⟩)]] W fun e w' => e = .returned (.tuple #[.int .i64 1, .int .i64 9]) ∧ Below W.heap.size W w') := fun W h => Try_musts_3 hA v _ W h
  have HAO : Hid (∀ W, Calls Tryz.prog 22 #[.iface T v] W fun e w' => e = .returned (.tuple #[.iface T v, .bool true]) ∧ W = w') := fun W => As_Object hA hs W
  have HAT : Hid (∀ W, Calls Tryz.prog 23 #[.iface T v] W fun e w' => e = .returned (.tuple #[.pointer none, .bool false]) ∧ W = w') := fun W => As_Thing hT v W
  have HNi : Hid (∀ W, Calls Tryz.prog 8 #[.agg (r.cs h2 7 sh)] W fun e w' => e = .returned (.bool false) ∧ Below W.heap.size W w') := fun W => Nil_no r h2 7 sh (by have := hh.out; simp; omega) (by have := hh.out; simp; omega) W
  have HLD5 : Hid ((loadVar 28 ⟨w.heap.size, 0, none⟩).run Tryz.prog (w4.alloc (Obj.cells #[.iface T v, .pointer (some ⟨c, 0, none⟩), .pointer (some ⟨d, 0, none⟩)] 36)) = .ok (.agg (r.cs h2 7 sh)) (w4.alloc (Obj.cells #[.iface T v, .pointer (some ⟨c, 0, none⟩), .pointer (some ⟨d, 0, none⟩)] 36))) := sp_ld r h2 7 sh ((Below.heap_alloc _ _ _ HZ4.out).trans k4)
  have HB5 : Hid (Below w.heap.size w (w4.alloc (Obj.cells #[.iface T v, .pointer (some ⟨c, 0, none⟩), .pointer (some ⟨d, 0, none⟩)] 36))) := HB4.out.alloc HB4.out.size _
  have k5 := (Below.heap_alloc w4 (Obj.cells #[.iface T v, .pointer (some ⟨c, 0, none⟩), .pointer (some ⟨d, 0, none⟩)] 36) _ HZ4.out).trans k4
  have q5 : (w4.alloc (Obj.cells #[.iface T v, .pointer (some ⟨c, 0, none⟩), .pointer (some ⟨d, 0, none⟩)] 36)).heap[w4.heap.size]? = some (Obj.cells #[.iface T v, .pointer (some ⟨c, 0, none⟩), .pointer (some ⟨d, 0, none⟩)] 36) := heap_alloc_last _ _
  have c5 : Core r h2 7 sh c (w4.alloc (Obj.cells #[.iface T v, .pointer (some ⟨c, 0, none⟩), .pointer (some ⟨d, 0, none⟩)] 36)) := (Below.heap_alloc w4 (Obj.cells #[.iface T v, .pointer (some ⟨c, 0, none⟩), .pointer (some ⟨d, 0, none⟩)] 36) _ (Array.getElem?_eq_some_iff.1 hC).1).trans hC
  clear k4 hO hC hA hT hs hh
  go_wp2_with (first | (go_at_call 7; refine (HAb.out _).mono ?_; rintro e w' ⟨rfl, rfl⟩) | ((with_reducible refine ldr ?_ ?_ HLD5.out ?_); rfl; rfl))
  refine (HNi.out _).mono ?_
  rintro e w6 ⟨rfl, hb6⟩
  have HB6 : Hid (Below w.heap.size w w6) := HB5.out.trans (hb6.mono HB5.out.size)
  have k6 := (hb6.block _ (Array.getElem?_eq_some_iff.1 k5).1).trans k5
  have q6 := (hb6.block _ (Array.getElem?_eq_some_iff.1 q5).1).trans q5
  have c6 : Core r h2 7 sh c w6 := (hb6.block _ (Array.getElem?_eq_some_iff.1 c5).1).trans c5
  have x1 : w6.cell? ⟨w.heap.size, 1, none⟩ = some (.int .i64 7) := by rw [cell_of_row _ _ 1 _ _ _ k6]; rfl
  have x0 : w6.cell? ⟨w4.heap.size, 0, none⟩ = some (.iface T v) := by rw [cell_of_row _ _ 0 _ _ _ q6]; rfl
  have x0a : ∀ X, (w6.alloc X).cell? ⟨w4.heap.size, 0, none⟩ = some (.iface T v) := fun X => by rw [((Below.refl w6.heap.size w6).alloc (Nat.le_refl _) X).cell (p := ⟨w4.heap.size, 0, none⟩) (World.block_lt_of_cell? _ _ x0)]; exact x0
  have HQ6 : Hid (w6.heap[w4.heap.size]? = some (Obj.cells #[.iface T v, .pointer (some ⟨c, 0, none⟩), .pointer (some ⟨d, 0, none⟩)] 36) ∧ Core r h2 7 sh c w6) := ⟨q6, c6⟩
  clear hb6 k5 q5 c5 k6 q6 c6 HLD5 HNi HAb HB5
  go_wp2_with (first | (go_at_call 17; refine (HA0.out _).mono ?_; rintro e w' ⟨rfl, rfl⟩) | (go_at_call 18; refine (HA1.out _).mono ?_; rintro e w' ⟨rfl, rfl⟩) | (go_at_call 19; refine (HA2.out _).mono ?_; rintro e w' ⟨rfl, rfl⟩) | (go_at_call 20; refine (HA3.out _).mono ?_; rintro e w' ⟨rfl, rfl⟩))
  have m8 : ((w6.alloc (Obj.cells #[.func (.func 9) #[] #[.pointer (some ⟨w4.heap.size, 0, none⟩)], .func (.func 11) #[] #[.pointer (some ⟨w4.heap.size, 0, none⟩)], .func (.func 13) #[] #[.pointer (some ⟨w4.heap.size, 0, none⟩)], .func (.func 15) #[] #[.pointer (some ⟨w4.heap.size, 0, none⟩)]] 1)).alloc (Obj.cells #[.bool true, .bool true, .bool true, .bool false] 4)).heap[w6.heap.size]? = some (Obj.cells #[.func (.func 9) #[] #[.pointer (some ⟨w4.heap.size, 0, none⟩)], .func (.func 11) #[] #[.pointer (some ⟨w4.heap.size, 0, none⟩)], .func (.func 13) #[] #[.pointer (some ⟨w4.heap.size, 0, none⟩)], .func (.func 15) #[] #[.pointer (some ⟨w4.heap.size, 0, none⟩)]] 1) := al2_old _ _ _
  have s8 : ((w6.alloc (Obj.cells #[.func (.func 9) #[] #[.pointer (some ⟨w4.heap.size, 0, none⟩)], .func (.func 11) #[] #[.pointer (some ⟨w4.heap.size, 0, none⟩)], .func (.func 13) #[] #[.pointer (some ⟨w4.heap.size, 0, none⟩)], .func (.func 15) #[] #[.pointer (some ⟨w4.heap.size, 0, none⟩)]] 1)).alloc (Obj.cells #[.bool true, .bool true, .bool true, .bool false] 4)).heap[w6.heap.size + 1]? = some (Obj.cells #[.bool true, .bool true, .bool true, .bool false] 4) := al2_new _ _ _
  have b8 : Below w6.heap.size w6 ((w6.alloc (Obj.cells #[.func (.func 9) #[] #[.pointer (some ⟨w4.heap.size, 0, none⟩)], .func (.func 11) #[] #[.pointer (some ⟨w4.heap.size, 0, none⟩)], .func (.func 13) #[] #[.pointer (some ⟨w4.heap.size, 0, none⟩)], .func (.func 15) #[] #[.pointer (some ⟨w4.heap.size, 0, none⟩)]] 1)).alloc (Obj.cells #[.bool true, .bool true, .bool true, .bool false] 4)) := ((Below.refl _ _).alloc (Nat.le_refl _) _).alloc (by simp) _
  have q8 := (b8.block _ (Array.getElem?_eq_some_iff.1 HQ6.out.1).1).trans HQ6.out.1
  have c8 : Core r h2 7 sh c ((w6.alloc (Obj.cells #[.func (.func 9) #[] #[.pointer (some ⟨w4.heap.size, 0, none⟩)], .func (.func 11) #[] #[.pointer (some ⟨w4.heap.size, 0, none⟩)], .func (.func 13) #[] #[.pointer (some ⟨w4.heap.size, 0, none⟩)], .func (.func 15) #[] #[.pointer (some ⟨w4.heap.size, 0, none⟩)]] 1)).alloc (Obj.cells #[.bool true, .bool true, .bool true, .bool false] 4)) := (b8.block _ (Array.getElem?_eq_some_iff.1 HQ6.out.2).1).trans HQ6.out.2
  have HB8 : Hid (Below w.heap.size w ((w6.alloc (Obj.cells #[.func (.func 9) #[] #[.pointer (some ⟨w4.heap.size, 0, none⟩)], .func (.func 11) #[] #[.pointer (some ⟨w4.heap.size, 0, none⟩)], .func (.func 13) #[] #[.pointer (some ⟨w4.heap.size, 0, none⟩)], .func (.func 15) #[] #[.pointer (some ⟨w4.heap.size, 0, none⟩)]] 1)).alloc (Obj.cells #[.bool true, .bool true, .bool true, .bool false] 4))) := HB6.out.trans (b8.mono HB6.out.size)
  refine wp_loop_rounds 5 ?_
  generalize (w6.alloc (Obj.cells #[.func (.func 9) #[] #[.pointer (some ⟨w4.heap.size, 0, none⟩)], .func (.func 11) #[] #[.pointer (some ⟨w4.heap.size, 0, none⟩)], .func (.func 13) #[] #[.pointer (some ⟨w4.heap.size, 0, none⟩)], .func (.func 15) #[] #[.pointer (some ⟨w4.heap.size, 0, none⟩)]] 1)).alloc (Obj.cells #[.bool true, .bool true, .bool true, .bool false] 4) = w8 at m8 s8 b8 q8 c8 HB8 ⊢
  have HR8 : Hid (w8.heap[w6.heap.size]? = some (Obj.cells #[.func (.func 9) #[] #[.pointer (some ⟨w4.heap.size, 0, none⟩)], .func (.func 11) #[] #[.pointer (some ⟨w4.heap.size, 0, none⟩)], .func (.func 13) #[] #[.pointer (some ⟨w4.heap.size, 0, none⟩)], .func (.func 15) #[] #[.pointer (some ⟨w4.heap.size, 0, none⟩)]] 1) ∧ w8.heap[w6.heap.size + 1]? = some (Obj.cells #[.bool true, .bool true, .bool true, .bool false] 4) ∧ w8.heap[w4.heap.size]? = some (Obj.cells #[.iface T v, .pointer (some ⟨c, 0, none⟩), .pointer (some ⟨d, 0, none⟩)] 36) ∧ Core r h2 7 sh c w8) := ⟨m8, s8, q8, c8⟩
  clear m8 s8 b8 q8 c8 HQ6 x0 x0a x1 HB6 HA0 HA1 HA2 HA3
  have m_ : w8.cell? ⟨w6.heap.size, 0, none⟩ = some (.func (.func 9) #[] #[.pointer (some ⟨w4.heap.size, 0, none⟩)]) := by rw [cell_of_row _ _ 0 _ _ _ HR8.out.1]; rfl
  have s_ : w8.cell? ⟨w6.heap.size + 1, 0, none⟩ = some (.bool true) := by rw [cell_of_row _ _ 0 _ _ _ HR8.out.2.1]; rfl
  have HX : Hid (w8.cell? ⟨w4.heap.size, 0, none⟩ = some (.iface T v)) := by show _ = _; rw [cell_of_row _ _ 0 _ _ _ HR8.out.2.2.1]; rfl
  rw [rounds_succ]
  go_wp2_with fail
  refine (HT0.out _ HX.out).mono ?_
  rintro e w9 ⟨rfl, hb⟩
  have HR9 : Hid (w9.heap[w6.heap.size]? = some (Obj.cells #[.func (.func 9) #[] #[.pointer (some ⟨w4.heap.size, 0, none⟩)], .func (.func 11) #[] #[.pointer (some ⟨w4.heap.size, 0, none⟩)], .func (.func 13) #[] #[.pointer (some ⟨w4.heap.size, 0, none⟩)], .func (.func 15) #[] #[.pointer (some ⟨w4.heap.size, 0, none⟩)]] 1) ∧ w9.heap[w6.heap.size + 1]? = some (Obj.cells #[.bool true, .bool true, .bool true, .bool false] 4) ∧ w9.heap[w4.heap.size]? = some (Obj.cells #[.iface T v, .pointer (some ⟨c, 0, none⟩), .pointer (some ⟨d, 0, none⟩)] 36) ∧ Core r h2 7 sh c w9) :=
    ⟨(hb.block _ (Array.getElem?_eq_some_iff.1 HR8.out.1).1).trans HR8.out.1, (hb.block _ (Array.getElem?_eq_some_iff.1 HR8.out.2.1).1).trans HR8.out.2.1, (hb.block _ (Array.getElem?_eq_some_iff.1 HR8.out.2.2.1).1).trans HR8.out.2.2.1, (hb.block _ (Array.getElem?_eq_some_iff.1 HR8.out.2.2.2).1).trans HR8.out.2.2.2⟩
  have HB9 : Hid (Below w.heap.size w w9) := HB8.out.trans (hb.mono HB8.out.size)
  have s_ : w9.cell? ⟨w6.heap.size + 1, 0, none⟩ = some (.bool true) := by rw [cell_of_row _ _ 0 _ _ _ HR9.out.2.1]; rfl
  clear hb m_ HX HR8 HB8 HT0
  go_wp2_with fail
  clear s_
  have m_ : w9.cell? ⟨w6.heap.size, 1, none⟩ = some (.func (.func 11) #[] #[.pointer (some ⟨w4.heap.size, 0, none⟩)]) := by rw [cell_of_row _ _ 1 _ _ _ HR9.out.1]; rfl
  have s_ : w9.cell? ⟨w6.heap.size + 1, 1, none⟩ = some (.bool true) := by rw [cell_of_row _ _ 1 _ _ _ HR9.out.2.1]; rfl
  have HX : Hid (w9.cell? ⟨w4.heap.size, 0, none⟩ = some (.iface T v)) := by show _ = _; rw [cell_of_row _ _ 0 _ _ _ HR9.out.2.2.1]; rfl
  rw [rounds_succ]
  go_wp2_with fail
  refine (HT1.out _ HX.out).mono ?_
  rintro e w10 ⟨rfl, hb⟩
  have HR10 : Hid (w10.heap[w6.heap.size]? = some (Obj.cells #[.func (.func 9) #[] #[.pointer (some ⟨w4.heap.size, 0, none⟩)], .func (.func 11) #[] #[.pointer (some ⟨w4.heap.size, 0, none⟩)], .func (.func 13) #[] #[.pointer (some ⟨w4.heap.size, 0, none⟩)], .func (.func 15) #[] #[.pointer (some ⟨w4.heap.size, 0, none⟩)]] 1) ∧ w10.heap[w6.heap.size + 1]? = some (Obj.cells #[.bool true, .bool true, .bool true, .bool false] 4) ∧ w10.heap[w4.heap.size]? = some (Obj.cells #[.iface T v, .pointer (some ⟨c, 0, none⟩), .pointer (some ⟨d, 0, none⟩)] 36) ∧ Core r h2 7 sh c w10) :=
    ⟨(hb.block _ (Array.getElem?_eq_some_iff.1 HR9.out.1).1).trans HR9.out.1, (hb.block _ (Array.getElem?_eq_some_iff.1 HR9.out.2.1).1).trans HR9.out.2.1, (hb.block _ (Array.getElem?_eq_some_iff.1 HR9.out.2.2.1).1).trans HR9.out.2.2.1, (hb.block _ (Array.getElem?_eq_some_iff.1 HR9.out.2.2.2).1).trans HR9.out.2.2.2⟩
  have HB10 : Hid (Below w.heap.size w w10) := HB9.out.trans (hb.mono HB9.out.size)
  have s_ : w10.cell? ⟨w6.heap.size + 1, 1, none⟩ = some (.bool true) := by rw [cell_of_row _ _ 1 _ _ _ HR10.out.2.1]; rfl
  clear hb m_ HX HR9 HB9 HT1
  go_wp2_with fail
  clear s_
  have m_ : w10.cell? ⟨w6.heap.size, 2, none⟩ = some (.func (.func 13) #[] #[.pointer (some ⟨w4.heap.size, 0, none⟩)]) := by rw [cell_of_row _ _ 2 _ _ _ HR10.out.1]; rfl
  have s_ : w10.cell? ⟨w6.heap.size + 1, 2, none⟩ = some (.bool true) := by rw [cell_of_row _ _ 2 _ _ _ HR10.out.2.1]; rfl
  have HX : Hid (w10.cell? ⟨w4.heap.size, 0, none⟩ = some (.iface T v)) := by show _ = _; rw [cell_of_row _ _ 0 _ _ _ HR10.out.2.2.1]; rfl
  rw [rounds_succ]
  go_wp2_with fail
  refine (HT2.out _ HX.out).mono ?_
  rintro e w11 ⟨rfl, hb⟩
  have HR11 : Hid (w11.heap[w6.heap.size]? = some (Obj.cells #[.func (.func 9) #[] #[.pointer (some ⟨w4.heap.size, 0, none⟩)], .func (.func 11) #[] #[.pointer (some ⟨w4.heap.size, 0, none⟩)], .func (.func 13) #[] #[.pointer (some ⟨w4.heap.size, 0, none⟩)], .func (.func 15) #[] #[.pointer (some ⟨w4.heap.size, 0, none⟩)]] 1) ∧ w11.heap[w6.heap.size + 1]? = some (Obj.cells #[.bool true, .bool true, .bool true, .bool false] 4) ∧ w11.heap[w4.heap.size]? = some (Obj.cells #[.iface T v, .pointer (some ⟨c, 0, none⟩), .pointer (some ⟨d, 0, none⟩)] 36) ∧ Core r h2 7 sh c w11) :=
    ⟨(hb.block _ (Array.getElem?_eq_some_iff.1 HR10.out.1).1).trans HR10.out.1, (hb.block _ (Array.getElem?_eq_some_iff.1 HR10.out.2.1).1).trans HR10.out.2.1, (hb.block _ (Array.getElem?_eq_some_iff.1 HR10.out.2.2.1).1).trans HR10.out.2.2.1, (hb.block _ (Array.getElem?_eq_some_iff.1 HR10.out.2.2.2).1).trans HR10.out.2.2.2⟩
  have HB11 : Hid (Below w.heap.size w w11) := HB10.out.trans (hb.mono HB10.out.size)
  have s_ : w11.cell? ⟨w6.heap.size + 1, 2, none⟩ = some (.bool true) := by rw [cell_of_row _ _ 2 _ _ _ HR11.out.2.1]; rfl
  clear hb m_ HX HR10 HB10 HT2
  go_wp2_with fail
  clear s_
  have m_ : w11.cell? ⟨w6.heap.size, 3, none⟩ = some (.func (.func 15) #[] #[.pointer (some ⟨w4.heap.size, 0, none⟩)]) := by rw [cell_of_row _ _ 3 _ _ _ HR11.out.1]; rfl
  have s_ : w11.cell? ⟨w6.heap.size + 1, 3, none⟩ = some (.bool false) := by rw [cell_of_row _ _ 3 _ _ _ HR11.out.2.1]; rfl
  have HX : Hid (w11.cell? ⟨w4.heap.size, 0, none⟩ = some (.iface T v)) := by show _ = _; rw [cell_of_row _ _ 0 _ _ _ HR11.out.2.2.1]; rfl
  rw [rounds_succ]
  go_wp2_with fail
  refine (HT3.out _ HX.out).mono ?_
  rintro e w12 ⟨rfl, hb⟩
  have HR12 : Hid (w12.heap[w6.heap.size]? = some (Obj.cells #[.func (.func 9) #[] #[.pointer (some ⟨w4.heap.size, 0, none⟩)], .func (.func 11) #[] #[.pointer (some ⟨w4.heap.size, 0, none⟩)], .func (.func 13) #[] #[.pointer (some ⟨w4.heap.size, 0, none⟩)], .func (.func 15) #[] #[.pointer (some ⟨w4.heap.size, 0, none⟩)]] 1) ∧ w12.heap[w6.heap.size + 1]? = some (Obj.cells #[.bool true, .bool true, .bool true, .bool false] 4) ∧ w12.heap[w4.heap.size]? = some (Obj.cells #[.iface T v, .pointer (some ⟨c, 0, none⟩), .pointer (some ⟨d, 0, none⟩)] 36) ∧ Core r h2 7 sh c w12) :=
    ⟨(hb.block _ (Array.getElem?_eq_some_iff.1 HR11.out.1).1).trans HR11.out.1, (hb.block _ (Array.getElem?_eq_some_iff.1 HR11.out.2.1).1).trans HR11.out.2.1, (hb.block _ (Array.getElem?_eq_some_iff.1 HR11.out.2.2.1).1).trans HR11.out.2.2.1, (hb.block _ (Array.getElem?_eq_some_iff.1 HR11.out.2.2.2).1).trans HR11.out.2.2.2⟩
  have HB12 : Hid (Below w.heap.size w w12) := HB11.out.trans (hb.mono HB11.out.size)
  have s_ : w12.cell? ⟨w6.heap.size + 1, 3, none⟩ = some (.bool false) := by rw [cell_of_row _ _ 3 _ _ _ HR12.out.2.1]; rfl
  clear hb m_ HX HR11 HB11 HT3
  go_wp2_with fail
  clear s_
  have x0 : w12.cell? ⟨w4.heap.size, 0, none⟩ = some (.iface T v) := by rw [cell_of_row _ _ 0 _ _ _ HR12.out.2.2.1]; rfl
  have x1 : w12.cell? ⟨w4.heap.size, 1, none⟩ = some (.pointer (some ⟨c, 0, none⟩)) := by rw [cell_of_row _ _ 1 _ _ _ HR12.out.2.2.1]; rfl
  have HLC : Hid ((loadVar 70 ⟨c, 14, none⟩).run Tryz.prog w12 = .ok (.agg #[.int .i64 0, .int .i64 0, .int .i64 0, .int .i64 0, .int .i64 0, .int .i64 0, .int .i64 0, .int .i64 0, .int .i64 0]) w12) := calls_ld HR12.out.2.2.2
  have hq : ∀ W, (binOp .eql 70 (.agg #[.int .i64 0, .int .i64 0, .int .i64 0, .int .i64 0, .int .i64 0, .int .i64 0, .int .i64 0, .int .i64 0, .int .i64 0]) (.agg #[.int .i64 0, .int .i64 0, .int .i64 0, .int .i64 0, .int .i64 0, .int .i64 0, .int .i64 0, .int .i64 0, .int .i64 0])).run Tryz.prog W = .ok (.bool true) W := fun W => by kernel_rfl
  have hg : ∀ (x y : Operand) W, (eqGuard .eql 70 x y (.agg #[.int .i64 0, .int .i64 0, .int .i64 0, .int .i64 0, .int .i64 0, .int .i64 0, .int .i64 0, .int .i64 0, .int .i64 0]) (.agg #[.int .i64 0, .int .i64 0, .int .i64 0, .int .i64 0, .int .i64 0, .int .i64 0, .int .i64 0, .int .i64 0, .int .i64 0])).run Tryz.prog W = .ok () W := fun x y W => by kernel_rfl
  have hn : ∀ W, (binOp .neq 32 (.iface T v) .nilIface).run Tryz.prog W = .ok (.bool true) W := fun W => by kernel_rfl
  have hng : ∀ (x y : Operand) W, (eqGuard .neq 32 x y (.iface T v) .nilIface).run Tryz.prog W = .ok () W := fun x y W => by kernel_rfl
  clear HR12
  rw [rounds_succ]
  go_wp2_with (first | (go_at_call 22; refine (HAO.out _).mono ?_; rintro e w' ⟨rfl, rfl⟩) | (go_at_call 23; refine (HAT.out _).mono ?_; rintro e w' ⟨rfl, rfl⟩) | ((with_reducible refine ldr ?_ ?_ HLC.out ?_); rfl; rfl))
  go_ret
  exact ⟨rfl, HB12.out⟩

end Go.Proofs.YtbjjeleoimcboaaGreat

