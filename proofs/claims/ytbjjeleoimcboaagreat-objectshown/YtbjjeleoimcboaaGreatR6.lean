/- tenonref10.Fit, Nil; tenonmake.Object: what objects are made of descriptions. -/
import Derived.Test.YtbjjeleoimcboaaGreatR5
import Derived.Test.YtbjjeleoimcboaaGreatR4
namespace Go.Proofs.YtbjjeleoimcboaaGreat
open Go.RowKit

/-- a description's cells: what it holds, which abilities, which shape; the rest is kept as it is -/
structure Sr where
  (id : Int) (fa : Option Addr) (fl fc : Nat) (cl : ByteArray) (ve : Int) (ka : Option Addr) (kl kc : Nat) (ow : ByteArray) (gv : Int) (ld : Bool) (lo : Int) (pa wi : Int)
def Sr.cs (r : Sr) (h n sh : Int) : Array Value := #[.int .i64 h, .int .i64 n, .int .i64 sh, .int .u64 r.id, .slice r.fa r.fl r.fc, .string r.cl, .int .i64 r.ve, .slice r.ka r.kl r.kc, .string r.ow, .int .i64 r.gv, .bool r.ld, .int .i64 r.lo, .int .i64 r.pa, .int .i64 r.wi]

/-- a number made to fit below m -/
def fitM (m h : Int) : Int := (wrap64 (h.tmod m + m)).tmod m
theorem fit_eq (m h : Int) (hm : 0 < m) (hm2 : m ≤ 16) : (0 ≤ (wrap64 (h.tmod m + m)).tmod m ∧ (wrap64 (h.tmod m + m)).tmod m < m) ∧ (0 ≤ h → h < m → (wrap64 (h.tmod m + m)).tmod m = h) := by
  have h1 : h.tmod m < m := Int.tmod_lt_of_pos h hm
  have h2 : -m < h.tmod m := Int.lt_tmod_of_pos h hm
  have h3 : wrap64 (h.tmod m + m) = h.tmod m + m := by unfold wrap64; omega
  rw [h3]
  have h4 : 0 ≤ h.tmod m + m := by omega
  rw [Int.tmod_eq_emod_of_nonneg h4]
  refine ⟨⟨Int.emod_nonneg _ (by omega), Int.emod_lt_of_pos _ hm⟩, fun a b => ?_⟩
  rw [Int.tmod_eq_of_lt a b, Int.add_emod_right]
  exact Int.emod_eq_of_lt a b

set_option maxRecDepth 100000 in
set_option maxHeartbeats 1000000 in
theorem Fit_any (r : Sr) (h n sh : Int) (w : World) :
    Calls Tryz.prog 5 #[.agg (r.cs h n sh)] w fun e w' => e = .returned (.agg (r.cs (fitM 4 h) (fitM 16 n) sh)) ∧ Below w.heap.size w w' := by
  unfold Sr.cs
  go_enter Tryz.func5, Tryz.ntmps5
  go_wp2_with fail
  refine bodyPost_ret (v := .agg #[.int .i64 ((wrap64 (h.tmod 4 + 4)).tmod 4), .int .i64 ((wrap64 (n.tmod 16 + 16)).tmod 16), .int .i64 sh, .int .u64 r.id, .slice r.fa r.fl r.fc, .string r.cl, .int .i64 r.ve, .slice r.ka r.kl r.kc, .string r.ow, .int .i64 r.gv, .bool r.ld, .int .i64 r.lo, .int .i64 r.pa, .int .i64 r.wi]) (by simp [results, Tryz.results5, go_sem] <;> rfl) rfl ?_
  exact ⟨rfl, ((Below.refl _ _).alloc (Nat.le_refl _) _).alloc (by simp) _⟩
theorem fitM_eq (m h : Int) (hm : 0 < m) (hm2 : m ≤ 16) : (0 ≤ fitM m h ∧ fitM m h < m) ∧ (0 ≤ h → h < m → fitM m h = h) := fit_eq m h hm hm2
theorem Fit_ex (r : Sr) (h n sh : Int) (w : World) :
    Calls Tryz.prog 5 #[.agg (r.cs h n sh)] w fun e w' => ∃ h' n', e = .returned (.agg (r.cs h' n' sh)) ∧ Below w.heap.size w w' ∧ (0 ≤ h' ∧ h' < 4) ∧ (0 ≤ n' ∧ n' < 16) ∧ (0 ≤ h → h < 4 → h' = h) ∧ (0 ≤ n → n < 16 → n' = n) := by
  refine (Fit_any r h n sh w).mono ?_
  rintro e w' ⟨rfl, hb⟩
  obtain ⟨a1, a2⟩ := fitM_eq 4 h (by decide) (by decide)
  obtain ⟨b1, b2⟩ := fitM_eq 16 n (by decide) (by decide)
  exact ⟨_, _, rfl, hb, a1, b1, a2, b2⟩
end Go.Proofs.YtbjjeleoimcboaaGreat

/- tenonmake.pointer: a new object of the type that has just the abilities. -/
namespace Go.Proofs.YtbjjeleoimcboaaGreat
open Go.RowKit

set_option maxRecDepth 100000 in
set_option maxHeartbeats 2000000 in
theorem mk_pointer_0 (b : Nat) (w : World) (hc : w.cell? ⟨b, 1, none⟩ = some (.int .i64 0)) :
    Calls Tryz.prog 51 #[.pointer (some ⟨b, 0, none⟩)] w fun e w' => ∃ v, e = .returned (.iface 136 v) ∧ Below w.heap.size w w' := by
  go_enter Tryz.func51, Tryz.ntmps51
  go_wp2_with fail
  go_ret
  exact ⟨_, rfl, (Below.refl _ _).alloc (Nat.le_refl _) _⟩

set_option maxRecDepth 100000 in
set_option maxHeartbeats 2000000 in
theorem mk_pointer_1 (b : Nat) (w : World) (hc : w.cell? ⟨b, 1, none⟩ = some (.int .i64 1)) :
    Calls Tryz.prog 51 #[.pointer (some ⟨b, 0, none⟩)] w fun e w' => ∃ v, e = .returned (.iface 137 v) ∧ Below w.heap.size w w' := by
  go_enter Tryz.func51, Tryz.ntmps51
  go_wp2_with fail
  go_ret
  exact ⟨_, rfl, (Below.refl _ _).alloc (Nat.le_refl _) _⟩

set_option maxRecDepth 100000 in
set_option maxHeartbeats 2000000 in
theorem mk_pointer_2 (b : Nat) (w : World) (hc : w.cell? ⟨b, 1, none⟩ = some (.int .i64 2)) :
    Calls Tryz.prog 51 #[.pointer (some ⟨b, 0, none⟩)] w fun e w' => ∃ v, e = .returned (.iface 138 v) ∧ Below w.heap.size w w' := by
  go_enter Tryz.func51, Tryz.ntmps51
  go_wp2_with fail
  go_ret
  exact ⟨_, rfl, (Below.refl _ _).alloc (Nat.le_refl _) _⟩

set_option maxRecDepth 100000 in
set_option maxHeartbeats 2000000 in
theorem mk_pointer_3 (b : Nat) (w : World) (hc : w.cell? ⟨b, 1, none⟩ = some (.int .i64 3)) :
    Calls Tryz.prog 51 #[.pointer (some ⟨b, 0, none⟩)] w fun e w' => ∃ v, e = .returned (.iface 139 v) ∧ Below w.heap.size w w' := by
  go_enter Tryz.func51, Tryz.ntmps51
  go_wp2_with fail
  go_ret
  exact ⟨_, rfl, (Below.refl _ _).alloc (Nat.le_refl _) _⟩

set_option maxRecDepth 100000 in
set_option maxHeartbeats 2000000 in
theorem mk_pointer_4 (b : Nat) (w : World) (hc : w.cell? ⟨b, 1, none⟩ = some (.int .i64 4)) :
    Calls Tryz.prog 51 #[.pointer (some ⟨b, 0, none⟩)] w fun e w' => ∃ v, e = .returned (.iface 140 v) ∧ Below w.heap.size w w' := by
  go_enter Tryz.func51, Tryz.ntmps51
  go_wp2_with fail
  go_ret
  exact ⟨_, rfl, (Below.refl _ _).alloc (Nat.le_refl _) _⟩

set_option maxRecDepth 100000 in
set_option maxHeartbeats 2000000 in
theorem mk_pointer_5 (b : Nat) (w : World) (hc : w.cell? ⟨b, 1, none⟩ = some (.int .i64 5)) :
    Calls Tryz.prog 51 #[.pointer (some ⟨b, 0, none⟩)] w fun e w' => ∃ v, e = .returned (.iface 141 v) ∧ Below w.heap.size w w' := by
  go_enter Tryz.func51, Tryz.ntmps51
  go_wp2_with fail
  go_ret
  exact ⟨_, rfl, (Below.refl _ _).alloc (Nat.le_refl _) _⟩

set_option maxRecDepth 100000 in
set_option maxHeartbeats 2000000 in
theorem mk_pointer_6 (b : Nat) (w : World) (hc : w.cell? ⟨b, 1, none⟩ = some (.int .i64 6)) :
    Calls Tryz.prog 51 #[.pointer (some ⟨b, 0, none⟩)] w fun e w' => ∃ v, e = .returned (.iface 142 v) ∧ Below w.heap.size w w' := by
  go_enter Tryz.func51, Tryz.ntmps51
  go_wp2_with fail
  go_ret
  exact ⟨_, rfl, (Below.refl _ _).alloc (Nat.le_refl _) _⟩

set_option maxRecDepth 100000 in
set_option maxHeartbeats 2000000 in
theorem mk_pointer_7 (b : Nat) (w : World) (hc : w.cell? ⟨b, 1, none⟩ = some (.int .i64 7)) :
    Calls Tryz.prog 51 #[.pointer (some ⟨b, 0, none⟩)] w fun e w' => ∃ v, e = .returned (.iface 143 v) ∧ Below w.heap.size w w' := by
  go_enter Tryz.func51, Tryz.ntmps51
  go_wp2_with fail
  go_ret
  exact ⟨_, rfl, (Below.refl _ _).alloc (Nat.le_refl _) _⟩

set_option maxRecDepth 100000 in
set_option maxHeartbeats 2000000 in
theorem mk_pointer_8 (b : Nat) (w : World) (hc : w.cell? ⟨b, 1, none⟩ = some (.int .i64 8)) :
    Calls Tryz.prog 51 #[.pointer (some ⟨b, 0, none⟩)] w fun e w' => ∃ v, e = .returned (.iface 144 v) ∧ Below w.heap.size w w' := by
  go_enter Tryz.func51, Tryz.ntmps51
  go_wp2_with fail
  go_ret
  exact ⟨_, rfl, (Below.refl _ _).alloc (Nat.le_refl _) _⟩

set_option maxRecDepth 100000 in
set_option maxHeartbeats 2000000 in
theorem mk_pointer_9 (b : Nat) (w : World) (hc : w.cell? ⟨b, 1, none⟩ = some (.int .i64 9)) :
    Calls Tryz.prog 51 #[.pointer (some ⟨b, 0, none⟩)] w fun e w' => ∃ v, e = .returned (.iface 145 v) ∧ Below w.heap.size w w' := by
  go_enter Tryz.func51, Tryz.ntmps51
  go_wp2_with fail
  go_ret
  exact ⟨_, rfl, (Below.refl _ _).alloc (Nat.le_refl _) _⟩

set_option maxRecDepth 100000 in
set_option maxHeartbeats 2000000 in
theorem mk_pointer_10 (b : Nat) (w : World) (hc : w.cell? ⟨b, 1, none⟩ = some (.int .i64 10)) :
    Calls Tryz.prog 51 #[.pointer (some ⟨b, 0, none⟩)] w fun e w' => ∃ v, e = .returned (.iface 146 v) ∧ Below w.heap.size w w' := by
  go_enter Tryz.func51, Tryz.ntmps51
  go_wp2_with fail
  go_ret
  exact ⟨_, rfl, (Below.refl _ _).alloc (Nat.le_refl _) _⟩

set_option maxRecDepth 100000 in
set_option maxHeartbeats 2000000 in
theorem mk_pointer_11 (b : Nat) (w : World) (hc : w.cell? ⟨b, 1, none⟩ = some (.int .i64 11)) :
    Calls Tryz.prog 51 #[.pointer (some ⟨b, 0, none⟩)] w fun e w' => ∃ v, e = .returned (.iface 147 v) ∧ Below w.heap.size w w' := by
  go_enter Tryz.func51, Tryz.ntmps51
  go_wp2_with fail
  go_ret
  exact ⟨_, rfl, (Below.refl _ _).alloc (Nat.le_refl _) _⟩

set_option maxRecDepth 100000 in
set_option maxHeartbeats 2000000 in
theorem mk_pointer_12 (b : Nat) (w : World) (hc : w.cell? ⟨b, 1, none⟩ = some (.int .i64 12)) :
    Calls Tryz.prog 51 #[.pointer (some ⟨b, 0, none⟩)] w fun e w' => ∃ v, e = .returned (.iface 148 v) ∧ Below w.heap.size w w' := by
  go_enter Tryz.func51, Tryz.ntmps51
  go_wp2_with fail
  go_ret
  exact ⟨_, rfl, (Below.refl _ _).alloc (Nat.le_refl _) _⟩

set_option maxRecDepth 100000 in
set_option maxHeartbeats 2000000 in
theorem mk_pointer_13 (b : Nat) (w : World) (hc : w.cell? ⟨b, 1, none⟩ = some (.int .i64 13)) :
    Calls Tryz.prog 51 #[.pointer (some ⟨b, 0, none⟩)] w fun e w' => ∃ v, e = .returned (.iface 149 v) ∧ Below w.heap.size w w' := by
  go_enter Tryz.func51, Tryz.ntmps51
  go_wp2_with fail
  go_ret
  exact ⟨_, rfl, (Below.refl _ _).alloc (Nat.le_refl _) _⟩

set_option maxRecDepth 100000 in
set_option maxHeartbeats 2000000 in
theorem mk_pointer_14 (b : Nat) (w : World) (hc : w.cell? ⟨b, 1, none⟩ = some (.int .i64 14)) :
    Calls Tryz.prog 51 #[.pointer (some ⟨b, 0, none⟩)] w fun e w' => ∃ v, e = .returned (.iface 150 v) ∧ Below w.heap.size w w' := by
  go_enter Tryz.func51, Tryz.ntmps51
  go_wp2_with fail
  go_ret
  exact ⟨_, rfl, (Below.refl _ _).alloc (Nat.le_refl _) _⟩

set_option maxRecDepth 100000 in
set_option maxHeartbeats 2000000 in
theorem mk_pointer_15 (b : Nat) (w : World) (hc : w.cell? ⟨b, 1, none⟩ = some (.int .i64 15)) :
    Calls Tryz.prog 51 #[.pointer (some ⟨b, 0, none⟩)] w fun e w' => ∃ v, e = .returned (.iface 151 v) ∧ Below w.heap.size w w' := by
  go_enter Tryz.func51, Tryz.ntmps51
  go_wp2_with fail
  go_ret
  exact ⟨_, rfl, (Below.refl _ _).alloc (Nat.le_refl _) _⟩

theorem mk_pointer_any (n : Nat) (hn : n < 16) (b : Nat) (w : World) (hc : w.cell? ⟨b, 1, none⟩ = some (.int .i64 (n : Int))) :
    Calls Tryz.prog 51 #[.pointer (some ⟨b, 0, none⟩)] w fun e w' => ∃ T v, e = .returned (.iface T v) ∧ Ab T n ∧ T ≠ 66 ∧ Below w.heap.size w w' := by
  have hcase : n = 0 ∨ n = 1 ∨ n = 2 ∨ n = 3 ∨ n = 4 ∨ n = 5 ∨ n = 6 ∨ n = 7 ∨ n = 8 ∨ n = 9 ∨ n = 10 ∨ n = 11 ∨ n = 12 ∨ n = 13 ∨ n = 14 ∨ n = 15 := by omega
  rcases hcase with rfl | rfl | rfl | rfl | rfl | rfl | rfl | rfl | rfl | rfl | rfl | rfl | rfl | rfl | rfl | rfl
  · exact (mk_pointer_0 b w hc).mono fun e w' ⟨v, he, hb⟩ => ⟨_, v, he, Ab_p0, by decide, hb⟩
  · exact (mk_pointer_1 b w hc).mono fun e w' ⟨v, he, hb⟩ => ⟨_, v, he, Ab_p1, by decide, hb⟩
  · exact (mk_pointer_2 b w hc).mono fun e w' ⟨v, he, hb⟩ => ⟨_, v, he, Ab_p2, by decide, hb⟩
  · exact (mk_pointer_3 b w hc).mono fun e w' ⟨v, he, hb⟩ => ⟨_, v, he, Ab_p3, by decide, hb⟩
  · exact (mk_pointer_4 b w hc).mono fun e w' ⟨v, he, hb⟩ => ⟨_, v, he, Ab_p4, by decide, hb⟩
  · exact (mk_pointer_5 b w hc).mono fun e w' ⟨v, he, hb⟩ => ⟨_, v, he, Ab_p5, by decide, hb⟩
  · exact (mk_pointer_6 b w hc).mono fun e w' ⟨v, he, hb⟩ => ⟨_, v, he, Ab_p6, by decide, hb⟩
  · exact (mk_pointer_7 b w hc).mono fun e w' ⟨v, he, hb⟩ => ⟨_, v, he, Ab_p7, by decide, hb⟩
  · exact (mk_pointer_8 b w hc).mono fun e w' ⟨v, he, hb⟩ => ⟨_, v, he, Ab_p8, by decide, hb⟩
  · exact (mk_pointer_9 b w hc).mono fun e w' ⟨v, he, hb⟩ => ⟨_, v, he, Ab_p9, by decide, hb⟩
  · exact (mk_pointer_10 b w hc).mono fun e w' ⟨v, he, hb⟩ => ⟨_, v, he, Ab_p10, by decide, hb⟩
  · exact (mk_pointer_11 b w hc).mono fun e w' ⟨v, he, hb⟩ => ⟨_, v, he, Ab_p11, by decide, hb⟩
  · exact (mk_pointer_12 b w hc).mono fun e w' ⟨v, he, hb⟩ => ⟨_, v, he, Ab_p12, by decide, hb⟩
  · exact (mk_pointer_13 b w hc).mono fun e w' ⟨v, he, hb⟩ => ⟨_, v, he, Ab_p13, by decide, hb⟩
  · exact (mk_pointer_14 b w hc).mono fun e w' ⟨v, he, hb⟩ => ⟨_, v, he, Ab_p14, by decide, hb⟩
  · exact (mk_pointer_15 b w hc).mono fun e w' ⟨v, he, hb⟩ => ⟨_, v, he, Ab_p15, by decide, hb⟩
end Go.Proofs.YtbjjeleoimcboaaGreat

/- tenonmake.value: likewise, of a struct's type. -/
namespace Go.Proofs.YtbjjeleoimcboaaGreat
open Go.RowKit

set_option maxRecDepth 100000 in
set_option maxHeartbeats 2000000 in
theorem mk_value_0 (b : Nat) (w : World) (hc : w.cell? ⟨b, 1, none⟩ = some (.int .i64 0)) :
    Calls Tryz.prog 50 #[.pointer (some ⟨b, 0, none⟩)] w fun e w' => ∃ v, e = .returned (.iface 153 v) ∧ w = w' := by
  go_enter Tryz.func50, Tryz.ntmps50
  go_wp2_with fail
  go_ret
  exact ⟨_, rfl, rfl⟩

set_option maxRecDepth 100000 in
set_option maxHeartbeats 2000000 in
theorem mk_value_1 (b : Nat) (w : World) (hc : w.cell? ⟨b, 1, none⟩ = some (.int .i64 1)) :
    Calls Tryz.prog 50 #[.pointer (some ⟨b, 0, none⟩)] w fun e w' => ∃ v, e = .returned (.iface 155 v) ∧ w = w' := by
  go_enter Tryz.func50, Tryz.ntmps50
  go_wp2_with fail
  go_ret
  exact ⟨_, rfl, rfl⟩

set_option maxRecDepth 100000 in
set_option maxHeartbeats 2000000 in
theorem mk_value_2 (b : Nat) (w : World) (hc : w.cell? ⟨b, 1, none⟩ = some (.int .i64 2)) :
    Calls Tryz.prog 50 #[.pointer (some ⟨b, 0, none⟩)] w fun e w' => ∃ v, e = .returned (.iface 157 v) ∧ w = w' := by
  go_enter Tryz.func50, Tryz.ntmps50
  go_wp2_with fail
  go_ret
  exact ⟨_, rfl, rfl⟩

set_option maxRecDepth 100000 in
set_option maxHeartbeats 2000000 in
theorem mk_value_3 (b : Nat) (w : World) (hc : w.cell? ⟨b, 1, none⟩ = some (.int .i64 3)) :
    Calls Tryz.prog 50 #[.pointer (some ⟨b, 0, none⟩)] w fun e w' => ∃ v, e = .returned (.iface 159 v) ∧ w = w' := by
  go_enter Tryz.func50, Tryz.ntmps50
  go_wp2_with fail
  go_ret
  exact ⟨_, rfl, rfl⟩

set_option maxRecDepth 100000 in
set_option maxHeartbeats 2000000 in
theorem mk_value_4 (b : Nat) (w : World) (hc : w.cell? ⟨b, 1, none⟩ = some (.int .i64 4)) :
    Calls Tryz.prog 50 #[.pointer (some ⟨b, 0, none⟩)] w fun e w' => ∃ v, e = .returned (.iface 161 v) ∧ w = w' := by
  go_enter Tryz.func50, Tryz.ntmps50
  go_wp2_with fail
  go_ret
  exact ⟨_, rfl, rfl⟩

set_option maxRecDepth 100000 in
set_option maxHeartbeats 2000000 in
theorem mk_value_5 (b : Nat) (w : World) (hc : w.cell? ⟨b, 1, none⟩ = some (.int .i64 5)) :
    Calls Tryz.prog 50 #[.pointer (some ⟨b, 0, none⟩)] w fun e w' => ∃ v, e = .returned (.iface 163 v) ∧ w = w' := by
  go_enter Tryz.func50, Tryz.ntmps50
  go_wp2_with fail
  go_ret
  exact ⟨_, rfl, rfl⟩

set_option maxRecDepth 100000 in
set_option maxHeartbeats 2000000 in
theorem mk_value_6 (b : Nat) (w : World) (hc : w.cell? ⟨b, 1, none⟩ = some (.int .i64 6)) :
    Calls Tryz.prog 50 #[.pointer (some ⟨b, 0, none⟩)] w fun e w' => ∃ v, e = .returned (.iface 165 v) ∧ w = w' := by
  go_enter Tryz.func50, Tryz.ntmps50
  go_wp2_with fail
  go_ret
  exact ⟨_, rfl, rfl⟩

set_option maxRecDepth 100000 in
set_option maxHeartbeats 2000000 in
theorem mk_value_7 (b : Nat) (w : World) (hc : w.cell? ⟨b, 1, none⟩ = some (.int .i64 7)) :
    Calls Tryz.prog 50 #[.pointer (some ⟨b, 0, none⟩)] w fun e w' => ∃ v, e = .returned (.iface 167 v) ∧ w = w' := by
  go_enter Tryz.func50, Tryz.ntmps50
  go_wp2_with fail
  go_ret
  exact ⟨_, rfl, rfl⟩

set_option maxRecDepth 100000 in
set_option maxHeartbeats 2000000 in
theorem mk_value_8 (b : Nat) (w : World) (hc : w.cell? ⟨b, 1, none⟩ = some (.int .i64 8)) :
    Calls Tryz.prog 50 #[.pointer (some ⟨b, 0, none⟩)] w fun e w' => ∃ v, e = .returned (.iface 169 v) ∧ w = w' := by
  go_enter Tryz.func50, Tryz.ntmps50
  go_wp2_with fail
  go_ret
  exact ⟨_, rfl, rfl⟩

set_option maxRecDepth 100000 in
set_option maxHeartbeats 2000000 in
theorem mk_value_9 (b : Nat) (w : World) (hc : w.cell? ⟨b, 1, none⟩ = some (.int .i64 9)) :
    Calls Tryz.prog 50 #[.pointer (some ⟨b, 0, none⟩)] w fun e w' => ∃ v, e = .returned (.iface 171 v) ∧ w = w' := by
  go_enter Tryz.func50, Tryz.ntmps50
  go_wp2_with fail
  go_ret
  exact ⟨_, rfl, rfl⟩

set_option maxRecDepth 100000 in
set_option maxHeartbeats 2000000 in
theorem mk_value_10 (b : Nat) (w : World) (hc : w.cell? ⟨b, 1, none⟩ = some (.int .i64 10)) :
    Calls Tryz.prog 50 #[.pointer (some ⟨b, 0, none⟩)] w fun e w' => ∃ v, e = .returned (.iface 173 v) ∧ w = w' := by
  go_enter Tryz.func50, Tryz.ntmps50
  go_wp2_with fail
  go_ret
  exact ⟨_, rfl, rfl⟩

set_option maxRecDepth 100000 in
set_option maxHeartbeats 2000000 in
theorem mk_value_11 (b : Nat) (w : World) (hc : w.cell? ⟨b, 1, none⟩ = some (.int .i64 11)) :
    Calls Tryz.prog 50 #[.pointer (some ⟨b, 0, none⟩)] w fun e w' => ∃ v, e = .returned (.iface 175 v) ∧ w = w' := by
  go_enter Tryz.func50, Tryz.ntmps50
  go_wp2_with fail
  go_ret
  exact ⟨_, rfl, rfl⟩

set_option maxRecDepth 100000 in
set_option maxHeartbeats 2000000 in
theorem mk_value_12 (b : Nat) (w : World) (hc : w.cell? ⟨b, 1, none⟩ = some (.int .i64 12)) :
    Calls Tryz.prog 50 #[.pointer (some ⟨b, 0, none⟩)] w fun e w' => ∃ v, e = .returned (.iface 177 v) ∧ w = w' := by
  go_enter Tryz.func50, Tryz.ntmps50
  go_wp2_with fail
  go_ret
  exact ⟨_, rfl, rfl⟩

set_option maxRecDepth 100000 in
set_option maxHeartbeats 2000000 in
theorem mk_value_13 (b : Nat) (w : World) (hc : w.cell? ⟨b, 1, none⟩ = some (.int .i64 13)) :
    Calls Tryz.prog 50 #[.pointer (some ⟨b, 0, none⟩)] w fun e w' => ∃ v, e = .returned (.iface 179 v) ∧ w = w' := by
  go_enter Tryz.func50, Tryz.ntmps50
  go_wp2_with fail
  go_ret
  exact ⟨_, rfl, rfl⟩

set_option maxRecDepth 100000 in
set_option maxHeartbeats 2000000 in
theorem mk_value_14 (b : Nat) (w : World) (hc : w.cell? ⟨b, 1, none⟩ = some (.int .i64 14)) :
    Calls Tryz.prog 50 #[.pointer (some ⟨b, 0, none⟩)] w fun e w' => ∃ v, e = .returned (.iface 181 v) ∧ w = w' := by
  go_enter Tryz.func50, Tryz.ntmps50
  go_wp2_with fail
  go_ret
  exact ⟨_, rfl, rfl⟩

set_option maxRecDepth 100000 in
set_option maxHeartbeats 2000000 in
theorem mk_value_15 (b : Nat) (w : World) (hc : w.cell? ⟨b, 1, none⟩ = some (.int .i64 15)) :
    Calls Tryz.prog 50 #[.pointer (some ⟨b, 0, none⟩)] w fun e w' => ∃ v, e = .returned (.iface 121 v) ∧ w = w' := by
  go_enter Tryz.func50, Tryz.ntmps50
  go_wp2_with fail
  go_ret
  exact ⟨_, rfl, rfl⟩

theorem mk_value_any (n : Nat) (hn : n < 16) (b : Nat) (w : World) (hc : w.cell? ⟨b, 1, none⟩ = some (.int .i64 (n : Int))) :
    Calls Tryz.prog 50 #[.pointer (some ⟨b, 0, none⟩)] w fun e w' => ∃ T v, e = .returned (.iface T v) ∧ Ab T n ∧ T ≠ 66 ∧ w = w' := by
  have hcase : n = 0 ∨ n = 1 ∨ n = 2 ∨ n = 3 ∨ n = 4 ∨ n = 5 ∨ n = 6 ∨ n = 7 ∨ n = 8 ∨ n = 9 ∨ n = 10 ∨ n = 11 ∨ n = 12 ∨ n = 13 ∨ n = 14 ∨ n = 15 := by omega
  rcases hcase with rfl | rfl | rfl | rfl | rfl | rfl | rfl | rfl | rfl | rfl | rfl | rfl | rfl | rfl | rfl | rfl
  · exact (mk_value_0 b w hc).mono fun e w' ⟨v, he, hb⟩ => ⟨_, v, he, Ab_s0, by decide, hb⟩
  · exact (mk_value_1 b w hc).mono fun e w' ⟨v, he, hb⟩ => ⟨_, v, he, Ab_s1, by decide, hb⟩
  · exact (mk_value_2 b w hc).mono fun e w' ⟨v, he, hb⟩ => ⟨_, v, he, Ab_s2, by decide, hb⟩
  · exact (mk_value_3 b w hc).mono fun e w' ⟨v, he, hb⟩ => ⟨_, v, he, Ab_s3, by decide, hb⟩
  · exact (mk_value_4 b w hc).mono fun e w' ⟨v, he, hb⟩ => ⟨_, v, he, Ab_s4, by decide, hb⟩
  · exact (mk_value_5 b w hc).mono fun e w' ⟨v, he, hb⟩ => ⟨_, v, he, Ab_s5, by decide, hb⟩
  · exact (mk_value_6 b w hc).mono fun e w' ⟨v, he, hb⟩ => ⟨_, v, he, Ab_s6, by decide, hb⟩
  · exact (mk_value_7 b w hc).mono fun e w' ⟨v, he, hb⟩ => ⟨_, v, he, Ab_s7, by decide, hb⟩
  · exact (mk_value_8 b w hc).mono fun e w' ⟨v, he, hb⟩ => ⟨_, v, he, Ab_s8, by decide, hb⟩
  · exact (mk_value_9 b w hc).mono fun e w' ⟨v, he, hb⟩ => ⟨_, v, he, Ab_s9, by decide, hb⟩
  · exact (mk_value_10 b w hc).mono fun e w' ⟨v, he, hb⟩ => ⟨_, v, he, Ab_s10, by decide, hb⟩
  · exact (mk_value_11 b w hc).mono fun e w' ⟨v, he, hb⟩ => ⟨_, v, he, Ab_s11, by decide, hb⟩
  · exact (mk_value_12 b w hc).mono fun e w' ⟨v, he, hb⟩ => ⟨_, v, he, Ab_s12, by decide, hb⟩
  · exact (mk_value_13 b w hc).mono fun e w' ⟨v, he, hb⟩ => ⟨_, v, he, Ab_s13, by decide, hb⟩
  · exact (mk_value_14 b w hc).mono fun e w' ⟨v, he, hb⟩ => ⟨_, v, he, Ab_s14, by decide, hb⟩
  · exact (mk_value_15 b w hc).mono fun e w' ⟨v, he, hb⟩ => ⟨_, v, he, Ab_s15, by decide, hb⟩
end Go.Proofs.YtbjjeleoimcboaaGreat

/- tenonmake.foreign: a nil pointer of the type. -/
namespace Go.Proofs.YtbjjeleoimcboaaGreat
open Go.RowKit

set_option maxRecDepth 100000 in
set_option maxHeartbeats 2000000 in
theorem mk_foreign_0 (w : World) :
    Calls Tryz.prog 49 #[.int .i64 0] w fun e w' => e = .returned (.iface 136 (.pointer none)) ∧ w = w' := by
  go_enter Tryz.func49, Tryz.ntmps49
  go_wp2_with fail
  go_ret
  exact ⟨rfl, rfl⟩

set_option maxRecDepth 100000 in
set_option maxHeartbeats 2000000 in
theorem mk_foreign_1 (w : World) :
    Calls Tryz.prog 49 #[.int .i64 1] w fun e w' => e = .returned (.iface 137 (.pointer none)) ∧ w = w' := by
  go_enter Tryz.func49, Tryz.ntmps49
  go_wp2_with fail
  go_ret
  exact ⟨rfl, rfl⟩

set_option maxRecDepth 100000 in
set_option maxHeartbeats 2000000 in
theorem mk_foreign_2 (w : World) :
    Calls Tryz.prog 49 #[.int .i64 2] w fun e w' => e = .returned (.iface 138 (.pointer none)) ∧ w = w' := by
  go_enter Tryz.func49, Tryz.ntmps49
  go_wp2_with fail
  go_ret
  exact ⟨rfl, rfl⟩

set_option maxRecDepth 100000 in
set_option maxHeartbeats 2000000 in
theorem mk_foreign_3 (w : World) :
    Calls Tryz.prog 49 #[.int .i64 3] w fun e w' => e = .returned (.iface 139 (.pointer none)) ∧ w = w' := by
  go_enter Tryz.func49, Tryz.ntmps49
  go_wp2_with fail
  go_ret
  exact ⟨rfl, rfl⟩

set_option maxRecDepth 100000 in
set_option maxHeartbeats 2000000 in
theorem mk_foreign_4 (w : World) :
    Calls Tryz.prog 49 #[.int .i64 4] w fun e w' => e = .returned (.iface 140 (.pointer none)) ∧ w = w' := by
  go_enter Tryz.func49, Tryz.ntmps49
  go_wp2_with fail
  go_ret
  exact ⟨rfl, rfl⟩

set_option maxRecDepth 100000 in
set_option maxHeartbeats 2000000 in
theorem mk_foreign_5 (w : World) :
    Calls Tryz.prog 49 #[.int .i64 5] w fun e w' => e = .returned (.iface 141 (.pointer none)) ∧ w = w' := by
  go_enter Tryz.func49, Tryz.ntmps49
  go_wp2_with fail
  go_ret
  exact ⟨rfl, rfl⟩

set_option maxRecDepth 100000 in
set_option maxHeartbeats 2000000 in
theorem mk_foreign_6 (w : World) :
    Calls Tryz.prog 49 #[.int .i64 6] w fun e w' => e = .returned (.iface 142 (.pointer none)) ∧ w = w' := by
  go_enter Tryz.func49, Tryz.ntmps49
  go_wp2_with fail
  go_ret
  exact ⟨rfl, rfl⟩

set_option maxRecDepth 100000 in
set_option maxHeartbeats 2000000 in
theorem mk_foreign_7 (w : World) :
    Calls Tryz.prog 49 #[.int .i64 7] w fun e w' => e = .returned (.iface 143 (.pointer none)) ∧ w = w' := by
  go_enter Tryz.func49, Tryz.ntmps49
  go_wp2_with fail
  go_ret
  exact ⟨rfl, rfl⟩

set_option maxRecDepth 100000 in
set_option maxHeartbeats 2000000 in
theorem mk_foreign_8 (w : World) :
    Calls Tryz.prog 49 #[.int .i64 8] w fun e w' => e = .returned (.iface 144 (.pointer none)) ∧ w = w' := by
  go_enter Tryz.func49, Tryz.ntmps49
  go_wp2_with fail
  go_ret
  exact ⟨rfl, rfl⟩

set_option maxRecDepth 100000 in
set_option maxHeartbeats 2000000 in
theorem mk_foreign_9 (w : World) :
    Calls Tryz.prog 49 #[.int .i64 9] w fun e w' => e = .returned (.iface 145 (.pointer none)) ∧ w = w' := by
  go_enter Tryz.func49, Tryz.ntmps49
  go_wp2_with fail
  go_ret
  exact ⟨rfl, rfl⟩

set_option maxRecDepth 100000 in
set_option maxHeartbeats 2000000 in
theorem mk_foreign_10 (w : World) :
    Calls Tryz.prog 49 #[.int .i64 10] w fun e w' => e = .returned (.iface 146 (.pointer none)) ∧ w = w' := by
  go_enter Tryz.func49, Tryz.ntmps49
  go_wp2_with fail
  go_ret
  exact ⟨rfl, rfl⟩

set_option maxRecDepth 100000 in
set_option maxHeartbeats 2000000 in
theorem mk_foreign_11 (w : World) :
    Calls Tryz.prog 49 #[.int .i64 11] w fun e w' => e = .returned (.iface 147 (.pointer none)) ∧ w = w' := by
  go_enter Tryz.func49, Tryz.ntmps49
  go_wp2_with fail
  go_ret
  exact ⟨rfl, rfl⟩

set_option maxRecDepth 100000 in
set_option maxHeartbeats 2000000 in
theorem mk_foreign_12 (w : World) :
    Calls Tryz.prog 49 #[.int .i64 12] w fun e w' => e = .returned (.iface 148 (.pointer none)) ∧ w = w' := by
  go_enter Tryz.func49, Tryz.ntmps49
  go_wp2_with fail
  go_ret
  exact ⟨rfl, rfl⟩

set_option maxRecDepth 100000 in
set_option maxHeartbeats 2000000 in
theorem mk_foreign_13 (w : World) :
    Calls Tryz.prog 49 #[.int .i64 13] w fun e w' => e = .returned (.iface 149 (.pointer none)) ∧ w = w' := by
  go_enter Tryz.func49, Tryz.ntmps49
  go_wp2_with fail
  go_ret
  exact ⟨rfl, rfl⟩

set_option maxRecDepth 100000 in
set_option maxHeartbeats 2000000 in
theorem mk_foreign_14 (w : World) :
    Calls Tryz.prog 49 #[.int .i64 14] w fun e w' => e = .returned (.iface 150 (.pointer none)) ∧ w = w' := by
  go_enter Tryz.func49, Tryz.ntmps49
  go_wp2_with fail
  go_ret
  exact ⟨rfl, rfl⟩

set_option maxRecDepth 100000 in
set_option maxHeartbeats 2000000 in
theorem mk_foreign_15 (w : World) :
    Calls Tryz.prog 49 #[.int .i64 15] w fun e w' => e = .returned (.iface 151 (.pointer none)) ∧ w = w' := by
  go_enter Tryz.func49, Tryz.ntmps49
  go_wp2_with fail
  go_ret
  exact ⟨rfl, rfl⟩

theorem mk_foreign_any (n : Nat) (hn : n < 16) (w : World) :
    Calls Tryz.prog 49 #[.int .i64 (n : Int)] w fun e w' => ∃ T v, e = .returned (.iface T v) ∧ Ab T n ∧ T ≠ 66 ∧ w = w' := by
  have hcase : n = 0 ∨ n = 1 ∨ n = 2 ∨ n = 3 ∨ n = 4 ∨ n = 5 ∨ n = 6 ∨ n = 7 ∨ n = 8 ∨ n = 9 ∨ n = 10 ∨ n = 11 ∨ n = 12 ∨ n = 13 ∨ n = 14 ∨ n = 15 := by omega
  rcases hcase with rfl | rfl | rfl | rfl | rfl | rfl | rfl | rfl | rfl | rfl | rfl | rfl | rfl | rfl | rfl | rfl
  · exact (mk_foreign_0 w).mono fun e w' ⟨he, hb⟩ => ⟨_, _, he, Ab_p0, by decide, hb⟩
  · exact (mk_foreign_1 w).mono fun e w' ⟨he, hb⟩ => ⟨_, _, he, Ab_p1, by decide, hb⟩
  · exact (mk_foreign_2 w).mono fun e w' ⟨he, hb⟩ => ⟨_, _, he, Ab_p2, by decide, hb⟩
  · exact (mk_foreign_3 w).mono fun e w' ⟨he, hb⟩ => ⟨_, _, he, Ab_p3, by decide, hb⟩
  · exact (mk_foreign_4 w).mono fun e w' ⟨he, hb⟩ => ⟨_, _, he, Ab_p4, by decide, hb⟩
  · exact (mk_foreign_5 w).mono fun e w' ⟨he, hb⟩ => ⟨_, _, he, Ab_p5, by decide, hb⟩
  · exact (mk_foreign_6 w).mono fun e w' ⟨he, hb⟩ => ⟨_, _, he, Ab_p6, by decide, hb⟩
  · exact (mk_foreign_7 w).mono fun e w' ⟨he, hb⟩ => ⟨_, _, he, Ab_p7, by decide, hb⟩
  · exact (mk_foreign_8 w).mono fun e w' ⟨he, hb⟩ => ⟨_, _, he, Ab_p8, by decide, hb⟩
  · exact (mk_foreign_9 w).mono fun e w' ⟨he, hb⟩ => ⟨_, _, he, Ab_p9, by decide, hb⟩
  · exact (mk_foreign_10 w).mono fun e w' ⟨he, hb⟩ => ⟨_, _, he, Ab_p10, by decide, hb⟩
  · exact (mk_foreign_11 w).mono fun e w' ⟨he, hb⟩ => ⟨_, _, he, Ab_p11, by decide, hb⟩
  · exact (mk_foreign_12 w).mono fun e w' ⟨he, hb⟩ => ⟨_, _, he, Ab_p12, by decide, hb⟩
  · exact (mk_foreign_13 w).mono fun e w' ⟨he, hb⟩ => ⟨_, _, he, Ab_p13, by decide, hb⟩
  · exact (mk_foreign_14 w).mono fun e w' ⟨he, hb⟩ => ⟨_, _, he, Ab_p14, by decide, hb⟩
  · exact (mk_foreign_15 w).mono fun e w' ⟨he, hb⟩ => ⟨_, _, he, Ab_p15, by decide, hb⟩
end Go.Proofs.YtbjjeleoimcboaaGreat

/- tenonmake.Object and tenonlaw10.made: an object of a description. -/
namespace Go.Proofs.YtbjjeleoimcboaaGreat
open Go.RowKit

def zs : Array Value := #[.int .i64 0, .int .i64 0, .int .i64 0, .int .i64 0, .int .i64 0, .int .i64 0, .int .i64 0, .int .i64 0, .int .i64 0]

set_option maxRecDepth 100000 in
set_option maxHeartbeats 2000000 in
theorem Object_nil (r : Sr) (h sh : Int) (n : Nat) (hh : h = 1 ∨ h = 2) (w : World) :
    Calls Tryz.prog 29 #[.agg (r.cs h n sh)] w fun e w' => e = .returned (.tuple #[.nilIface, .pointer (some ⟨w.heap.size + 1, 0, none⟩)]) ∧ Below w.heap.size w w' := by
  unfold Sr.cs
  rcases hh with rfl | rfl
  · go_enter Tryz.func29, Tryz.ntmps29
    go_wp2_with fail
    go_ret2
    exact ⟨rfl, ((Below.refl _ _).alloc (Nat.le_refl _) _).alloc (by simp) _⟩
  · go_enter Tryz.func29, Tryz.ntmps29
    go_wp2_with fail
    go_ret2
    exact ⟨rfl, ((Below.refl _ _).alloc (Nat.le_refl _) _).alloc (by simp) _⟩

/-- what stands behind an object of a description -/
def Core (r : Sr) (h : Int) (n : Nat) (sh : Int) (b : Nat) (w : World) : Prop := w.heap[b]? = some (.cells (r.cs h n sh ++ zs) 72)

theorem core_al (r : Sr) (h : Int) (n : Nat) (sh : Int) (w : World) (o : Obj) : Core r h n sh (w.heap.size + 1) ((w.alloc o).alloc (.cells (r.cs h n sh ++ zs) 72)) := al2_new _ _ _

/-- what Object hands back -/
def ObjE (r : Sr) (h : Int) (n : Nat) (sh : Int) (w : World) (e : Ending) (w' : World) : Prop :=
  ∃ T v, e = .returned (.tuple #[.iface T v, .pointer (some ⟨w.heap.size + 1, 0, none⟩)]) ∧ Ab T n ∧ T ≠ 66 ∧ Below w.heap.size w w' ∧ Core r h n sh (w.heap.size + 1) w'

set_option maxRecDepth 100000 in
set_option maxHeartbeats 2000000 in
theorem Object_foreign (r : Sr) (sh : Int) (n : Nat) (hn : n < 16) (w : World) :
    Calls Tryz.prog 29 #[.agg (r.cs 3 n sh)] w fun e w' => ObjE r 3 n sh w e w' := by
  have HF : Hid (∀ W, Calls Tryz.prog 49 #[.int .i64 (n : Int)] W fun e w' => ∃ T v, e = .returned (.iface T v) ∧ Ab T n ∧ T ≠ 66 ∧ W = w') := fun W => mk_foreign_any n hn W
  have HC : Hid (∀ o, Core r 3 n sh (w.heap.size + 1) ((w.alloc o).alloc (.cells (r.cs 3 n sh ++ zs) 72))) := fun o => core_al r 3 n sh w o
  clear hn
  unfold Sr.cs
  go_enter Tryz.func29, Tryz.ntmps29
  go_wp2_with (go_at_call 49; refine (HF.out _).mono ?_; rintro e w' ⟨T, v, rfl, hA, hT, rfl⟩; replace hA : Hid (Ab T n) := hA; replace hT : Hid (T ≠ 66) := hT)
  go_ret2
  exact ⟨T, v, rfl, hA, hT, ((Below.refl _ _).alloc (Nat.le_refl _) _).alloc (by simp) _, HC.out _⟩

set_option maxRecDepth 100000 in
set_option maxHeartbeats 2000000 in
theorem Object_pointer (r : Sr) (n : Nat) (hn : n < 16) (w : World) :
    Calls Tryz.prog 29 #[.agg (r.cs 0 n 0)] w fun e w' => ObjE r 0 n 0 w e w' := by
  have HF : Hid (∀ W, W.cell? ⟨w.heap.size + 1, 1, none⟩ = some (.int .i64 (n : Int)) → Calls Tryz.prog 51 #[.pointer (some ⟨w.heap.size + 1, 0, none⟩)] W fun e w' => ∃ T v, e = .returned (.iface T v) ∧ Ab T n ∧ T ≠ 66 ∧ Below W.heap.size W w') := fun W hc => mk_pointer_any n hn _ W hc
  have HC : Hid (∀ o, Core r 0 n 0 (w.heap.size + 1) ((w.alloc o).alloc (.cells (r.cs 0 n 0 ++ zs) 72))) := fun o => core_al r 0 n 0 w o
  clear hn
  unfold Sr.cs
  go_enter Tryz.func29, Tryz.ntmps29
  go_wp2_with fail
  refine (HF.out _ (by simp)).mono ?_
  rintro e w1 ⟨T, v, rfl, hA, hT, hb⟩
  have HB : Hid (Below w.heap.size w w1) := (((Below.refl _ _).alloc (Nat.le_refl _) _).alloc (by simp) _).trans (hb.mono (by simp only [World.size_alloc]; omega))
  have HC1 : Hid (Core r 0 n 0 (w.heap.size + 1) w1) := (hb.block _ (by simp only [World.size_alloc]; omega)).trans (HC.out _)
  replace hA : Hid (Ab T n) := hA
  replace hT : Hid (T ≠ 66) := hT
  clear hb
  go_wp2_with fail
  go_ret2
  exact ⟨T, v, rfl, hA, hT, HB.out, HC1.out⟩

set_option maxRecDepth 100000 in
set_option maxHeartbeats 2000000 in
theorem Object_value (r : Sr) (sh : Int) (n : Nat) (hn : n < 16) (b0 : (sh == 0) = false) (b2 : (sh == 2) = false) (w : World) :
    Calls Tryz.prog 29 #[.agg (r.cs 0 n sh)] w fun e w' => ObjE r 0 n sh w e w' := by
  have HF : Hid (∀ W, W.cell? ⟨w.heap.size + 1, 1, none⟩ = some (.int .i64 (n : Int)) → Calls Tryz.prog 50 #[.pointer (some ⟨w.heap.size + 1, 0, none⟩)] W fun e w' => ∃ T v, e = .returned (.iface T v) ∧ Ab T n ∧ T ≠ 66 ∧ W = w') := fun W hc => mk_value_any n hn _ W hc
  have HC : Hid (∀ o, Core r 0 n sh (w.heap.size + 1) ((w.alloc o).alloc (.cells (r.cs 0 n sh ++ zs) 72))) := fun o => core_al r 0 n sh w o
  clear hn
  unfold Sr.cs
  go_enter Tryz.func29, Tryz.ntmps29
  go_wp2_with fail
  refine (HF.out _ (by simp)).mono ?_
  rintro e w1 ⟨T, v, rfl, hA, hT, rfl⟩
  replace hA : Hid (Ab T n) := hA
  replace hT : Hid (T ≠ 66) := hT
  go_wp2_with fail
  go_ret2
  exact ⟨T, v, rfl, hA, hT, ((Below.refl _ _).alloc (Nat.le_refl _) _).alloc (by simp) _, HC.out _⟩

theorem and_no (n : Nat) (hn : n < 16) (k : Nat) (h : n ≠ k) : (bits BinOp.and IntKind.i64 (n : Int) 15 == (k : Int)) = false := by
  have e : ∀ m : Nat, m < 16 → bits BinOp.and IntKind.i64 (m : Int) 15 = (m : Int) := by decide +kernel
  rw [e n hn]
  simp only [beq_eq_false_iff_ne, ne_eq, Int.natCast_inj]
  exact h

set_option maxRecDepth 100000 in
set_option maxHeartbeats 2000000 in
theorem Object_two (r : Sr) (n : Nat) (hn : n < 16) (n0 : n ≠ 0) (n15 : n ≠ 15) (w : World) :
    Calls Tryz.prog 29 #[.agg (r.cs 0 n 2)] w fun e w' => ObjE r 0 n 2 w e w' := by
  have HF : Hid (∀ W, W.cell? ⟨w.heap.size + 1, 1, none⟩ = some (.int .i64 (n : Int)) → Calls Tryz.prog 50 #[.pointer (some ⟨w.heap.size + 1, 0, none⟩)] W fun e w' => ∃ T v, e = .returned (.iface T v) ∧ Ab T n ∧ T ≠ 66 ∧ W = w') := fun W hc => mk_value_any n hn _ W hc
  have HC : Hid (∀ o, Core r 0 n 2 (w.heap.size + 1) ((w.alloc o).alloc (.cells (r.cs 0 n 2 ++ zs) 72))) := fun o => core_al r 0 n 2 w o
  have z0 : (bits BinOp.and IntKind.i64 (n : Int) 15 == 0) = false := and_no n hn 0 n0
  have z15 : (bits BinOp.and IntKind.i64 (n : Int) 15 == 15) = false := and_no n hn 15 n15
  clear hn n0 n15
  unfold Sr.cs
  go_enter Tryz.func29, Tryz.ntmps29
  go_wp2_with fail
  refine (HF.out _ (by simp)).mono ?_
  rintro e w1 ⟨T, v, rfl, hA, hT, rfl⟩
  replace hA : Hid (Ab T n) := hA
  replace hT : Hid (T ≠ 66) := hT
  go_wp2_with fail
  go_ret2
  exact ⟨T, v, rfl, hA, hT, ((Below.refl _ _).alloc (Nat.le_refl _) _).alloc (by simp) _, HC.out _⟩

set_option maxRecDepth 100000 in
set_option maxHeartbeats 2000000 in
theorem Object_u0 (r : Sr) (w : World) :
    Calls Tryz.prog 29 #[.agg (r.cs 0 0 2)] w fun e w' => ObjE r 0 0 2 w e w' := by
  have HC : Hid (∀ o, Core r 0 0 2 (w.heap.size + 1) ((w.alloc o).alloc (.cells (r.cs 0 0 2 ++ zs) 72))) := fun o => core_al r 0 0 2 w o
  unfold Sr.cs
  go_enter Tryz.func29, Tryz.ntmps29
  go_wp2_with fail
  go_ret2
  exact ⟨_, _, rfl, Ab_u0, by decide, (((Below.refl _ _).alloc (Nat.le_refl _) _).alloc (by simp) _).alloc (by simp only [World.size_alloc]; omega) _, (Below.heap_alloc _ _ _ (by simp only [World.size_alloc]; omega)).trans (HC.out _)⟩

set_option maxRecDepth 100000 in
set_option maxHeartbeats 2000000 in
theorem mk_value_15s (b : Nat) (w : World) (hc : w.cell? ⟨b, 1, none⟩ = some (.int .i64 15)) :
    Calls Tryz.prog 50 #[.pointer (some ⟨b, 0, none⟩)] w fun e w' => e = .returned (.iface 121 (.agg #[.pointer (some ⟨b, 0, none⟩), .pointer (some ⟨b, 0, none⟩), .pointer (some ⟨b, 0, none⟩), .pointer (some ⟨b, 0, none⟩), .pointer (some ⟨b, 0, none⟩)])) ∧ w = w' := by
  go_enter Tryz.func50, Tryz.ntmps50
  go_wp2_with fail
  go_ret
  exact ⟨rfl, rfl⟩

set_option maxRecDepth 100000 in
set_option maxHeartbeats 2000000 in
theorem Object_u15 (r : Sr) (w : World) :
    Calls Tryz.prog 29 #[.agg (r.cs 0 15 2)] w fun e w' => ObjE r 0 15 2 w e w' := by
  have HC : Hid (∀ o, Core r 0 15 2 (w.heap.size + 1) ((w.alloc o).alloc (.cells (r.cs 0 15 2 ++ zs) 72))) := fun o => core_al r 0 15 2 w o
  have HF : Hid (∀ W, W.cell? ⟨w.heap.size + 1, 1, none⟩ = some (.int .i64 15) → Calls Tryz.prog 50 #[.pointer (some ⟨w.heap.size + 1, 0, none⟩)] W fun e w' => e = .returned (.iface 121 (.agg #[.pointer (some ⟨w.heap.size + 1, 0, none⟩), .pointer (some ⟨w.heap.size + 1, 0, none⟩), .pointer (some ⟨w.heap.size + 1, 0, none⟩), .pointer (some ⟨w.heap.size + 1, 0, none⟩), .pointer (some ⟨w.heap.size + 1, 0, none⟩)])) ∧ W = w') := fun W hc => mk_value_15s _ W hc
  have ht : ∀ v W, (Instr.typeAssert (.iface 121 v) 32 121 true).run Tryz.prog W = .ok (.tuple #[v, .bool true]) W := fun v W => by kernel_rfl
  unfold Sr.cs
  go_enter Tryz.func29, Tryz.ntmps29
  go_wp2_with fail
  refine (HF.out _ (by simp)).mono ?_
  rintro e w1 ⟨rfl, rfl⟩
  go_wp2_with fail
  go_ret2
  refine ⟨_, _, rfl, Ab_u15, by decide, ((((Below.refl _ _).alloc (Nat.le_refl _) _).alloc (by simp) _).alloc (by simp only [World.size_alloc]; omega) _).alloc (by simp only [World.size_alloc]; omega) _, ?_⟩
  exact (Below.heap_alloc _ _ _ (by simp only [World.size_alloc]; omega)).trans ((Below.heap_alloc _ _ _ (by simp only [World.size_alloc]; omega)).trans (HC.out _))

theorem Object_some (r : Sr) (h sh : Int) (n : Nat) (hn : n < 16) (hh : h = 0 ∨ h = 3) (w : World) :
    Calls Tryz.prog 29 #[.agg (r.cs h n sh)] w fun e w' => ObjE r h n sh w e w' := by
  rcases hh with rfl | rfl
  · by_cases s0 : sh = 0
    · subst s0; exact Object_pointer r n hn w
    · by_cases s2 : sh = 2
      · subst s2
        by_cases n0 : n = 0
        · subst n0; exact Object_u0 r w
        · by_cases n15 : n = 15
          · subst n15; exact Object_u15 r w
          · exact Object_two r n hn n0 n15 w
      · exact Object_value r sh n hn (by simp [s0]) (by simp [s2]) w
  · exact Object_foreign r sh n hn w
end Go.Proofs.YtbjjeleoimcboaaGreat

