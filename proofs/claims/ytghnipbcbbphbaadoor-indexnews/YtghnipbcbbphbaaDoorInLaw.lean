/- Index.Def, Index.Len, and the law IndexNews. -/
import Derived.Test.YtghnipbcbbphbaaDoorInRef
import Derived.Laws.StructEq
namespace Go.Proofs.YtghnipbcbbphbaaDoor
open Go.RowKit

theorem Tryd.fldIO : (Tryd.prog.fieldsOf 23).toList = [⟨"Class", 9, 0, false, "", "", 0⟩, ⟨"Way", 9, 1, false, "", "", 16⟩, ⟨"Unique", 4, 2, false, "", "", 32⟩, ⟨"Some", 4, 3, false, "", "", 33⟩] := by kernel_rfl
theorem eq_io (c s : ByteArray) (u q : Bool) (W : World) : (Op.equalIn 10000 23 (.agg #[.string c, .string s, .bool u, .bool q]) (.agg #[.string c, .string s, .bool u, .bool q])).run Tryd.prog W = .ok true W := by
  rw [run_equalIn_struct (P := Tryd.prog) W 9999 23 _ _ (by kernel_rfl) (by kernel_rfl), Tryd.fldIO]
  have u9 : Tryd.prog.underlying 9 = some .string := by kernel_rfl
  have u4 : Tryd.prog.underlying 4 = some .bool := by kernel_rfl
  have pa : ∀ (V : World), (part 9 #[.string c, .string s, .bool u, .bool q] 0).run Tryd.prog V = .ok (.string c) V := fun V => by kernel_rfl
  have pb : ∀ (V : World), (part 9 #[.string c, .string s, .bool u, .bool q] 1).run Tryd.prog V = .ok (.string s) V := fun V => by kernel_rfl
  have pc : ∀ (V : World), (part 4 #[.string c, .string s, .bool u, .bool q] 2).run Tryd.prog V = .ok (.bool u) V := fun V => by kernel_rfl
  have pd : ∀ (V : World), (part 4 #[.string c, .string s, .bool u, .bool q] 3).run Tryd.prog V = .ok (.bool q) V := fun V => by kernel_rfl
  have qa : ∀ (V : World) (m : ByteArray), (Op.equalIn 9999 9 (.string m) (.string m)).run Tryd.prog V = .ok true V := fun V m => by rw [run_equalIn_string V 9998 9 _ _ u9]; simp
  have qb : ∀ (V : World) (m : Bool), (Op.equalIn 9999 4 (.bool m) (.bool m)).run Tryd.prog V = .ok true V := fun V m => by rw [run_equalIn_bool' V 9998 4 _ _ u4]; simp
  have e1 : ("Class" : String) ≠ "_" := by decide
  have e2 : ("Way" : String) ≠ "_" := by decide
  have e3 : ("Unique" : String) ≠ "_" := by decide
  have e4 : ("Some" : String) ≠ "_" := by decide
  simp only [Op.eqFields, if_pos e1, if_pos e2, if_pos e3, if_pos e4, Sem.run_bind, pa, pb, pc, pd, Result.andThen_ok, qa, qb, Sem.run_ite, Sem.run_pure]
  rfl
@[go_sem] theorem eql_io (c s : ByteArray) (u q : Bool) (W : World) : (binOp .eql 23 (.agg #[.string c, .string s, .bool u, .bool q]) (.agg #[.string c, .string s, .bool u, .bool q])).run Tryd.prog W = .ok (.bool true) W := by
  rw [run_eql_struct, eq_io]; rfl
@[go_sem] theorem eqg_io (p q : Operand) (xs ys : Array Value) (W : World) : (eqGuard .eql 23 p q (.agg xs) (.agg ys)).run Tryd.prog W = .ok () W := run_eqGuard_agg W _ _ _ _ _ _ (by kernel_rfl)

set_option maxRecDepth 100000 in
set_option maxHeartbeats 1000000 in
theorem iDef_any (g : Nat) (c s : ByteArray) (u q : Bool) (v4 v5 v6 v7 v8 : Value) (w : World) (h : w.heap[g]? = some (.cells #[.string c, .string s, .bool u, .bool q, v4, v5, v6, v7, v8] 44)) :
    Calls Tryd.prog 6 #[.pointer (some ⟨g, 0, none⟩)] w fun e w' => e = .returned (.agg #[.string c, .string s, .bool u, .bool q]) ∧ Below w.heap.size w w' := by
  have hg : g < w.heap.size := (Array.getElem?_eq_some_iff.1 h).1
  have hk : ∀ o, (w.alloc o).heap[g]? = w.heap[g]? := fun o => Below.heap_alloc w o g hg
  have hx0 : ∀ o, (w.alloc o).cell? ⟨g, 0, none⟩ = some (.string c) := fun o => by simp only [World.cell?]; rw [hk]; simp [h]
  have hx1 : ∀ o, (w.alloc o).cell? ⟨g, 1, none⟩ = some (.string s) := fun o => by simp only [World.cell?]; rw [hk]; simp [h]
  have hx2 : ∀ o, (w.alloc o).cell? ⟨g, 2, none⟩ = some (.bool u) := fun o => by simp only [World.cell?]; rw [hk]; simp [h]
  have hx3 : ∀ o, (w.alloc o).cell? ⟨g, 3, none⟩ = some (.bool q) := fun o => by simp only [World.cell?]; rw [hk]; simp [h]
  clear h hk
  go_enter Tryd.func6, Tryd.ntmps6
  go_wp2_with fail
  refine bodyPost_ret (v := .agg #[.string c, .string s, .bool u, .bool q]) (by simp [results, Tryd.results6, go_sem] <;> rfl) rfl ⟨rfl, ?_⟩
  exact (Below.refl _ _).alloc (Nat.le_refl _) _
set_option maxRecDepth 100000 in
set_option maxHeartbeats 1000000 in
theorem iLen_any (g : Nat) (v0 v1 v2 v3 v4 v5 v6 v7 : Value) (w : World) (h : w.heap[g]? = some (.cells #[v0, v1, v2, v3, v4, v5, v6, v7, .slice none 0 0] 44)) :
    Calls Tryd.prog 7 #[.pointer (some ⟨g, 0, none⟩)] w fun e w' => e = .returned (.int .i64 0) ∧ w = w' := by
  have hx8 : w.cell? ⟨g, 8, none⟩ = some (.slice none 0 0) := by simp [World.cell?, h]
  clear h
  go_enter Tryd.func7, Tryd.ntmps7
  go_wp2_with fail
  go_ret
  exact ⟨rfl, rfl⟩
set_option maxRecDepth 100000 in
set_option maxHeartbeats 4000000 in
theorem IndexNews_any (c s : ByteArray) (u q : Bool) (w : World) (hc : c.size ≤ 140737488355328) (hs : s.size ≤ 140737488355328) (henv : Env w) :
    Calls Tryd.prog 3 #[.agg #[.string c, .string s, .bool u, .bool q]] w fun e w' => e = .returned (.bool true) ∧ Below w.heap.size w w' := by
  have HP : Hid (∀ W : World, Below w.heap.size w W → Calls Tryd.prog 4 #[.agg #[.string c, .string s, .bool u, .bool q]] W fun e w' => ∃ p, e = .returned (.tuple #[.pointer p, .int .i64 (Sp.ixE c s)]) ∧ IxN W w' c s u q p) := fun W hW => iNew_any c s u q W hc hs (henv.on hW)
  have HR : Hid (∀ W : World, Calls Tryd.prog 5 #[.agg #[.string c, .string s, .bool u, .bool q]] W fun e w' => ∃ p, e = .returned (.tuple #[.pointer p, .int .i64 (Sp.ixE c s)]) ∧ RxN W w' c s p) := fun W => rNew_any c s u q W hc hs
  have HK : Hid (Sp.ixE c s = Sp.ixE c s) := rfl
  clear henv
  generalize hk : Sp.ixE c s = k at HP HR
  have hkk : (k != k) = false := by simp
  go_enter Tryd.func3, Tryd.ntmps3
  go_wp2_with fail
  refine (HP.out _ ((Below.refl _ _).alloc (Nat.le_refl _) _)).mono ?_
  rintro e w1 ⟨p, rfl, hb1, hp1, hp2⟩
  have HB1 : Hid (Below w.heap.size w w1) := below_to ((Below.refl _ _).alloc (Nat.le_refl _) _) hb1
  have HX1 : Hid (w1.heap[w.heap.size]? = some (.cells #[.string c, .string s, .bool u, .bool q] 23)) := (hb1.block w.heap.size (by simp)).trans (heap_alloc_new w _)
  have hx0 : w1.cell? ⟨w.heap.size, 0, none⟩ = some (.string c) := by simp [World.cell?, HX1.out]
  have hx1 : w1.cell? ⟨w.heap.size, 1, none⟩ = some (.string s) := by simp [World.cell?, HX1.out]
  have hx2 : w1.cell? ⟨w.heap.size, 2, none⟩ = some (.bool u) := by simp [World.cell?, HX1.out]
  have hx3 : w1.cell? ⟨w.heap.size, 3, none⟩ = some (.bool q) := by simp [World.cell?, HX1.out]
  clear hb1
  go_wp2_with fail
  refine (HR.out _).mono ?_
  rintro e w2 ⟨p', rfl, hb2, hq⟩
  have HB2 : Hid (Below w.heap.size w w2) := below_to HB1.out hb2
  have hs1 : w.heap.size < w1.heap.size := (Array.getElem?_eq_some_iff.1 HX1.out).1
  have HX2 : Hid (w2.heap[w.heap.size]? = some (.cells #[.string c, .string s, .bool u, .bool q] 23)) := (hb2.block w.heap.size hs1).trans HX1.out
  have hy0 : w2.cell? ⟨w.heap.size, 0, none⟩ = some (.string c) := by simp [World.cell?, HX2.out]
  have hy1 : w2.cell? ⟨w.heap.size, 1, none⟩ = some (.string s) := by simp [World.cell?, HX2.out]
  have hy2 : w2.cell? ⟨w.heap.size, 2, none⟩ = some (.bool u) := by simp [World.cell?, HX2.out]
  have hy3 : w2.cell? ⟨w.heap.size, 3, none⟩ = some (.bool q) := by simp [World.cell?, HX2.out]
  cases p with
  | none =>
    have hp' : p' = none := hq.2 (hp1.1 rfl)
    subst hp'
    clear hp1 hp2 hq hb2 hx0 hx1 hx2 hx3
    go_wp2_with fail
    go_quiet (fail)
    go_wp2_with fail
    go_ret
    exact ⟨rfl, ⟨HB2.out.os, HB2.out.tape, HB2.out.output, HB2.out.size, HB2.out.block⟩⟩
  | some r =>
    obtain ⟨g, rfl, hg, v4, v5, v6, v7, hcs⟩ := hp2 r rfl
    have hkz : ¬ k ≠ 0 := fun h => by have := hp1.2 (hk ▸ h); cases this
    cases p' with
    | none => exact absurd (hk ▸ (hq.1 rfl)) hkz
    | some r' =>
      have hg1 : g < w1.heap.size := (Array.getElem?_eq_some_iff.1 hcs).1
      have hcs2 := (hb2.block g hg1).trans hcs
      have HD : Hid (∀ W, Below w2.heap.size w2 W → Calls Tryd.prog 6 #[.pointer (some ⟨g, 0, none⟩)] W fun e w' => e = .returned (.agg #[.string c, .string s, .bool u, .bool q]) ∧ Below W.heap.size W w') := fun W hW => iDef_any g c s u q _ _ _ _ _ W ((hW.block g (Array.getElem?_eq_some_iff.1 hcs2).1).trans hcs2)
      have HL : Hid (∀ W, Below w2.heap.size w2 W → Calls Tryd.prog 7 #[.pointer (some ⟨g, 0, none⟩)] W fun e w' => e = .returned (.int .i64 0) ∧ W = w') := fun W hW => iLen_any g _ _ _ _ _ _ _ _ W ((hW.block g (Array.getElem?_eq_some_iff.1 hcs2).1).trans hcs2)
      clear hp1 hp2 hq hb2 hx0 hx1 hx2 hx3 hcs hcs2
      go_wp2_with fail
      go_region_with (first
        | (go_at_call 6; refine (HD.out _ (by first | exact (Below.refl _ _).drew | exact Below.refl _ _)).mono ?_; rintro e w3 ⟨rfl, hb3⟩; have hb3' : Below w2.heap.size w2 w3 := ⟨hb3.os, hb3.tape, hb3.output, hb3.size, hb3.block⟩; have HB3 : Hid (Below w.heap.size w w3) := below_to HB2.out hb3'; have HB4 : Hid (Below w2.heap.size w2 w3) := hb3'; have HX3 : Hid (w3.heap[w.heap.size]? = some (.cells #[.string c, .string s, .bool u, .bool q] 23)) := ((hb3'.block w.heap.size (Array.getElem?_eq_some_iff.1 HX2.out).1).trans HX2.out); have hz0 : w3.cell? ⟨w.heap.size, 0, none⟩ = some (.string c) := (by simp [World.cell?, HX3.out]); have hz1 : w3.cell? ⟨w.heap.size, 1, none⟩ = some (.string s) := (by simp [World.cell?, HX3.out]); have hz2 : w3.cell? ⟨w.heap.size, 2, none⟩ = some (.bool u) := (by simp [World.cell?, HX3.out]); have hz3 : w3.cell? ⟨w.heap.size, 3, none⟩ = some (.bool q) := (by simp [World.cell?, HX3.out]); clear hb3 hb3')
        | (go_at_call 7; refine (HL.out _ (by first | exact HB4.out | exact HB4.out.drew)).mono ?_; rintro e w4 ⟨rfl, rfl⟩))
      all_goals go_wp2_with fail
      all_goals
        go_ret
        exact ⟨rfl, HB3.out⟩
end Go.Proofs.YtghnipbcbbphbaaDoor
