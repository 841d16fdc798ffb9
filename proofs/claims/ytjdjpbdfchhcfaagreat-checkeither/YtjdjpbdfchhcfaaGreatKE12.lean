/- strings.Clone and bytes.Clone: the same bytes, in new memory. -/
import Derived.Test.YtjdjpbdfchhcfaaGreatKE6
import Derived.Test.YtjdjpbdfchhcfaaGreatKE1
import Derived.Lib.UnsafeStr
import Derived.Lib.BufferWrite
import Derived.Laws.MakeOwn
namespace Go.Proofs.YtjdjpbdfchhcfaaGreat
open Go.RowKit

set_option maxRecDepth 100000 in
set_option maxHeartbeats 4000000 in
theorem lite_any (s : ByteArray) (w : World) (hs : s.size ≤ 140737488355328) :
    Calls Tryz.prog 96 #[.string s] w fun e w' => e = .returned (.string s) ∧ Below w.heap.size w w' := by
  by_cases h0 : s.size = 0
  · obtain rfl := ba_empty h0
    go_enter Tryz.func96, Tryz.ntmps96
    go_wp2
    go_ret
    exact ⟨rfl, Below.refl _ _⟩
  · obtain ⟨i0, hi, hz0, hz1, hz2⟩ := info_parts Tryz.infoB
    have hcell : Tryz.prog.cellsOf 5 = 1 := by kernel_rfl
    have hone : (Tryz.prog.info? 5).map (·.size) = some 1 := by kernel_rfl
    obtain ⟨M, hM⟩ : ∃ M, M = madeCells (Value.int .u8 0).cells (((s.size : Nat) : Int).toNat * i0.size) := ⟨_, rfl⟩
    have hMs : M.size = s.size := by rw [hM, size_madeCells, hz1]; simp
    have hmake : ∀ W : World, (Instr.makeSlice 23 (.int .i64 (s.size : Int)) (.int .i64 (s.size : Int))).run Tryz.prog W = .ok (.slice (some ⟨W.heap.size, 0, none⟩) s.size s.size) (W.alloc (.cells M 5)) := fun W => by
      have h := run_make (P := Tryz.prog) W 23 5 i0 (.int .u8 0) Tryz.undB hi hz0 .i64 .i64 (s.size : Int) (s.size : Int) (by omega) (by omega) (by rw [hz2]; omega) (by omega)
      rw [← hM] at h; simpa using h
    clear hM
    have hcopy := Lib.run_copy_row_string (P := Tryz.prog) (w.alloc (.cells M 5)) 23 9 3 5 w.heap.size 0 s.size s.size s M 5 Tryz.undB hone (heap_alloc_new w _) (Nat.le_refl _) (by omega)
    obtain ⟨Y, hY⟩ : ∃ Y, Y = (M.toList.take 0 ++ Lib.byteCells s.data.toList ++ M.toList.drop (0 + s.size)).toArray := ⟨_, rfl⟩
    rw [← hY] at hcopy
    have hYl : Y.toList = Lib.byteCells s.data.toList := by
      rw [hY, List.toList_toArray, List.take_zero, List.nil_append, List.drop_of_length_le (by rw [Array.length_toList]; omega), List.append_nil]
    have hrow : ((w.alloc (.cells M 5)).setRow w.heap.size Y).heap[w.heap.size]? = some (.cells Y 5 (0, 0)) := setRow_heap _ _ M _ 5 (0, 0) (heap_alloc_new w _)
    have hne : s.data.toList ≠ [] := fun e => h0 (by rw [Lib.size_eq, e]; rfl)
    have hstr := Lib.run_unsafeString_row (P := Tryz.prog) ((w.alloc (.cells M 5)).setRow w.heap.size Y) 180 3 9 5 (by kernel_rfl) hcell w.heap.size Y.size (by unfold World.shape?; rw [hrow]) s.data.toList hne (by rw [← Array.length_toList, hYl, Lib.byteCells_length]; exact Nat.le_refl _) (by rw [← Lib.size_eq]; omega)
      (fun j x hx => Lib.cells_of_row hrow Y.size j _ (by rw [List.take_of_length_le (by rw [Array.length_toList]; exact Nat.le_refl _), hYl]; simp [Lib.byteCells, hx]))
    rw [← Lib.size_eq] at hstr
    clear hY
    go_enter Tryz.func96, Tryz.ntmps96
    go_wp2
    go_ret
    have hb1 : Below w.heap.size w (w.alloc (.cells M 5)) := (Below.refl _ w).alloc (Nat.le_refl _) _
    have hb2 : Below w.heap.size (w.alloc (.cells M 5)) ((w.alloc (.cells M 5)).setRow w.heap.size Y) := ⟨rfl, rfl, rfl, by simp, fun k hk => setRow_other _ _ _ _ (by omega)⟩
    exact ⟨rfl, Lib.below_freeze (hb1.trans hb2) (p := ⟨w.heap.size, 0, none⟩) (Nat.le_refl _) _⟩

set_option maxRecDepth 100000 in
set_option maxHeartbeats 400000 in
theorem sClone_any (s : ByteArray) (w : World) (hs : s.size ≤ 140737488355328) :
    Calls Tryz.prog 59 #[.string s] w fun e w' => e = .returned (.string s) ∧ Below w.heap.size w w' := by
  go_enter Tryz.func59, Tryz.ntmps59
  go_wp2_with (go_at_call 96; refine (lite_any s _ hs).mono ?_; rintro e w1 ⟨rfl, hb1⟩)
  go_ret
  exact ⟨rfl, hb1⟩

theorem nil_run (c : Nat) (W : World) : Sem.run Tryz.prog (binOp BinOp.eql 23 (Value.slice none 0 c) (Value.slice none 0 0)) W = .ok (.bool true) W := by kernel_rfl
theorem some_run (p : Addr) (n c : Nat) (W : World) : Sem.run Tryz.prog (binOp BinOp.eql 23 (Value.slice (some p) n c) (Value.slice none 0 0)) W = .ok (.bool false) W := by kernel_rfl

set_option maxRecDepth 100000 in
set_option maxHeartbeats 1000000 in
theorem bClone_any (L : ByteArray) (ab : Option Addr) (cb : Nat) (B : Nat → Prop) (w : World) (hB : Sub B w) (hl : BytesAt w B ab L) (hlen : L.size ≤ 140737488355328) :
    Calls Tryz.prog 99 #[.slice ab L.size cb] w fun e w' => ∃ a cap, e = .returned (.slice a L.size cap) ∧ Below w.heap.size w w' ∧ BytesLV w' (Fr w w') a L cap := by
  obtain ⟨i0, hi, hz0, hz1, hz2⟩ := info_parts Tryz.infoB
  by_cases h0 : L.size = 0
  · have hl' : Hid (∀ W S a, BytesAt W S a L) := fun W S a j hj => by omega
    unfold BytesLV
    rw [h0]
    clear h0 hl hlen
    cases ab with
    | none =>
      go_enter Tryz.func99, Tryz.ntmps99
      have hnil := nil_run cb
      go_wp2_with fail
      go_ret
      exact ⟨_, _, rfl, Below.refl _ _, Ln.of (base := 0) (xs := []) ⟨rfl, .inl ⟨rfl, rfl⟩⟩ (fun g o p e => by simp at e), hl'.out _ _ _⟩
    | some p =>
      have hnil := some_run p 0 cb
      go_enter Tryz.func99, Tryz.ntmps99
      go_wp2_with (at_builtin; refine wpList_ran _ rfl _ _ 23 rfl _ _ _ _ rfl rfl (app_zero _ _ _ _ _) ?_)
      go_ret
      exact ⟨_, _, rfl, (Below.refl _ _).alloc (Nat.le_refl _) _, Ln.of (base := 0) (xs := []) ⟨rfl, .inr ⟨w.heap.size, 0, #[], rfl, Nat.zero_le _, heap_alloc_new w (.cells #[] 5), Nat.le_refl _, by simp [maxLen], rfl, rfl⟩⟩ (fun g o p e => by injection e with e; injection e with e; subst e; exact ⟨by omega, by simp⟩), hl'.out _ _ _⟩
  · obtain ⟨g, o, rfl, hg, _⟩ := hl 0 (by omega)
    have hg := hB _ hg
    have h0 : 0 < L.size := by omega
    have hc' : Hid (∀ W, Below w.heap.size w W → ∀ j u, (bcells L)[j]? = some u → W.cell? ((⟨g, o, none⟩ : Addr).add j) = some u) := fun W hW j u hj => by
      obtain ⟨hj', rfl⟩ := bcells_at L j u hj
      obtain ⟨g', o', e, _, hc⟩ := hl j hj'
      simp only [Option.some.injEq, Addr.mk.injEq, and_true] at e
      obtain ⟨rfl, rfl⟩ := e
      rw [addr_add, hW.cell (p := ⟨g, o + j, none⟩) (by show g < _; omega)]; exact hc
    clear hl
    have hnil := some_run ⟨g, o, none⟩ L.size cb
    go_enter Tryz.func99, Tryz.ntmps99
    go_wp2_with (at_builtin; refine wpList_app _ rfl _ _ 23 rfl w.heap.size 5 i0 (.int .u8 0) 1 1 Tryz.undB hi hz0 hz1 hz2 rfl (by decide) _ 0 [] rfl ⟨rfl, .inr ⟨w.heap.size, 0, #[], rfl, Nat.le_refl _, heap_alloc_new w (.cells #[] 5), Nat.le_refl _, by simp [maxLen], rfl, rfl⟩⟩ ⟨g, o, none⟩ L.size cb (bcells L) rfl (by simp [bcells]) (hc'.out _ ((Below.refl _ _).alloc (Nat.le_refl _) _)) (bcells_one L) h0 (by unfold maxLen; omega) (by omega) (by simp) ?_; intro g' cap' w3 hown' hgrow hor)
    go_wp2_with fail
    go_ret
    have hlt := hown'.lt g' rfl
    have hbw : Below w.heap.size w w3 := ((Below.refl _ _).alloc (Nat.le_refl _) _).grown hgrow (by simp) (fun k e => by have e' : some w.heap.size = some k := e; injection e' with e'; omega)
    refine ⟨some ⟨g', 0, none⟩, cap', by simp, hbw, Ln.of (by simpa using hown') (fun g o p e => by injection e with e; injection e with e; subst e; exact ⟨by omega, hlt.2⟩), ?_⟩
    intro j hj
    refine ⟨g', 0, rfl, ⟨by omega, hlt.2⟩, ?_⟩
    have hc2 := hown'.cells (g := g') rfl j (.int .u8 (Sp.byte L j)) (by simp [bcells, hj])
    rw [addr_add] at hc2; exact hc2
end Go.Proofs.YtjdjpbdfchhcfaaGreat

