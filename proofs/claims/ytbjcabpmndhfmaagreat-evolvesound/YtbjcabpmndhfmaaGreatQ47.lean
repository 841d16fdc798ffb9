/- tenonref06.Check: what is wrong with a class, by the document. -/
import Derived.Test.YtbjcabpmndhfmaaGreatQ45
import Derived.Test.YtbjcabpmndhfmaaGreatQ30
import Derived.Test.YtbjcabpmndhfmaaGreatQ31
namespace Go.Proofs.YtbjcabpmndhfmaaGreat
open Go.RowKit

section
variable (nm pn : ByteArray) (vr pv : Int) (ab : Bool) (fs : List Fo) (af : Option Addr) (cf : Nat) (B : Nat → Prop) (w : World)
set_option maxRecDepth 100000 in
set_option maxHeartbeats 4000000 in
theorem chk_g2 (h : (Cl.mk nm vr pn pv ab fs).At w B af) (hB : Sub B w) (h1 : Sp.isNm nm = true) (h2 : Sp.vOk vr = true) (h3 : Sp.nmN pn = true) (h4 : pn.size ≠ 0) (h5 : Sp.vOk pv = true) (h6 : ¬ 4096 < fs.length) : Calls Tryz.prog 9 #[.agg #[.string nm, .int .i64 vr, .string pn, .int .i64 pv, .bool ab, .slice af fs.length cf]] w fun e w' => e = .returned (.int .i64 (Sp.clR ⟨nm, vr, pn, pv, ab, fs⟩)) ∧ Below w.heap.size w w' := by
  have HX : Hid (Sp.clR ⟨nm, vr, pn, pv, ab, fs⟩ = Sp.fsR ByteArray.empty fs) := by
    have e : Sp.hdR ⟨nm, vr, pn, pv, ab, fs⟩ = 0 := by unfold Sp.hdR; rw [if_neg (by rw [h1]; decide), if_neg (by rw [h2]; decide), if_neg (by rw [h3]; decide), if_neg (by simp [h4, h5]), if_neg h6]
    show _ = _; unfold Sp.clR; rw [if_neg (by rw [e]; decide)]
  have HB : Hid (Below w.heap.size w (w.alloc (.cells #[.string nm, .int .i64 vr, .string pn, .int .i64 pv, .bool ab, .slice af fs.length cf] 24))) := (Below.refl _ _).alloc (Nat.le_refl _) _
  have HN : Hid (∀ W, Calls Tryz.prog 17 #[.string nm] W fun e w' => e = .returned (.bool (Sp.isNm nm)) ∧ W = w') := fun W => Name_any nm W (by have : nm.size ≤ 140737488355328 := h.nm; unfold maxLen; omega)
  have HV : Hid (∀ n W, Calls Tryz.prog 18 #[.int .i64 n] W fun e w' => e = .returned (.bool (Sp.vOk n)) ∧ W = w') := fun n W => version_any n W
  have HK : Hid (∀ W, Calls Tryz.prog 19 #[.string pn] W fun e w' => e = .returned (.bool (Sp.nmN pn)) ∧ W = w') := fun W => known_any pn W h.pn
  have hvr : -9223372036854775808 ≤ vr ∧ vr ≤ 9223372036854775807 := h.vr
  have hpv : -9223372036854775808 ≤ pv ∧ pv ≤ 9223372036854775807 := h.pv
  have hlen : fs.length ≤ 70368744177664 := h.len
  have HFS : Hid (FosAt w B af fs) := h.fs
  rw [h1] at HN
  have HV1 : Hid (∀ W, Calls Tryz.prog 18 #[.int .i64 vr] W fun e w' => e = .returned (.bool true) ∧ W = w') := fun W => by
    have := HV.out vr W
    rw [h2] at this; exact this
  have HV2 : Hid (∀ W, Calls Tryz.prog 18 #[.int .i64 pv] W fun e w' => e = .returned (.bool true) ∧ W = w') := fun W => by
    have := HV.out pv W
    rw [h5] at this; exact this
  rw [h3] at HK
  have hpe := ba_ne h4
  have h6' : ¬ (4096 : Int) < (fs.length : Int) := by omega
  have HW : Hid (∀ W, Below (w.alloc (.cells #[.string nm, .int .i64 vr, .string pn, .int .i64 pv, .bool ab, .slice af fs.length cf] 24)).heap.size (w.alloc (.cells #[.string nm, .int .i64 vr, .string pn, .int .i64 pv, .bool ab, .slice af fs.length cf] 24)) W → Below w.heap.size w W) := fun W hW => below_to HB.out hW
  have HAT : Hid (∀ (W : World) (f : Fo) (g o : Nat) (cy ct : Array Value), Below (w.alloc (.cells #[.string nm, .int .i64 vr, .string pn, .int .i64 pv, .bool ab, .slice af fs.length cf] 24)).heap.size (w.alloc (.cells #[.string nm, .int .i64 vr, .string pn, .int .i64 pv, .bool ab, .slice af fs.length cf] 24)) W → g < w.heap.size → (∀ x, x < 32 → w.cell? ⟨g, o + x, none⟩ = (fcs f cy ct)[x]?) → f.At w B cy ct → (loadVar 45 ⟨g, o, none⟩).run Tryz.prog W = .ok (.agg (fcs f cy ct)) W ∧ f.At W B cy ct ∧ Sub B W) := fun W f g o cy ct hW hg hc ha => by
    have hb := HW.out W hW
    refine ⟨fldE (fcs_size (Ty.In_cells ha.ty).1 (Tm.In_one ha.df).1) (fun x hx => by rw [hb.cell (p := ⟨g, o + x, none⟩) hg]; exact hc x hx), ha.same (hB.same hb) (fun _ h => h), hB.later hb⟩
  have HBB : Hid (Sub B w) := hB
  have HC5 : Hid (∀ W, Below (w.alloc (.cells #[.string nm, .int .i64 vr, .string pn, .int .i64 pv, .bool ab, .slice af fs.length cf] 24)).heap.size (w.alloc (.cells #[.string nm, .int .i64 vr, .string pn, .int .i64 pv, .bool ab, .slice af fs.length cf] 24)) W → W.cell? ⟨w.heap.size, 5, none⟩ = some (.slice af fs.length cf)) := fun W hW => by rw [hW.cell (p := ⟨w.heap.size, 5, none⟩) (by simp), cell_of_row _ _ _ _ _ _ (heap_alloc_new w _)]; rfl
  obtain ⟨P, hP⟩ : ∃ P, fs.length = P := ⟨_, rfl⟩
  have HP : Hid (fs.length = P) := hP
  rw [hP] at hlen h6'
  clear h hB
  rw [hP] at HB HW HAT HC5 ⊢
  clear hP
  go_enter Tryz.func9, Tryz.ntmps9
  go_wp2_with (first | (go_at_call 17; refine (HN.out _).mono ?_; rintro e w' ⟨rfl, rfl⟩) | (go_at_call 18; first | (refine (HV1.out _).mono ?_; rintro e w' ⟨rfl, rfl⟩) | (refine (HV2.out _).mono ?_; rintro e w' ⟨rfl, rfl⟩)) | (go_at_call 19; refine (HK.out _).mono ?_; rintro e w' ⟨rfl, rfl⟩))
  go_loopw [3] (fun y wr => ∃ (j : Nat) (l : List Fo) (ah : ByteArray), y = .int .i64 j ∧ l.length + j = P ∧ Hid (Below (w.alloc (.cells #[.string nm, .int .i64 vr, .string pn, .int .i64 pv, .bool ab, .slice af P cf] 24)).heap.size (w.alloc (.cells #[.string nm, .int .i64 vr, .string pn, .int .i64 pv, .bool ab, .slice af P cf] 24)) wr ∧ (∀ i, fs[j + i]? = l[i]?) ∧ Sp.fsR ByteArray.empty fs = Sp.fsR ah l ∧ (j = 0 → ah = ByteArray.empty) ∧ (∀ j', j = j' + 1 → ∃ f', fs[j']? = some f' ∧ f'.nm = ah))) (fun y _ => P - (intOf y).toNat)
  case atStart => exact ⟨0, fs, ByteArray.empty, rfl, HP.out, ⟨Below.refl _ _, fun i => by simp, rfl, fun _ => rfl, fun i' h => by omega⟩⟩
  case round =>
    obtain ⟨j, l, ah, rfl, hlj, HI⟩ := hrel
    have e5 : wr.cell? ⟨w.heap.size, 5, none⟩ = some (.slice af P cf) := HC5.out wr HI.out.1
    cases l with
    | nil =>
      have hj' : P ≤ j := by simp at hlj; omega
      have HR : Hid (Sp.clR ⟨nm, vr, pn, pv, ab, fs⟩ = 0 ∧ Below w.heap.size w wr) := ⟨by rw [HX.out, HI.out.2.2.1]; rfl, HW.out wr HI.out.1⟩
      clear hlj HI
      go_wp2_with fail
      go_ret
      exact ⟨ret_int HR.out.1.symm, HR.out.2⟩
    | cons f l =>
      have hi1 : (j : Int) < (P : Int) := by simp at hlj; omega
      have hi0 : (0 : Int) ≤ (j : Int) := Int.natCast_nonneg _
      have ef : fs[j]? = some f := by have := HI.out.2.1 0; simpa using this
      obtain ⟨g, o, cy, ct, rfl, hg, hc, ha⟩ := HFS.out j f ef
      have hg' : g < w.heap.size := HBB.out g hg
      obtain ⟨q1, q2, q3⟩ := HAT.out wr f g (o + j * 32) cy ct HI.out.1 hg' hc ha
      have HLD : Hid ((loadVar 45 ⟨g, o + j * 32, none⟩).run Tryz.prog wr = .ok (.agg (fcs f cy ct)) wr) := q1
      have hy := Ty.In_cells ha.ty
      have ht := Tm.In_one ha.df
      obtain ⟨W5, hW5⟩ : ∃ W5, wr.alloc (.cells (fcs f cy ct) 45) = W5 := ⟨_, rfl⟩
      have hbx : Below wr.heap.size wr W5 := hW5 ▸ ((Below.refl _ _).alloc (Nat.le_refl _) _)
      have HSS : Hid (∀ c : Array Value, c.size = 32 → (storeVar 45 ⟨wr.heap.size, 0, none⟩ (.agg (fcs f cy ct))).run Tryz.prog (wr.alloc (.cells c 45)) = .ok () W5) := fun c hc => hW5 ▸ fst hc (fcs_size hy.1 ht.1) (fcs_one hy.2 ht.2)
      have hblk : W5.heap[wr.heap.size]? = some (.cells (fcs f cy ct) 45 (0, 0)) := hW5 ▸ heap_alloc_new wr _
      have hlt5 : wr.heap.size < W5.heap.size := by rw [← hW5]; simp
      have HFB : Hid (∀ W, Below W5.heap.size W5 W → FB W wr.heap.size f cy ct ∧ Below (w.alloc (.cells #[.string nm, .int .i64 vr, .string pn, .int .i64 pv, .bool ab, .slice (some ⟨g, o, none⟩) P cf] 24)).heap.size (w.alloc (.cells #[.string nm, .int .i64 vr, .string pn, .int .i64 pv, .bool ab, .slice (some ⟨g, o, none⟩) P cf] 24)) W ∧ Below w.heap.size w W ∧ f.At W B cy ct ∧ Sub B W) := fun W hW => by
        have hb := below_to hbx hW
        exact ⟨FB.of ((hW.block wr.heap.size hlt5).trans hblk) hy.1 ht.1, below_to HI.out.1 hb, HW.out _ (below_to HI.out.1 hb), q2.same (q3.same hb) (fun _ h => h), q3.later hb⟩
      have HNF : Hid (∀ W, Calls Tryz.prog 17 #[.string f.nm] W fun e w' => e = .returned (.bool (Sp.isNm f.nm)) ∧ W = w') := fun W => Name_any f.nm W (by have := ha.nm; unfold maxLen; omega)
      have HKF : Hid (∀ W, Calls Tryz.prog 19 #[.string f.was] W fun e w' => e = .returned (.bool (Sp.nmN f.was)) ∧ W = w') := fun W => known_any f.was W ha.was
      have HCA : Hid (∀ W, Below W5.heap.size W5 W → Calls Tryz.prog 20 #[.agg cy] W fun e w' => e = .returned (.bool f.ty.can) ∧ Below W.heap.size W w') := fun W hW => by
        obtain ⟨-, -, -, r4, r5⟩ := HFB.out W hW
        exact refCan_any f.ty cy B W r4.ty r5
      have HCH : Hid (∀ W, Below W5.heap.size W5 W → Calls Tryz.prog 21 #[.agg ct] W fun e w' => e = .returned (.tuple #[.int .i64 f.df.cAt, .int .i64 f.df.all.e]) ∧ Below W.heap.size W w') := fun W hW => by
        obtain ⟨-, -, -, r4, r5⟩ := HFB.out W hW
        exact refCheck_any f.df ct B W r4.df r5
      have HJ : Hid (l.length + (j + 1) = P ∧ (∀ i, fs[j + 1 + i]? = l[i]?) ∧ fs[j]? = some f) := ⟨by simp at hlj; omega, fun i => by rw [show j + 1 + i = j + (i + 1) by omega, HI.out.2.1 (i + 1)]; simp, ef⟩
      have HF2 : Hid (Sp.fsR ByteArray.empty fs = if Sp.fR f ah ≠ 0 then Sp.fR f ah else Sp.fsR f.nm l) := by show _ = _; rw [HI.out.2.2.1]; rfl
      have HAH : Hid ((j = 0 → ah = ByteArray.empty) ∧ (∀ j', j = j' + 1 → ∃ f', fs[j']? = some f' ∧ f'.nm = ah)) := HI.out.2.2.2
      have HDR : Hid (Below W5.heap.size W5 W5.drew) := (Below.refl _ _).drew
      have HB5 : Hid (Below (w.alloc (.cells #[.string nm, .int .i64 vr, .string pn, .int .i64 pv, .bool ab, .slice (some ⟨g, o, none⟩) P cf] 24)).heap.size (w.alloc (.cells #[.string nm, .int .i64 vr, .string pn, .int .i64 pv, .bool ab, .slice (some ⟨g, o, none⟩) P cf] 24)) W5 ∧ ∀ W, Below W5.heap.size W5 W → W.cell? ⟨w.heap.size, 5, none⟩ = some (.slice (some ⟨g, o, none⟩) P cf)) := ⟨below_to HI.out.1 hbx, fun W hW => HC5.out W (below_to (below_to HI.out.1 hbx) hW)⟩
      clear hlj HI ef hg hg' hc ha q1 q2 q3 hy ht hbx hblk
      clear hlt5
      go_wp2_with (first | ((with_reducible refine ld_row ?_ ?_ HLD.out ?_); rfl; rfl) | ((with_reducible refine st_row ?_ ?_ ?_ (HSS.out _ ?_) ?_); rfl; rfl; rfl; rfl))
      clear hW5 e5
      have f0 := (HFB.out W5 (Below.refl _ _)).1.c0
      have f1 := (HFB.out W5 (Below.refl _ _)).1.c1
      have e5 := HB5.out.2 W5 (Below.refl _ _)
      cases hnm : Sp.isNm f.nm with
      | false =>
        rw [hnm] at HNF
        have HR : Hid (Sp.clR ⟨nm, vr, pn, pv, ab, fs⟩ = 8) := by
          have e8 : Sp.fR f ah = 8 := by unfold Sp.fR; rw [if_pos (by rw [hnm]; rfl)]
          show _ = _; rw [HX.out, HF2.out, e8]; rfl
        clear HF2
        go_wp2_with fail
        have HSK : Hid ((W5.drew).cell? ⟨wr.heap.size, 0, none⟩ = some (.string f.nm) ∧ (W5.drew).cell? ⟨wr.heap.size, 1, none⟩ = some (.string f.was) ∧ (W5.drew).cell? ⟨w.heap.size, 5, none⟩ = some (.slice (some ⟨g, o, none⟩) P cf)) := ⟨f0, f1, e5⟩
        refine wp_region_held_drew (S := fun W => W.cell? ⟨wr.heap.size, 0, none⟩ = some (.string f.nm) ∧ W.cell? ⟨wr.heap.size, 1, none⟩ = some (.string f.was) ∧ W.cell? ⟨w.heap.size, 5, none⟩ = some (.slice (some ⟨g, o, none⟩) P cf)) (by kernel_rfl) ?_ (fun hHeld => ?_)
        · exact HSK.out
        refine wpAnyH_take (i := 0) (oi := ⟨some 59, .fieldAddr 45 (.tmp 4) 0, 0, "ref.go:30", #[], none⟩) (v := ?_) rfl (by kernel_rfl) (by kernel_rfl) (by kernel_rfl) (fun _ _ _ h => h) (Or.inl ⟨by rfl, ?_⟩) (by assumption) ?_
        rotate_left
        · intro w hSw; (try dsimp only at hSw); go_simp; try (with_reducible rfl)
        simp only [Act.put, List.setIfInBounds_toArray, List.set_cons_zero, List.set_cons_succ]
        refine wpAnyH_take (i := 1) (oi := ⟨some 60, .load 9 (.tmp 59), 9, "ref.go:30", #[⟨0, .data⟩], none⟩) (v := ?_) rfl (by kernel_rfl) (by kernel_rfl) (by kernel_rfl) (fun _ _ _ h => h) (Or.inl ⟨by rfl, ?_⟩) (by assumption) ?_
        rotate_left
        · intro w hSw; (try dsimp only at hSw); go_simp; try (with_reducible rfl)
        simp only [Act.put, List.setIfInBounds_toArray, List.set_cons_zero, List.set_cons_succ]
        refine wpAnyH_ready (rs := [2]) (by kernel_rfl) (by simp) ?_
        refine AllReadyH.cons (o := ⟨some 61, .call { callee := Go.Callee.value (.func 17), args := #[.tmp 60], argTypes := #[9] }, 4, "ref.go:30", #[⟨1, .data⟩], none⟩) rfl (fun K hK => ?_) AllReadyH.nil
        go_simp
        refine (HNF.out _).mono ?_
        rintro e w' ⟨rfl, rfl⟩
        go_wp2_with fail
        refine hK.out _ _ ?_ (fun hHeld => ?_)
        · exact HSK.out
        clear hK K
        refine wpAnyH_take (i := 3) (oi := ⟨some 62, .unOp .not 4 (.tmp 61), 4, "ref.go:30", #[⟨2, .data⟩], none⟩) (v := ?_) rfl (by kernel_rfl) (by kernel_rfl) (by kernel_rfl) (fun _ _ _ h => h) (Or.inl ⟨by rfl, ?_⟩) (by assumption) ?_
        rotate_left
        · intro w hSw; (try dsimp only at hSw); go_simp; try (with_reducible rfl)
        simp only [Act.put, List.setIfInBounds_toArray, List.set_cons_zero, List.set_cons_succ]
        refine wpAnyH_take (i := 4) (oi := ⟨some 63, .move (.tmp 62), 4, "ref.go:30", #[⟨3, .data⟩, ⟨2, .chain⟩], none⟩) (v := ?_) rfl (by kernel_rfl) (by kernel_rfl) (by kernel_rfl) (fun _ _ _ h => h) (Or.inl ⟨by rfl, ?_⟩) (by assumption) ?_
        rotate_left
        · intro w hSw; (try dsimp only at hSw); go_simp; try (with_reducible rfl)
        simp only [Act.put, List.setIfInBounds_toArray, List.set_cons_zero, List.set_cons_succ]
        refine wpAnyH_take (i := 5) (oi := ⟨some 64, .move (.tmp 3), 3, "ref.go:30", #[⟨4, .guard⟩], some (4, false)⟩) (v := _) rfl (by kernel_rfl) (by kernel_rfl) (by kernel_rfl) (fun _ _ _ h => h) (Or.inr ⟨by rfl, rfl⟩) (by assumption) ?_
        simp only [Act.put, List.setIfInBounds_toArray, List.set_cons_zero, List.set_cons_succ]
        refine wpAnyH_take (i := 6) (oi := ⟨some 65, .binOp .gtr 3 (.tmp 64) (.const (Go.Value.int Go.IntKind.i64 0)) 3, 4, "ref.go:30", #[⟨5, .data⟩, ⟨4, .guard⟩], some (4, false)⟩) (v := _) rfl (by kernel_rfl) (by kernel_rfl) (by kernel_rfl) (fun _ _ _ h => h) (Or.inr ⟨by rfl, rfl⟩) (by assumption) ?_
        simp only [Act.put, List.setIfInBounds_toArray, List.set_cons_zero, List.set_cons_succ]
        refine wpAnyH_take (i := 7) (oi := ⟨some 66, .move (.tmp 65), 4, "ref.go:30", #[⟨6, .data⟩, ⟨4, .chain⟩, ⟨4, .guard⟩], some (4, false)⟩) (v := _) rfl (by kernel_rfl) (by kernel_rfl) (by kernel_rfl) (fun _ _ _ h => h) (Or.inr ⟨by rfl, rfl⟩) (by assumption) ?_
        simp only [Act.put, List.setIfInBounds_toArray, List.set_cons_zero, List.set_cons_succ]
        refine wpAnyH_take (i := 8) (oi := ⟨some 67, .fieldAddr 45 (.tmp 4) 0, 0, "ref.go:30", #[⟨7, .guard⟩], some (7, true)⟩) (v := _) rfl (by kernel_rfl) (by kernel_rfl) (by kernel_rfl) (fun _ _ _ h => h) (Or.inr ⟨by rfl, rfl⟩) (by assumption) ?_
        simp only [Act.put, List.setIfInBounds_toArray, List.set_cons_zero, List.set_cons_succ]
        refine wpAnyH_take (i := 9) (oi := ⟨some 68, .load 9 (.tmp 67), 9, "ref.go:30", #[⟨8, .data⟩, ⟨7, .guard⟩], some (7, true)⟩) (v := _) rfl (by kernel_rfl) (by kernel_rfl) (by kernel_rfl) (fun _ _ _ h => h) (Or.inr ⟨by rfl, rfl⟩) (by assumption) ?_
        simp only [Act.put, List.setIfInBounds_toArray, List.set_cons_zero, List.set_cons_succ]
        refine wpAnyH_take (i := 10) (oi := ⟨some 69, .fieldAddr 24 (.tmp 1) 5, 0, "ref.go:30", #[⟨7, .guard⟩], some (7, true)⟩) (v := _) rfl (by kernel_rfl) (by kernel_rfl) (by kernel_rfl) (fun _ _ _ h => h) (Or.inr ⟨by rfl, rfl⟩) (by assumption) ?_
        simp only [Act.put, List.setIfInBounds_toArray, List.set_cons_zero, List.set_cons_succ]
        refine wpAnyH_take (i := 11) (oi := ⟨some 70, .load 22 (.tmp 69), 22, "ref.go:30", #[⟨10, .data⟩, ⟨7, .guard⟩], some (7, true)⟩) (v := _) rfl (by kernel_rfl) (by kernel_rfl) (by kernel_rfl) (fun _ _ _ h => h) (Or.inr ⟨by rfl, rfl⟩) (by assumption) ?_
        simp only [Act.put, List.setIfInBounds_toArray, List.set_cons_zero, List.set_cons_succ]
        refine wpAnyH_take (i := 12) (oi := ⟨some 71, .move (.tmp 3), 3, "ref.go:30", #[⟨7, .guard⟩], some (7, true)⟩) (v := _) rfl (by kernel_rfl) (by kernel_rfl) (by kernel_rfl) (fun _ _ _ h => h) (Or.inr ⟨by rfl, rfl⟩) (by assumption) ?_
        simp only [Act.put, List.setIfInBounds_toArray, List.set_cons_zero, List.set_cons_succ]
        refine wpAnyH_take (i := 13) (oi := ⟨some 72, .binOp .sub 3 (.tmp 71) (.const (Go.Value.int Go.IntKind.i64 1)) 3, 3, "ref.go:30", #[⟨12, .data⟩, ⟨7, .guard⟩], some (7, true)⟩) (v := _) rfl (by kernel_rfl) (by kernel_rfl) (by kernel_rfl) (fun _ _ _ h => h) (Or.inr ⟨by rfl, rfl⟩) (by assumption) ?_
        simp only [Act.put, List.setIfInBounds_toArray, List.set_cons_zero, List.set_cons_succ]
        refine wpAnyH_take (i := 14) (oi := ⟨some 73, .indexAddr 22 (.tmp 70) (.tmp 72), 0, "ref.go:30", #[⟨11, .data⟩, ⟨13, .data⟩, ⟨7, .guard⟩], some (7, true)⟩) (v := _) rfl (by kernel_rfl) (by kernel_rfl) (by kernel_rfl) (fun _ _ _ h => h) (Or.inr ⟨by rfl, rfl⟩) (by assumption) ?_
        simp only [Act.put, List.setIfInBounds_toArray, List.set_cons_zero, List.set_cons_succ]
        refine wpAnyH_take (i := 15) (oi := ⟨some 74, .fieldAddr 45 (.tmp 73) 0, 0, "ref.go:30", #[⟨14, .data⟩, ⟨7, .guard⟩], some (7, true)⟩) (v := _) rfl (by kernel_rfl) (by kernel_rfl) (by kernel_rfl) (fun _ _ _ h => h) (Or.inr ⟨by rfl, rfl⟩) (by assumption) ?_
        simp only [Act.put, List.setIfInBounds_toArray, List.set_cons_zero, List.set_cons_succ]
        refine wpAnyH_take (i := 16) (oi := ⟨some 75, .load 9 (.tmp 74), 9, "ref.go:30", #[⟨15, .data⟩, ⟨7, .guard⟩], some (7, true)⟩) (v := _) rfl (by kernel_rfl) (by kernel_rfl) (by kernel_rfl) (fun _ _ _ h => h) (Or.inr ⟨by rfl, rfl⟩) (by assumption) ?_
        simp only [Act.put, List.setIfInBounds_toArray, List.set_cons_zero, List.set_cons_succ]
        refine wpAnyH_take (i := 17) (oi := ⟨some 76, .binOp .leq 9 (.tmp 68) (.tmp 75) 9, 4, "ref.go:30", #[⟨9, .data⟩, ⟨16, .data⟩, ⟨7, .guard⟩], some (7, true)⟩) (v := _) rfl (by kernel_rfl) (by kernel_rfl) (by kernel_rfl) (fun _ _ _ h => h) (Or.inr ⟨by rfl, rfl⟩) (by assumption) ?_
        simp only [Act.put, List.setIfInBounds_toArray, List.set_cons_zero, List.set_cons_succ]
        refine wpAnyH_take (i := 18) (oi := ⟨some 77, .pick (.tmp 66) (.tmp 76) (.const (Go.Value.bool false)), 4, "ref.go:30", #[⟨7, .data⟩, ⟨17, .data⟩, ⟨4, .guard⟩], some (4, false)⟩) (v := _) rfl (by kernel_rfl) (by kernel_rfl) (by kernel_rfl) (fun _ _ _ h => h) (Or.inr ⟨by rfl, rfl⟩) (by assumption) ?_
        simp only [Act.put, List.setIfInBounds_toArray, List.set_cons_zero, List.set_cons_succ]
        refine wpAnyH_take (i := 19) (oi := ⟨some 78, .pick (.tmp 63) (.const (Go.Value.bool true)) (.tmp 77), 4, "ref.go:30", #[⟨4, .data⟩, ⟨18, .data⟩], none⟩) (v := ?_) rfl (by kernel_rfl) (by kernel_rfl) (by kernel_rfl) (fun _ _ _ h => h) (Or.inl ⟨by rfl, ?_⟩) (by assumption) ?_
        rotate_left
        · intro w hSw; (try dsimp only at hSw); go_simp; try (with_reducible rfl)
        simp only [Act.put, List.setIfInBounds_toArray, List.set_cons_zero, List.set_cons_succ]
        refine wpAnyH_take (i := 20) (oi := ⟨some 79, .move (.tmp 78), 4, "ref.go:30", #[⟨19, .data⟩, ⟨7, .chain⟩], none⟩) (v := ?_) rfl (by kernel_rfl) (by kernel_rfl) (by kernel_rfl) (fun _ _ _ h => h) (Or.inl ⟨by rfl, ?_⟩) (by assumption) ?_
        rotate_left
        · intro w hSw; (try dsimp only at hSw); go_simp; try (with_reducible rfl)
        simp only [Act.put, List.setIfInBounds_toArray, List.set_cons_zero, List.set_cons_succ]
        refine wpAnyH_take (i := 21) (oi := ⟨some 80, .fieldAddr 45 (.tmp 4) 1, 0, "ref.go:30", #[⟨20, .guard⟩], some (20, false)⟩) (v := _) rfl (by kernel_rfl) (by kernel_rfl) (by kernel_rfl) (fun _ _ _ h => h) (Or.inr ⟨by rfl, rfl⟩) (by assumption) ?_
        simp only [Act.put, List.setIfInBounds_toArray, List.set_cons_zero, List.set_cons_succ]
        refine wpAnyH_take (i := 22) (oi := ⟨some 81, .load 9 (.tmp 80), 9, "ref.go:30", #[⟨21, .data⟩, ⟨20, .guard⟩], some (20, false)⟩) (v := _) rfl (by kernel_rfl) (by kernel_rfl) (by kernel_rfl) (fun _ _ _ h => h) (Or.inr ⟨by rfl, rfl⟩) (by assumption) ?_
        simp only [Act.put, List.setIfInBounds_toArray, List.set_cons_zero, List.set_cons_succ]
        refine wpAnyH_take (i := 23) (oi := ⟨some 82, .call { callee := Go.Callee.value (.func 19), args := #[.tmp 81], argTypes := #[9] }, 4, "ref.go:30", #[⟨22, .data⟩, ⟨20, .chain⟩, ⟨20, .guard⟩], some (20, false)⟩) (v := _) rfl (by kernel_rfl) (by kernel_rfl) (by kernel_rfl) (fun _ _ _ h => h) (Or.inr ⟨by rfl, rfl⟩) (by assumption) ?_
        simp only [Act.put, List.setIfInBounds_toArray, List.set_cons_zero, List.set_cons_succ]
        refine wpAnyH_take (i := 24) (oi := ⟨some 83, .unOp .not 4 (.tmp 82), 4, "ref.go:30", #[⟨23, .data⟩, ⟨20, .guard⟩], some (20, false)⟩) (v := _) rfl (by kernel_rfl) (by kernel_rfl) (by kernel_rfl) (fun _ _ _ h => h) (Or.inr ⟨by rfl, rfl⟩) (by assumption) ?_
        simp only [Act.put, List.setIfInBounds_toArray, List.set_cons_zero, List.set_cons_succ]
        refine wpAnyH_take (i := 25) (oi := ⟨some 84, .pick (.tmp 79) (.const (Go.Value.bool true)) (.tmp 83), 4, "ref.go:30", #[⟨20, .data⟩, ⟨24, .data⟩], none⟩) (v := ?_) rfl (by kernel_rfl) (by kernel_rfl) (by kernel_rfl) (fun _ _ _ h => h) (Or.inl ⟨by rfl, ?_⟩) (by assumption) ?_
        rotate_left
        · intro w hSw; (try dsimp only at hSw); go_simp; try (with_reducible rfl)
        simp only [Act.put, List.setIfInBounds_toArray, List.set_cons_zero, List.set_cons_succ]
        refine wpAnyH_done (by kernel_rfl) ?_ _
        go_wp2_with fail
        go_ret
        exact ⟨ret_int HR.out.symm, (HFB.out _ HDR.out).2.2.1⟩
      | true =>
        rw [hnm] at HNF
        by_cases hjz : j = 0
        · have hah := HAH.out.1 hjz
          subst hah
          have hle := leS_empty hnm
          have hi4 : decide (0 < (j : Int)) = false := by simp; omega
          have hi5 : decide (0 < j) = false := by simp; omega
          clear hjz
          cases hwas : Sp.nmN f.was with
          | false =>
            rw [hwas] at HKF
            have HR : Hid (Sp.clR ⟨nm, vr, pn, pv, ab, fs⟩ = 8) := by
              have e8 : Sp.fR f ByteArray.empty = 8 := by unfold Sp.fR; rw [if_pos (by rw [hnm, hle, hwas]; rfl)]
              show _ = _; rw [HX.out, HF2.out, e8]; rfl
            clear HF2
            go_wp2_with fail
            have HSK : Hid ((W5.drew).cell? ⟨wr.heap.size, 0, none⟩ = some (.string f.nm) ∧ (W5.drew).cell? ⟨wr.heap.size, 1, none⟩ = some (.string f.was) ∧ (W5.drew).cell? ⟨w.heap.size, 5, none⟩ = some (.slice (some ⟨g, o, none⟩) P cf)) := ⟨f0, f1, e5⟩
            refine wp_region_held_drew (S := fun W => W.cell? ⟨wr.heap.size, 0, none⟩ = some (.string f.nm) ∧ W.cell? ⟨wr.heap.size, 1, none⟩ = some (.string f.was) ∧ W.cell? ⟨w.heap.size, 5, none⟩ = some (.slice (some ⟨g, o, none⟩) P cf)) (by kernel_rfl) ?_ (fun hHeld => ?_)
            · exact HSK.out
            refine wpAnyH_take (i := 0) (oi := ⟨some 59, .fieldAddr 45 (.tmp 4) 0, 0, "ref.go:30", #[], none⟩) (v := ?_) rfl (by kernel_rfl) (by kernel_rfl) (by kernel_rfl) (fun _ _ _ h => h) (Or.inl ⟨by rfl, ?_⟩) (by assumption) ?_
            rotate_left
            · intro w hSw; (try dsimp only at hSw); go_simp; try (with_reducible rfl)
            simp only [Act.put, List.setIfInBounds_toArray, List.set_cons_zero, List.set_cons_succ]
            refine wpAnyH_take (i := 1) (oi := ⟨some 60, .load 9 (.tmp 59), 9, "ref.go:30", #[⟨0, .data⟩], none⟩) (v := ?_) rfl (by kernel_rfl) (by kernel_rfl) (by kernel_rfl) (fun _ _ _ h => h) (Or.inl ⟨by rfl, ?_⟩) (by assumption) ?_
            rotate_left
            · intro w hSw; (try dsimp only at hSw); go_simp; try (with_reducible rfl)
            simp only [Act.put, List.setIfInBounds_toArray, List.set_cons_zero, List.set_cons_succ]
            refine wpAnyH_ready (rs := [2]) (by kernel_rfl) (by simp) ?_
            refine AllReadyH.cons (o := ⟨some 61, .call { callee := Go.Callee.value (.func 17), args := #[.tmp 60], argTypes := #[9] }, 4, "ref.go:30", #[⟨1, .data⟩], none⟩) rfl (fun K hK => ?_) AllReadyH.nil
            go_simp
            refine (HNF.out _).mono ?_
            rintro e w' ⟨rfl, rfl⟩
            go_wp2_with fail
            refine hK.out _ _ ?_ (fun hHeld => ?_)
            · exact HSK.out
            clear hK K
            refine wpAnyH_take (i := 3) (oi := ⟨some 62, .unOp .not 4 (.tmp 61), 4, "ref.go:30", #[⟨2, .data⟩], none⟩) (v := ?_) rfl (by kernel_rfl) (by kernel_rfl) (by kernel_rfl) (fun _ _ _ h => h) (Or.inl ⟨by rfl, ?_⟩) (by assumption) ?_
            rotate_left
            · intro w hSw; (try dsimp only at hSw); go_simp; try (with_reducible rfl)
            simp only [Act.put, List.setIfInBounds_toArray, List.set_cons_zero, List.set_cons_succ]
            refine wpAnyH_take (i := 4) (oi := ⟨some 63, .move (.tmp 62), 4, "ref.go:30", #[⟨3, .data⟩, ⟨2, .chain⟩], none⟩) (v := ?_) rfl (by kernel_rfl) (by kernel_rfl) (by kernel_rfl) (fun _ _ _ h => h) (Or.inl ⟨by rfl, ?_⟩) (by assumption) ?_
            rotate_left
            · intro w hSw; (try dsimp only at hSw); go_simp; try (with_reducible rfl)
            simp only [Act.put, List.setIfInBounds_toArray, List.set_cons_zero, List.set_cons_succ]
            refine wpAnyH_take (i := 5) (oi := ⟨some 64, .move (.tmp 3), 3, "ref.go:30", #[⟨4, .guard⟩], some (4, false)⟩) (v := ?_) rfl (by kernel_rfl) (by kernel_rfl) (by kernel_rfl) (fun _ _ _ h => h) (Or.inl ⟨by rfl, ?_⟩) (by assumption) ?_
            rotate_left
            · intro w hSw; (try dsimp only at hSw); go_simp; try (with_reducible rfl)
            simp only [Act.put, List.setIfInBounds_toArray, List.set_cons_zero, List.set_cons_succ]
            refine wpAnyH_take (i := 6) (oi := ⟨some 65, .binOp .gtr 3 (.tmp 64) (.const (Go.Value.int Go.IntKind.i64 0)) 3, 4, "ref.go:30", #[⟨5, .data⟩, ⟨4, .guard⟩], some (4, false)⟩) (v := ?_) rfl (by kernel_rfl) (by kernel_rfl) (by kernel_rfl) (fun _ _ _ h => h) (Or.inl ⟨by rfl, ?_⟩) (by assumption) ?_
            rotate_left
            · intro w hSw; (try dsimp only at hSw); go_simp; try (with_reducible rfl)
            simp only [Act.put, List.setIfInBounds_toArray, List.set_cons_zero, List.set_cons_succ]
            refine wpAnyH_take (i := 7) (oi := ⟨some 66, .move (.tmp 65), 4, "ref.go:30", #[⟨6, .data⟩, ⟨4, .chain⟩, ⟨4, .guard⟩], some (4, false)⟩) (v := ?_) rfl (by kernel_rfl) (by kernel_rfl) (by kernel_rfl) (fun _ _ _ h => h) (Or.inl ⟨by rfl, ?_⟩) (by assumption) ?_
            rotate_left
            · intro w hSw; (try dsimp only at hSw); go_simp; try (with_reducible rfl)
            simp only [Act.put, List.setIfInBounds_toArray, List.set_cons_zero, List.set_cons_succ]
            refine wpAnyH_take (i := 8) (oi := ⟨some 67, .fieldAddr 45 (.tmp 4) 0, 0, "ref.go:30", #[⟨7, .guard⟩], some (7, true)⟩) (v := _) rfl (by kernel_rfl) (by kernel_rfl) (by kernel_rfl) (fun _ _ _ h => h) (Or.inr ⟨by rfl, rfl⟩) (by assumption) ?_
            simp only [Act.put, List.setIfInBounds_toArray, List.set_cons_zero, List.set_cons_succ]
            refine wpAnyH_take (i := 9) (oi := ⟨some 68, .load 9 (.tmp 67), 9, "ref.go:30", #[⟨8, .data⟩, ⟨7, .guard⟩], some (7, true)⟩) (v := _) rfl (by kernel_rfl) (by kernel_rfl) (by kernel_rfl) (fun _ _ _ h => h) (Or.inr ⟨by rfl, rfl⟩) (by assumption) ?_
            simp only [Act.put, List.setIfInBounds_toArray, List.set_cons_zero, List.set_cons_succ]
            refine wpAnyH_take (i := 10) (oi := ⟨some 69, .fieldAddr 24 (.tmp 1) 5, 0, "ref.go:30", #[⟨7, .guard⟩], some (7, true)⟩) (v := _) rfl (by kernel_rfl) (by kernel_rfl) (by kernel_rfl) (fun _ _ _ h => h) (Or.inr ⟨by rfl, rfl⟩) (by assumption) ?_
            simp only [Act.put, List.setIfInBounds_toArray, List.set_cons_zero, List.set_cons_succ]
            refine wpAnyH_take (i := 11) (oi := ⟨some 70, .load 22 (.tmp 69), 22, "ref.go:30", #[⟨10, .data⟩, ⟨7, .guard⟩], some (7, true)⟩) (v := _) rfl (by kernel_rfl) (by kernel_rfl) (by kernel_rfl) (fun _ _ _ h => h) (Or.inr ⟨by rfl, rfl⟩) (by assumption) ?_
            simp only [Act.put, List.setIfInBounds_toArray, List.set_cons_zero, List.set_cons_succ]
            refine wpAnyH_take (i := 12) (oi := ⟨some 71, .move (.tmp 3), 3, "ref.go:30", #[⟨7, .guard⟩], some (7, true)⟩) (v := _) rfl (by kernel_rfl) (by kernel_rfl) (by kernel_rfl) (fun _ _ _ h => h) (Or.inr ⟨by rfl, rfl⟩) (by assumption) ?_
            simp only [Act.put, List.setIfInBounds_toArray, List.set_cons_zero, List.set_cons_succ]
            refine wpAnyH_take (i := 13) (oi := ⟨some 72, .binOp .sub 3 (.tmp 71) (.const (Go.Value.int Go.IntKind.i64 1)) 3, 3, "ref.go:30", #[⟨12, .data⟩, ⟨7, .guard⟩], some (7, true)⟩) (v := _) rfl (by kernel_rfl) (by kernel_rfl) (by kernel_rfl) (fun _ _ _ h => h) (Or.inr ⟨by rfl, rfl⟩) (by assumption) ?_
            simp only [Act.put, List.setIfInBounds_toArray, List.set_cons_zero, List.set_cons_succ]
            refine wpAnyH_take (i := 14) (oi := ⟨some 73, .indexAddr 22 (.tmp 70) (.tmp 72), 0, "ref.go:30", #[⟨11, .data⟩, ⟨13, .data⟩, ⟨7, .guard⟩], some (7, true)⟩) (v := _) rfl (by kernel_rfl) (by kernel_rfl) (by kernel_rfl) (fun _ _ _ h => h) (Or.inr ⟨by rfl, rfl⟩) (by assumption) ?_
            simp only [Act.put, List.setIfInBounds_toArray, List.set_cons_zero, List.set_cons_succ]
            refine wpAnyH_take (i := 15) (oi := ⟨some 74, .fieldAddr 45 (.tmp 73) 0, 0, "ref.go:30", #[⟨14, .data⟩, ⟨7, .guard⟩], some (7, true)⟩) (v := _) rfl (by kernel_rfl) (by kernel_rfl) (by kernel_rfl) (fun _ _ _ h => h) (Or.inr ⟨by rfl, rfl⟩) (by assumption) ?_
            simp only [Act.put, List.setIfInBounds_toArray, List.set_cons_zero, List.set_cons_succ]
            refine wpAnyH_take (i := 16) (oi := ⟨some 75, .load 9 (.tmp 74), 9, "ref.go:30", #[⟨15, .data⟩, ⟨7, .guard⟩], some (7, true)⟩) (v := _) rfl (by kernel_rfl) (by kernel_rfl) (by kernel_rfl) (fun _ _ _ h => h) (Or.inr ⟨by rfl, rfl⟩) (by assumption) ?_
            simp only [Act.put, List.setIfInBounds_toArray, List.set_cons_zero, List.set_cons_succ]
            refine wpAnyH_take (i := 17) (oi := ⟨some 76, .binOp .leq 9 (.tmp 68) (.tmp 75) 9, 4, "ref.go:30", #[⟨9, .data⟩, ⟨16, .data⟩, ⟨7, .guard⟩], some (7, true)⟩) (v := _) rfl (by kernel_rfl) (by kernel_rfl) (by kernel_rfl) (fun _ _ _ h => h) (Or.inr ⟨by rfl, rfl⟩) (by assumption) ?_
            simp only [Act.put, List.setIfInBounds_toArray, List.set_cons_zero, List.set_cons_succ]
            refine wpAnyH_take (i := 18) (oi := ⟨some 77, .pick (.tmp 66) (.tmp 76) (.const (Go.Value.bool false)), 4, "ref.go:30", #[⟨7, .data⟩, ⟨17, .data⟩, ⟨4, .guard⟩], some (4, false)⟩) (v := ?_) rfl (by kernel_rfl) (by kernel_rfl) (by kernel_rfl) (fun _ _ _ h => h) (Or.inl ⟨by rfl, ?_⟩) (by assumption) ?_
            rotate_left
            · intro w hSw; (try dsimp only at hSw); go_simp; try (with_reducible rfl)
            simp only [Act.put, List.setIfInBounds_toArray, List.set_cons_zero, List.set_cons_succ]
            refine wpAnyH_take (i := 19) (oi := ⟨some 78, .pick (.tmp 63) (.const (Go.Value.bool true)) (.tmp 77), 4, "ref.go:30", #[⟨4, .data⟩, ⟨18, .data⟩], none⟩) (v := ?_) rfl (by kernel_rfl) (by kernel_rfl) (by kernel_rfl) (fun _ _ _ h => h) (Or.inl ⟨by rfl, ?_⟩) (by assumption) ?_
            rotate_left
            · intro w hSw; (try dsimp only at hSw); go_simp; try (with_reducible rfl)
            simp only [Act.put, List.setIfInBounds_toArray, List.set_cons_zero, List.set_cons_succ]
            refine wpAnyH_take (i := 20) (oi := ⟨some 79, .move (.tmp 78), 4, "ref.go:30", #[⟨19, .data⟩, ⟨7, .chain⟩], none⟩) (v := ?_) rfl (by kernel_rfl) (by kernel_rfl) (by kernel_rfl) (fun _ _ _ h => h) (Or.inl ⟨by rfl, ?_⟩) (by assumption) ?_
            rotate_left
            · intro w hSw; (try dsimp only at hSw); go_simp; try (with_reducible rfl)
            simp only [Act.put, List.setIfInBounds_toArray, List.set_cons_zero, List.set_cons_succ]
            refine wpAnyH_take (i := 21) (oi := ⟨some 80, .fieldAddr 45 (.tmp 4) 1, 0, "ref.go:30", #[⟨20, .guard⟩], some (20, false)⟩) (v := ?_) rfl (by kernel_rfl) (by kernel_rfl) (by kernel_rfl) (fun _ _ _ h => h) (Or.inl ⟨by rfl, ?_⟩) (by assumption) ?_
            rotate_left
            · intro w hSw; (try dsimp only at hSw); go_simp; try (with_reducible rfl)
            simp only [Act.put, List.setIfInBounds_toArray, List.set_cons_zero, List.set_cons_succ]
            refine wpAnyH_take (i := 22) (oi := ⟨some 81, .load 9 (.tmp 80), 9, "ref.go:30", #[⟨21, .data⟩, ⟨20, .guard⟩], some (20, false)⟩) (v := ?_) rfl (by kernel_rfl) (by kernel_rfl) (by kernel_rfl) (fun _ _ _ h => h) (Or.inl ⟨by rfl, ?_⟩) (by assumption) ?_
            rotate_left
            · intro w hSw; (try dsimp only at hSw); go_simp; try (with_reducible rfl)
            simp only [Act.put, List.setIfInBounds_toArray, List.set_cons_zero, List.set_cons_succ]
            refine wpAnyH_ready (rs := [23]) (by kernel_rfl) (by simp) ?_
            refine AllReadyH.cons (o := ⟨some 82, .call { callee := Go.Callee.value (.func 19), args := #[.tmp 81], argTypes := #[9] }, 4, "ref.go:30", #[⟨22, .data⟩, ⟨20, .chain⟩, ⟨20, .guard⟩], some (20, false)⟩) rfl (fun K hK => ?_) AllReadyH.nil
            go_simp
            refine (HKF.out _).mono ?_
            rintro e w' ⟨rfl, rfl⟩
            go_wp2_with fail
            refine hK.out _ _ ?_ (fun hHeld => ?_)
            · exact HSK.out
            clear hK K
            refine wpAnyH_take (i := 24) (oi := ⟨some 83, .unOp .not 4 (.tmp 82), 4, "ref.go:30", #[⟨23, .data⟩, ⟨20, .guard⟩], some (20, false)⟩) (v := ?_) rfl (by kernel_rfl) (by kernel_rfl) (by kernel_rfl) (fun _ _ _ h => h) (Or.inl ⟨by rfl, ?_⟩) (by assumption) ?_
            rotate_left
            · intro w hSw; (try dsimp only at hSw); go_simp; try (with_reducible rfl)
            simp only [Act.put, List.setIfInBounds_toArray, List.set_cons_zero, List.set_cons_succ]
            refine wpAnyH_take (i := 25) (oi := ⟨some 84, .pick (.tmp 79) (.const (Go.Value.bool true)) (.tmp 83), 4, "ref.go:30", #[⟨20, .data⟩, ⟨24, .data⟩], none⟩) (v := ?_) rfl (by kernel_rfl) (by kernel_rfl) (by kernel_rfl) (fun _ _ _ h => h) (Or.inl ⟨by rfl, ?_⟩) (by assumption) ?_
            rotate_left
            · intro w hSw; (try dsimp only at hSw); go_simp; try (with_reducible rfl)
            simp only [Act.put, List.setIfInBounds_toArray, List.set_cons_zero, List.set_cons_succ]
            refine wpAnyH_done (by kernel_rfl) ?_ _
            go_wp2_with fail
            go_ret
            exact ⟨ret_int HR.out.symm, (HFB.out _ HDR.out).2.2.1⟩
          | true =>
            rw [hwas] at HKF
            have HFR : Hid (Sp.fR f ByteArray.empty = if f.ty.can = false then 70 else if f.has = false then 0 else f.df.all.e) := by
              show _ = _; unfold Sp.fR; rw [if_neg (by rw [hnm, hle, hwas]; decide)]
            have HTYd : Hid ((loadVar 43 ⟨wr.heap.size, 2, none⟩).run Tryz.prog W5.drew = .ok (.agg cy) W5.drew) := (HFB.out _ HDR.out).1.ty
            clear HAH
            go_wp2_with fail
            have HSK : Hid ((W5.drew).cell? ⟨wr.heap.size, 0, none⟩ = some (.string f.nm) ∧ (W5.drew).cell? ⟨wr.heap.size, 1, none⟩ = some (.string f.was) ∧ (W5.drew).cell? ⟨w.heap.size, 5, none⟩ = some (.slice (some ⟨g, o, none⟩) P cf)) := ⟨f0, f1, e5⟩
            refine wp_region_held_drew (S := fun W => W.cell? ⟨wr.heap.size, 0, none⟩ = some (.string f.nm) ∧ W.cell? ⟨wr.heap.size, 1, none⟩ = some (.string f.was) ∧ W.cell? ⟨w.heap.size, 5, none⟩ = some (.slice (some ⟨g, o, none⟩) P cf)) (by kernel_rfl) ?_ (fun hHeld => ?_)
            · exact HSK.out
            refine wpAnyH_take (i := 0) (oi := ⟨some 59, .fieldAddr 45 (.tmp 4) 0, 0, "ref.go:30", #[], none⟩) (v := ?_) rfl (by kernel_rfl) (by kernel_rfl) (by kernel_rfl) (fun _ _ _ h => h) (Or.inl ⟨by rfl, ?_⟩) (by assumption) ?_
            rotate_left
            · intro w hSw; (try dsimp only at hSw); go_simp; try (with_reducible rfl)
            simp only [Act.put, List.setIfInBounds_toArray, List.set_cons_zero, List.set_cons_succ]
            refine wpAnyH_take (i := 1) (oi := ⟨some 60, .load 9 (.tmp 59), 9, "ref.go:30", #[⟨0, .data⟩], none⟩) (v := ?_) rfl (by kernel_rfl) (by kernel_rfl) (by kernel_rfl) (fun _ _ _ h => h) (Or.inl ⟨by rfl, ?_⟩) (by assumption) ?_
            rotate_left
            · intro w hSw; (try dsimp only at hSw); go_simp; try (with_reducible rfl)
            simp only [Act.put, List.setIfInBounds_toArray, List.set_cons_zero, List.set_cons_succ]
            refine wpAnyH_ready (rs := [2]) (by kernel_rfl) (by simp) ?_
            refine AllReadyH.cons (o := ⟨some 61, .call { callee := Go.Callee.value (.func 17), args := #[.tmp 60], argTypes := #[9] }, 4, "ref.go:30", #[⟨1, .data⟩], none⟩) rfl (fun K hK => ?_) AllReadyH.nil
            go_simp
            refine (HNF.out _).mono ?_
            rintro e w' ⟨rfl, rfl⟩
            go_wp2_with fail
            refine hK.out _ _ ?_ (fun hHeld => ?_)
            · exact HSK.out
            clear hK K
            refine wpAnyH_take (i := 3) (oi := ⟨some 62, .unOp .not 4 (.tmp 61), 4, "ref.go:30", #[⟨2, .data⟩], none⟩) (v := ?_) rfl (by kernel_rfl) (by kernel_rfl) (by kernel_rfl) (fun _ _ _ h => h) (Or.inl ⟨by rfl, ?_⟩) (by assumption) ?_
            rotate_left
            · intro w hSw; (try dsimp only at hSw); go_simp; try (with_reducible rfl)
            simp only [Act.put, List.setIfInBounds_toArray, List.set_cons_zero, List.set_cons_succ]
            refine wpAnyH_take (i := 4) (oi := ⟨some 63, .move (.tmp 62), 4, "ref.go:30", #[⟨3, .data⟩, ⟨2, .chain⟩], none⟩) (v := ?_) rfl (by kernel_rfl) (by kernel_rfl) (by kernel_rfl) (fun _ _ _ h => h) (Or.inl ⟨by rfl, ?_⟩) (by assumption) ?_
            rotate_left
            · intro w hSw; (try dsimp only at hSw); go_simp; try (with_reducible rfl)
            simp only [Act.put, List.setIfInBounds_toArray, List.set_cons_zero, List.set_cons_succ]
            refine wpAnyH_take (i := 5) (oi := ⟨some 64, .move (.tmp 3), 3, "ref.go:30", #[⟨4, .guard⟩], some (4, false)⟩) (v := ?_) rfl (by kernel_rfl) (by kernel_rfl) (by kernel_rfl) (fun _ _ _ h => h) (Or.inl ⟨by rfl, ?_⟩) (by assumption) ?_
            rotate_left
            · intro w hSw; (try dsimp only at hSw); go_simp; try (with_reducible rfl)
            simp only [Act.put, List.setIfInBounds_toArray, List.set_cons_zero, List.set_cons_succ]
            refine wpAnyH_take (i := 6) (oi := ⟨some 65, .binOp .gtr 3 (.tmp 64) (.const (Go.Value.int Go.IntKind.i64 0)) 3, 4, "ref.go:30", #[⟨5, .data⟩, ⟨4, .guard⟩], some (4, false)⟩) (v := ?_) rfl (by kernel_rfl) (by kernel_rfl) (by kernel_rfl) (fun _ _ _ h => h) (Or.inl ⟨by rfl, ?_⟩) (by assumption) ?_
            rotate_left
            · intro w hSw; (try dsimp only at hSw); go_simp; try (with_reducible rfl)
            simp only [Act.put, List.setIfInBounds_toArray, List.set_cons_zero, List.set_cons_succ]
            refine wpAnyH_take (i := 7) (oi := ⟨some 66, .move (.tmp 65), 4, "ref.go:30", #[⟨6, .data⟩, ⟨4, .chain⟩, ⟨4, .guard⟩], some (4, false)⟩) (v := ?_) rfl (by kernel_rfl) (by kernel_rfl) (by kernel_rfl) (fun _ _ _ h => h) (Or.inl ⟨by rfl, ?_⟩) (by assumption) ?_
            rotate_left
            · intro w hSw; (try dsimp only at hSw); go_simp; try (with_reducible rfl)
            simp only [Act.put, List.setIfInBounds_toArray, List.set_cons_zero, List.set_cons_succ]
            refine wpAnyH_take (i := 8) (oi := ⟨some 67, .fieldAddr 45 (.tmp 4) 0, 0, "ref.go:30", #[⟨7, .guard⟩], some (7, true)⟩) (v := _) rfl (by kernel_rfl) (by kernel_rfl) (by kernel_rfl) (fun _ _ _ h => h) (Or.inr ⟨by rfl, rfl⟩) (by assumption) ?_
            simp only [Act.put, List.setIfInBounds_toArray, List.set_cons_zero, List.set_cons_succ]
            refine wpAnyH_take (i := 9) (oi := ⟨some 68, .load 9 (.tmp 67), 9, "ref.go:30", #[⟨8, .data⟩, ⟨7, .guard⟩], some (7, true)⟩) (v := _) rfl (by kernel_rfl) (by kernel_rfl) (by kernel_rfl) (fun _ _ _ h => h) (Or.inr ⟨by rfl, rfl⟩) (by assumption) ?_
            simp only [Act.put, List.setIfInBounds_toArray, List.set_cons_zero, List.set_cons_succ]
            refine wpAnyH_take (i := 10) (oi := ⟨some 69, .fieldAddr 24 (.tmp 1) 5, 0, "ref.go:30", #[⟨7, .guard⟩], some (7, true)⟩) (v := _) rfl (by kernel_rfl) (by kernel_rfl) (by kernel_rfl) (fun _ _ _ h => h) (Or.inr ⟨by rfl, rfl⟩) (by assumption) ?_
            simp only [Act.put, List.setIfInBounds_toArray, List.set_cons_zero, List.set_cons_succ]
            refine wpAnyH_take (i := 11) (oi := ⟨some 70, .load 22 (.tmp 69), 22, "ref.go:30", #[⟨10, .data⟩, ⟨7, .guard⟩], some (7, true)⟩) (v := _) rfl (by kernel_rfl) (by kernel_rfl) (by kernel_rfl) (fun _ _ _ h => h) (Or.inr ⟨by rfl, rfl⟩) (by assumption) ?_
            simp only [Act.put, List.setIfInBounds_toArray, List.set_cons_zero, List.set_cons_succ]
            refine wpAnyH_take (i := 12) (oi := ⟨some 71, .move (.tmp 3), 3, "ref.go:30", #[⟨7, .guard⟩], some (7, true)⟩) (v := _) rfl (by kernel_rfl) (by kernel_rfl) (by kernel_rfl) (fun _ _ _ h => h) (Or.inr ⟨by rfl, rfl⟩) (by assumption) ?_
            simp only [Act.put, List.setIfInBounds_toArray, List.set_cons_zero, List.set_cons_succ]
            refine wpAnyH_take (i := 13) (oi := ⟨some 72, .binOp .sub 3 (.tmp 71) (.const (Go.Value.int Go.IntKind.i64 1)) 3, 3, "ref.go:30", #[⟨12, .data⟩, ⟨7, .guard⟩], some (7, true)⟩) (v := _) rfl (by kernel_rfl) (by kernel_rfl) (by kernel_rfl) (fun _ _ _ h => h) (Or.inr ⟨by rfl, rfl⟩) (by assumption) ?_
            simp only [Act.put, List.setIfInBounds_toArray, List.set_cons_zero, List.set_cons_succ]
            refine wpAnyH_take (i := 14) (oi := ⟨some 73, .indexAddr 22 (.tmp 70) (.tmp 72), 0, "ref.go:30", #[⟨11, .data⟩, ⟨13, .data⟩, ⟨7, .guard⟩], some (7, true)⟩) (v := _) rfl (by kernel_rfl) (by kernel_rfl) (by kernel_rfl) (fun _ _ _ h => h) (Or.inr ⟨by rfl, rfl⟩) (by assumption) ?_
            simp only [Act.put, List.setIfInBounds_toArray, List.set_cons_zero, List.set_cons_succ]
            refine wpAnyH_take (i := 15) (oi := ⟨some 74, .fieldAddr 45 (.tmp 73) 0, 0, "ref.go:30", #[⟨14, .data⟩, ⟨7, .guard⟩], some (7, true)⟩) (v := _) rfl (by kernel_rfl) (by kernel_rfl) (by kernel_rfl) (fun _ _ _ h => h) (Or.inr ⟨by rfl, rfl⟩) (by assumption) ?_
            simp only [Act.put, List.setIfInBounds_toArray, List.set_cons_zero, List.set_cons_succ]
            refine wpAnyH_take (i := 16) (oi := ⟨some 75, .load 9 (.tmp 74), 9, "ref.go:30", #[⟨15, .data⟩, ⟨7, .guard⟩], some (7, true)⟩) (v := _) rfl (by kernel_rfl) (by kernel_rfl) (by kernel_rfl) (fun _ _ _ h => h) (Or.inr ⟨by rfl, rfl⟩) (by assumption) ?_
            simp only [Act.put, List.setIfInBounds_toArray, List.set_cons_zero, List.set_cons_succ]
            refine wpAnyH_take (i := 17) (oi := ⟨some 76, .binOp .leq 9 (.tmp 68) (.tmp 75) 9, 4, "ref.go:30", #[⟨9, .data⟩, ⟨16, .data⟩, ⟨7, .guard⟩], some (7, true)⟩) (v := _) rfl (by kernel_rfl) (by kernel_rfl) (by kernel_rfl) (fun _ _ _ h => h) (Or.inr ⟨by rfl, rfl⟩) (by assumption) ?_
            simp only [Act.put, List.setIfInBounds_toArray, List.set_cons_zero, List.set_cons_succ]
            refine wpAnyH_take (i := 18) (oi := ⟨some 77, .pick (.tmp 66) (.tmp 76) (.const (Go.Value.bool false)), 4, "ref.go:30", #[⟨7, .data⟩, ⟨17, .data⟩, ⟨4, .guard⟩], some (4, false)⟩) (v := ?_) rfl (by kernel_rfl) (by kernel_rfl) (by kernel_rfl) (fun _ _ _ h => h) (Or.inl ⟨by rfl, ?_⟩) (by assumption) ?_
            rotate_left
            · intro w hSw; (try dsimp only at hSw); go_simp; try (with_reducible rfl)
            simp only [Act.put, List.setIfInBounds_toArray, List.set_cons_zero, List.set_cons_succ]
            refine wpAnyH_take (i := 19) (oi := ⟨some 78, .pick (.tmp 63) (.const (Go.Value.bool true)) (.tmp 77), 4, "ref.go:30", #[⟨4, .data⟩, ⟨18, .data⟩], none⟩) (v := ?_) rfl (by kernel_rfl) (by kernel_rfl) (by kernel_rfl) (fun _ _ _ h => h) (Or.inl ⟨by rfl, ?_⟩) (by assumption) ?_
            rotate_left
            · intro w hSw; (try dsimp only at hSw); go_simp; try (with_reducible rfl)
            simp only [Act.put, List.setIfInBounds_toArray, List.set_cons_zero, List.set_cons_succ]
            refine wpAnyH_take (i := 20) (oi := ⟨some 79, .move (.tmp 78), 4, "ref.go:30", #[⟨19, .data⟩, ⟨7, .chain⟩], none⟩) (v := ?_) rfl (by kernel_rfl) (by kernel_rfl) (by kernel_rfl) (fun _ _ _ h => h) (Or.inl ⟨by rfl, ?_⟩) (by assumption) ?_
            rotate_left
            · intro w hSw; (try dsimp only at hSw); go_simp; try (with_reducible rfl)
            simp only [Act.put, List.setIfInBounds_toArray, List.set_cons_zero, List.set_cons_succ]
            refine wpAnyH_take (i := 21) (oi := ⟨some 80, .fieldAddr 45 (.tmp 4) 1, 0, "ref.go:30", #[⟨20, .guard⟩], some (20, false)⟩) (v := ?_) rfl (by kernel_rfl) (by kernel_rfl) (by kernel_rfl) (fun _ _ _ h => h) (Or.inl ⟨by rfl, ?_⟩) (by assumption) ?_
            rotate_left
            · intro w hSw; (try dsimp only at hSw); go_simp; try (with_reducible rfl)
            simp only [Act.put, List.setIfInBounds_toArray, List.set_cons_zero, List.set_cons_succ]
            refine wpAnyH_take (i := 22) (oi := ⟨some 81, .load 9 (.tmp 80), 9, "ref.go:30", #[⟨21, .data⟩, ⟨20, .guard⟩], some (20, false)⟩) (v := ?_) rfl (by kernel_rfl) (by kernel_rfl) (by kernel_rfl) (fun _ _ _ h => h) (Or.inl ⟨by rfl, ?_⟩) (by assumption) ?_
            rotate_left
            · intro w hSw; (try dsimp only at hSw); go_simp; try (with_reducible rfl)
            simp only [Act.put, List.setIfInBounds_toArray, List.set_cons_zero, List.set_cons_succ]
            refine wpAnyH_ready (rs := [23]) (by kernel_rfl) (by simp) ?_
            refine AllReadyH.cons (o := ⟨some 82, .call { callee := Go.Callee.value (.func 19), args := #[.tmp 81], argTypes := #[9] }, 4, "ref.go:30", #[⟨22, .data⟩, ⟨20, .chain⟩, ⟨20, .guard⟩], some (20, false)⟩) rfl (fun K hK => ?_) AllReadyH.nil
            go_simp
            refine (HKF.out _).mono ?_
            rintro e w' ⟨rfl, rfl⟩
            go_wp2_with fail
            refine hK.out _ _ ?_ (fun hHeld => ?_)
            · exact HSK.out
            clear hK K
            refine wpAnyH_take (i := 24) (oi := ⟨some 83, .unOp .not 4 (.tmp 82), 4, "ref.go:30", #[⟨23, .data⟩, ⟨20, .guard⟩], some (20, false)⟩) (v := ?_) rfl (by kernel_rfl) (by kernel_rfl) (by kernel_rfl) (fun _ _ _ h => h) (Or.inl ⟨by rfl, ?_⟩) (by assumption) ?_
            rotate_left
            · intro w hSw; (try dsimp only at hSw); go_simp; try (with_reducible rfl)
            simp only [Act.put, List.setIfInBounds_toArray, List.set_cons_zero, List.set_cons_succ]
            refine wpAnyH_take (i := 25) (oi := ⟨some 84, .pick (.tmp 79) (.const (Go.Value.bool true)) (.tmp 83), 4, "ref.go:30", #[⟨20, .data⟩, ⟨24, .data⟩], none⟩) (v := ?_) rfl (by kernel_rfl) (by kernel_rfl) (by kernel_rfl) (fun _ _ _ h => h) (Or.inl ⟨by rfl, ?_⟩) (by assumption) ?_
            rotate_left
            · intro w hSw; (try dsimp only at hSw); go_simp; try (with_reducible rfl)
            simp only [Act.put, List.setIfInBounds_toArray, List.set_cons_zero, List.set_cons_succ]
            refine wpAnyH_done (by kernel_rfl) ?_ _
            go_wp2_with ((with_reducible refine ld_row ?_ ?_ HTYd.out ?_); rfl; rfl)
            refine (HCA.out _ HDR.out).mono ?_
            rintro e w6 ⟨rfl, hb6⟩
            have hb6 := below_to HDR.out hb6
            obtain ⟨r1, r2, r3, -, -⟩ := HFB.out w6 hb6
            have f20 := r1.c20
            have HTD : Hid ((loadVar 38 ⟨wr.heap.size, 21, none⟩).run Tryz.prog w6 = .ok (.agg ct) w6) := r1.df
            have H6 : Hid (Below (w.alloc (.cells #[.string nm, .int .i64 vr, .string pn, .int .i64 pv, .bool ab, .slice (some ⟨g, o, none⟩) P cf] 24)).heap.size (w.alloc (.cells #[.string nm, .int .i64 vr, .string pn, .int .i64 pv, .bool ab, .slice (some ⟨g, o, none⟩) P cf] 24)) w6 ∧ Below w.heap.size w w6) := ⟨r2, r3⟩
            have HCK := HCH.out w6 hb6
            have HCK : Hid _ := HCK
            clear hb6 r1 r2 r3
            cases hcan : f.ty.can with
            | false =>
              have HR : Hid (Sp.clR ⟨nm, vr, pn, pv, ab, fs⟩ = 70) := by show _ = _; rw [HX.out, HF2.out, HFR.out, hcan]; rfl
              clear HF2 HFR
              go_wp2_with fail
              go_ret
              exact ⟨ret_int HR.out.symm, H6.out.2⟩
            | true =>
              cases hhas : f.has with
              | false =>
                have HR : Hid (Sp.fsR ByteArray.empty fs = Sp.fsR f.nm l) := by show _ = _; rw [HF2.out, HFR.out, hcan, hhas]; rfl
                rw [hhas] at f20
                clear HF2 HFR hhas
                go_wp2_with fail
                go_roundw
                case rel => exact ⟨j + 1, l, f.nm, by go_num, HJ.out.1, ⟨H6.out.1, HJ.out.2.1, HR.out, fun h => by omega, fun j'' h => ⟨f, by have e : j'' = j := (by omega); rw [e]; exact HJ.out.2.2, rfl⟩⟩⟩
                case measure => simp [intOf]; omega
              | true =>
                rw [hhas] at f20
                by_cases he : f.df.all.e = 0
                · have HR : Hid (Sp.fsR ByteArray.empty fs = Sp.fsR f.nm l) := by show _ = _; rw [HF2.out, HFR.out, hcan, hhas, he]; rfl
                  rw [he] at HCK
                  clear HF2 HFR hhas he
                  generalize f.df.cAt = cat at *
                  go_wp2_with ((with_reducible refine ld_row ?_ ?_ HTD.out ?_); rfl; rfl)
                  refine (show Calls _ _ _ _ _ from HCK.out).mono ?_
                  rintro e w7 ⟨rfl, hb7⟩
                  have H7 : Hid (Below (w.alloc (.cells #[.string nm, .int .i64 vr, .string pn, .int .i64 pv, .bool ab, .slice (some ⟨g, o, none⟩) P cf] 24)).heap.size (w.alloc (.cells #[.string nm, .int .i64 vr, .string pn, .int .i64 pv, .bool ab, .slice (some ⟨g, o, none⟩) P cf] 24)) w7) := below_to H6.out.1 hb7
                  clear hb7
                  go_wp2_with fail
                  go_roundw
                  case rel => exact ⟨j + 1, l, f.nm, by go_num, HJ.out.1, ⟨H7.out, HJ.out.2.1, HR.out, fun h => by omega, fun j'' h => ⟨f, by have e : j'' = j := (by omega); rw [e]; exact HJ.out.2.2, rfl⟩⟩⟩
                  case measure => simp [intOf]; omega
                · have HR : Hid (Sp.clR ⟨nm, vr, pn, pv, ab, fs⟩ = f.df.all.e) := by show _ = _; rw [HX.out, HF2.out, HFR.out, hcan, hhas]; simp [he]
                  have he' := ne_bool he
                  clear HF2 HFR hhas he
                  generalize f.df.cAt = cat at *
                  generalize f.df.all.e = q at *
                  go_wp2_with ((with_reducible refine ld_row ?_ ?_ HTD.out ?_); rfl; rfl)
                  refine (show Calls _ _ _ _ _ from HCK.out).mono ?_
                  rintro e w7 ⟨rfl, hb7⟩
                  have H7 : Hid (Below w.heap.size w w7) := below_to H6.out.2 hb7
                  clear hb7
                  go_wp2_with fail
                  go_ret
                  exact ⟨ret_int HR.out.symm, H7.out⟩
        · obtain ⟨j', hjj⟩ : ∃ j', j = j' + 1 := ⟨j - 1, by omega⟩
          obtain ⟨f', ef', hfn⟩ := HAH.out.2 j' hjj
          obtain ⟨g', o', cy', ct', he', hg', hc', ha'⟩ := HFS.out j' f' ef'
          injection he' with he'
          injection he' with he1 he2
          subst he1
          subst he2
          have hca : W5.cell? ⟨g, o + j' * 32, none⟩ = some (.string ah) := by
            have hb := (HFB.out W5 (Below.refl _ _)).2.2.1
            rw [hb.cell (p := ⟨g, o + j' * 32, none⟩) (HBB.out g hg'), ← hfn]
            exact (hc' 0 (by decide)).trans fcs_0
          have hwi : IntKind.i64.wrap ((j : Int) - 1) = (j' : Int) := by rw [show (j : Int) - 1 = (j' : Int) by omega]; exact Go.wrap_small _ (by omega) (by omega)
          have hi2 : (j' : Int) < (P : Int) := by omega
          have hi3 : (0 : Int) ≤ (j' : Int) := Int.natCast_nonneg _
          have hi4 : decide (0 < (j : Int)) = true := by simp; omega
          have hi5 : decide (0 < j) = true := by simp; omega
          have HZ0 : Hid (j = j' + 1) := hjj
          clear hjj hjz hfn ef' hg' hc' ha'
          cases hle : Sp.leS f.nm ah with
          | true =>
            have hle' : (Op.bytesLess f.nm.toList ah.toList || f.nm.toList == ah.toList) = true := hle
            have HR : Hid (Sp.clR ⟨nm, vr, pn, pv, ab, fs⟩ = 8) := by
              have e8 : Sp.fR f ah = 8 := by unfold Sp.fR; rw [if_pos (by rw [hnm, hle]; rfl)]
              show _ = _; rw [HX.out, HF2.out, e8]; rfl
            clear HF2
            go_wp2_with fail
            have HSK : Hid ((W5.drew).cell? ⟨wr.heap.size, 0, none⟩ = some (.string f.nm) ∧ (W5.drew).cell? ⟨wr.heap.size, 1, none⟩ = some (.string f.was) ∧ (W5.drew).cell? ⟨w.heap.size, 5, none⟩ = some (.slice (some ⟨g, o, none⟩) P cf) ∧ (W5.drew).cell? ⟨g, o + j' * 32, none⟩ = some (.string ah)) := ⟨f0, f1, e5, hca⟩
            refine wp_region_held_drew (S := fun W => W.cell? ⟨wr.heap.size, 0, none⟩ = some (.string f.nm) ∧ W.cell? ⟨wr.heap.size, 1, none⟩ = some (.string f.was) ∧ W.cell? ⟨w.heap.size, 5, none⟩ = some (.slice (some ⟨g, o, none⟩) P cf) ∧ W.cell? ⟨g, o + j' * 32, none⟩ = some (.string ah)) (by kernel_rfl) ?_ (fun hHeld => ?_)
            · exact HSK.out
            refine wpAnyH_take (i := 0) (oi := ⟨some 59, .fieldAddr 45 (.tmp 4) 0, 0, "ref.go:30", #[], none⟩) (v := ?_) rfl (by kernel_rfl) (by kernel_rfl) (by kernel_rfl) (fun _ _ _ h => h) (Or.inl ⟨by rfl, ?_⟩) (by assumption) ?_
            rotate_left
            · intro w hSw; (try dsimp only at hSw); go_simp; try (with_reducible rfl)
            simp only [Act.put, List.setIfInBounds_toArray, List.set_cons_zero, List.set_cons_succ]
            refine wpAnyH_take (i := 1) (oi := ⟨some 60, .load 9 (.tmp 59), 9, "ref.go:30", #[⟨0, .data⟩], none⟩) (v := ?_) rfl (by kernel_rfl) (by kernel_rfl) (by kernel_rfl) (fun _ _ _ h => h) (Or.inl ⟨by rfl, ?_⟩) (by assumption) ?_
            rotate_left
            · intro w hSw; (try dsimp only at hSw); go_simp; try (with_reducible rfl)
            simp only [Act.put, List.setIfInBounds_toArray, List.set_cons_zero, List.set_cons_succ]
            refine wpAnyH_ready (rs := [2]) (by kernel_rfl) (by simp) ?_
            refine AllReadyH.cons (o := ⟨some 61, .call { callee := Go.Callee.value (.func 17), args := #[.tmp 60], argTypes := #[9] }, 4, "ref.go:30", #[⟨1, .data⟩], none⟩) rfl (fun K hK => ?_) AllReadyH.nil
            go_simp
            refine (HNF.out _).mono ?_
            rintro e w' ⟨rfl, rfl⟩
            go_wp2_with fail
            refine hK.out _ _ ?_ (fun hHeld => ?_)
            · exact HSK.out
            clear hK K
            refine wpAnyH_take (i := 3) (oi := ⟨some 62, .unOp .not 4 (.tmp 61), 4, "ref.go:30", #[⟨2, .data⟩], none⟩) (v := ?_) rfl (by kernel_rfl) (by kernel_rfl) (by kernel_rfl) (fun _ _ _ h => h) (Or.inl ⟨by rfl, ?_⟩) (by assumption) ?_
            rotate_left
            · intro w hSw; (try dsimp only at hSw); go_simp; try (with_reducible rfl)
            simp only [Act.put, List.setIfInBounds_toArray, List.set_cons_zero, List.set_cons_succ]
            refine wpAnyH_take (i := 4) (oi := ⟨some 63, .move (.tmp 62), 4, "ref.go:30", #[⟨3, .data⟩, ⟨2, .chain⟩], none⟩) (v := ?_) rfl (by kernel_rfl) (by kernel_rfl) (by kernel_rfl) (fun _ _ _ h => h) (Or.inl ⟨by rfl, ?_⟩) (by assumption) ?_
            rotate_left
            · intro w hSw; (try dsimp only at hSw); go_simp; try (with_reducible rfl)
            simp only [Act.put, List.setIfInBounds_toArray, List.set_cons_zero, List.set_cons_succ]
            refine wpAnyH_take (i := 5) (oi := ⟨some 64, .move (.tmp 3), 3, "ref.go:30", #[⟨4, .guard⟩], some (4, false)⟩) (v := ?_) rfl (by kernel_rfl) (by kernel_rfl) (by kernel_rfl) (fun _ _ _ h => h) (Or.inl ⟨by rfl, ?_⟩) (by assumption) ?_
            rotate_left
            · intro w hSw; (try dsimp only at hSw); go_simp; try (with_reducible rfl)
            simp only [Act.put, List.setIfInBounds_toArray, List.set_cons_zero, List.set_cons_succ]
            refine wpAnyH_take (i := 6) (oi := ⟨some 65, .binOp .gtr 3 (.tmp 64) (.const (Go.Value.int Go.IntKind.i64 0)) 3, 4, "ref.go:30", #[⟨5, .data⟩, ⟨4, .guard⟩], some (4, false)⟩) (v := ?_) rfl (by kernel_rfl) (by kernel_rfl) (by kernel_rfl) (fun _ _ _ h => h) (Or.inl ⟨by rfl, ?_⟩) (by assumption) ?_
            rotate_left
            · intro w hSw; (try dsimp only at hSw); go_simp; try (with_reducible rfl)
            simp only [Act.put, List.setIfInBounds_toArray, List.set_cons_zero, List.set_cons_succ]
            refine wpAnyH_take (i := 7) (oi := ⟨some 66, .move (.tmp 65), 4, "ref.go:30", #[⟨6, .data⟩, ⟨4, .chain⟩, ⟨4, .guard⟩], some (4, false)⟩) (v := ?_) rfl (by kernel_rfl) (by kernel_rfl) (by kernel_rfl) (fun _ _ _ h => h) (Or.inl ⟨by rfl, ?_⟩) (by assumption) ?_
            rotate_left
            · intro w hSw; (try dsimp only at hSw); go_simp; try (with_reducible rfl)
            simp only [Act.put, List.setIfInBounds_toArray, List.set_cons_zero, List.set_cons_succ]
            refine wpAnyH_take (i := 8) (oi := ⟨some 67, .fieldAddr 45 (.tmp 4) 0, 0, "ref.go:30", #[⟨7, .guard⟩], some (7, true)⟩) (v := ?_) rfl (by kernel_rfl) (by kernel_rfl) (by kernel_rfl) (fun _ _ _ h => h) (Or.inl ⟨by rfl, ?_⟩) (by assumption) ?_
            rotate_left
            · intro w hSw; (try dsimp only at hSw); go_simp; try (with_reducible rfl)
            simp only [Act.put, List.setIfInBounds_toArray, List.set_cons_zero, List.set_cons_succ]
            refine wpAnyH_take (i := 9) (oi := ⟨some 68, .load 9 (.tmp 67), 9, "ref.go:30", #[⟨8, .data⟩, ⟨7, .guard⟩], some (7, true)⟩) (v := ?_) rfl (by kernel_rfl) (by kernel_rfl) (by kernel_rfl) (fun _ _ _ h => h) (Or.inl ⟨by rfl, ?_⟩) (by assumption) ?_
            rotate_left
            · intro w hSw; (try dsimp only at hSw); go_simp; try (with_reducible rfl)
            simp only [Act.put, List.setIfInBounds_toArray, List.set_cons_zero, List.set_cons_succ]
            refine wpAnyH_take (i := 10) (oi := ⟨some 69, .fieldAddr 24 (.tmp 1) 5, 0, "ref.go:30", #[⟨7, .guard⟩], some (7, true)⟩) (v := ?_) rfl (by kernel_rfl) (by kernel_rfl) (by kernel_rfl) (fun _ _ _ h => h) (Or.inl ⟨by rfl, ?_⟩) (by assumption) ?_
            rotate_left
            · intro w hSw; (try dsimp only at hSw); go_simp; try (with_reducible rfl)
            simp only [Act.put, List.setIfInBounds_toArray, List.set_cons_zero, List.set_cons_succ]
            refine wpAnyH_take (i := 11) (oi := ⟨some 70, .load 22 (.tmp 69), 22, "ref.go:30", #[⟨10, .data⟩, ⟨7, .guard⟩], some (7, true)⟩) (v := ?_) rfl (by kernel_rfl) (by kernel_rfl) (by kernel_rfl) (fun _ _ _ h => h) (Or.inl ⟨by rfl, ?_⟩) (by assumption) ?_
            rotate_left
            · intro w hSw; (try dsimp only at hSw); go_simp; try (with_reducible rfl)
            simp only [Act.put, List.setIfInBounds_toArray, List.set_cons_zero, List.set_cons_succ]
            refine wpAnyH_take (i := 12) (oi := ⟨some 71, .move (.tmp 3), 3, "ref.go:30", #[⟨7, .guard⟩], some (7, true)⟩) (v := ?_) rfl (by kernel_rfl) (by kernel_rfl) (by kernel_rfl) (fun _ _ _ h => h) (Or.inl ⟨by rfl, ?_⟩) (by assumption) ?_
            rotate_left
            · intro w hSw; (try dsimp only at hSw); go_simp; try (with_reducible rfl)
            simp only [Act.put, List.setIfInBounds_toArray, List.set_cons_zero, List.set_cons_succ]
            refine wpAnyH_take (i := 13) (oi := ⟨some 72, .binOp .sub 3 (.tmp 71) (.const (Go.Value.int Go.IntKind.i64 1)) 3, 3, "ref.go:30", #[⟨12, .data⟩, ⟨7, .guard⟩], some (7, true)⟩) (v := ?_) rfl (by kernel_rfl) (by kernel_rfl) (by kernel_rfl) (fun _ _ _ h => h) (Or.inl ⟨by rfl, ?_⟩) (by assumption) ?_
            rotate_left
            · intro w hSw; (try dsimp only at hSw); go_simp; try (with_reducible rfl)
            simp only [Act.put, List.setIfInBounds_toArray, List.set_cons_zero, List.set_cons_succ]
            refine wpAnyH_take (i := 14) (oi := ⟨some 73, .indexAddr 22 (.tmp 70) (.tmp 72), 0, "ref.go:30", #[⟨11, .data⟩, ⟨13, .data⟩, ⟨7, .guard⟩], some (7, true)⟩) (v := ?_) rfl (by kernel_rfl) (by kernel_rfl) (by kernel_rfl) (fun _ _ _ h => h) (Or.inl ⟨by rfl, ?_⟩) (by assumption) ?_
            rotate_left
            · intro w hSw; (try dsimp only at hSw); go_simp; try (with_reducible rfl)
            simp only [Act.put, List.setIfInBounds_toArray, List.set_cons_zero, List.set_cons_succ]
            refine wpAnyH_take (i := 15) (oi := ⟨some 74, .fieldAddr 45 (.tmp 73) 0, 0, "ref.go:30", #[⟨14, .data⟩, ⟨7, .guard⟩], some (7, true)⟩) (v := ?_) rfl (by kernel_rfl) (by kernel_rfl) (by kernel_rfl) (fun _ _ _ h => h) (Or.inl ⟨by rfl, ?_⟩) (by assumption) ?_
            rotate_left
            · intro w hSw; (try dsimp only at hSw); go_simp; try (with_reducible rfl)
            simp only [Act.put, List.setIfInBounds_toArray, List.set_cons_zero, List.set_cons_succ]
            refine wpAnyH_take (i := 16) (oi := ⟨some 75, .load 9 (.tmp 74), 9, "ref.go:30", #[⟨15, .data⟩, ⟨7, .guard⟩], some (7, true)⟩) (v := ?_) rfl (by kernel_rfl) (by kernel_rfl) (by kernel_rfl) (fun _ _ _ h => h) (Or.inl ⟨by rfl, ?_⟩) (by assumption) ?_
            rotate_left
            · intro w hSw; (try dsimp only at hSw); go_simp; try (with_reducible rfl)
            simp only [Act.put, List.setIfInBounds_toArray, List.set_cons_zero, List.set_cons_succ]
            refine wpAnyH_take (i := 17) (oi := ⟨some 76, .binOp .leq 9 (.tmp 68) (.tmp 75) 9, 4, "ref.go:30", #[⟨9, .data⟩, ⟨16, .data⟩, ⟨7, .guard⟩], some (7, true)⟩) (v := ?_) rfl (by kernel_rfl) (by kernel_rfl) (by kernel_rfl) (fun _ _ _ h => h) (Or.inl ⟨by rfl, ?_⟩) (by assumption) ?_
            rotate_left
            · intro w hSw; (try dsimp only at hSw); go_simp; try (with_reducible rfl)
            simp only [Act.put, List.setIfInBounds_toArray, List.set_cons_zero, List.set_cons_succ]
            refine wpAnyH_take (i := 18) (oi := ⟨some 77, .pick (.tmp 66) (.tmp 76) (.const (Go.Value.bool false)), 4, "ref.go:30", #[⟨7, .data⟩, ⟨17, .data⟩, ⟨4, .guard⟩], some (4, false)⟩) (v := ?_) rfl (by kernel_rfl) (by kernel_rfl) (by kernel_rfl) (fun _ _ _ h => h) (Or.inl ⟨by rfl, ?_⟩) (by assumption) ?_
            rotate_left
            · intro w hSw; (try dsimp only at hSw); go_simp; try (with_reducible rfl)
            simp only [Act.put, List.setIfInBounds_toArray, List.set_cons_zero, List.set_cons_succ]
            refine wpAnyH_take (i := 19) (oi := ⟨some 78, .pick (.tmp 63) (.const (Go.Value.bool true)) (.tmp 77), 4, "ref.go:30", #[⟨4, .data⟩, ⟨18, .data⟩], none⟩) (v := ?_) rfl (by kernel_rfl) (by kernel_rfl) (by kernel_rfl) (fun _ _ _ h => h) (Or.inl ⟨by rfl, ?_⟩) (by assumption) ?_
            rotate_left
            · intro w hSw; (try dsimp only at hSw); go_simp; try (with_reducible rfl)
            simp only [Act.put, List.setIfInBounds_toArray, List.set_cons_zero, List.set_cons_succ]
            refine wpAnyH_take (i := 20) (oi := ⟨some 79, .move (.tmp 78), 4, "ref.go:30", #[⟨19, .data⟩, ⟨7, .chain⟩], none⟩) (v := ?_) rfl (by kernel_rfl) (by kernel_rfl) (by kernel_rfl) (fun _ _ _ h => h) (Or.inl ⟨by rfl, ?_⟩) (by assumption) ?_
            rotate_left
            · intro w hSw; (try dsimp only at hSw); go_simp; try (with_reducible rfl)
            simp only [Act.put, List.setIfInBounds_toArray, List.set_cons_zero, List.set_cons_succ]
            refine wpAnyH_take (i := 21) (oi := ⟨some 80, .fieldAddr 45 (.tmp 4) 1, 0, "ref.go:30", #[⟨20, .guard⟩], some (20, false)⟩) (v := _) rfl (by kernel_rfl) (by kernel_rfl) (by kernel_rfl) (fun _ _ _ h => h) (Or.inr ⟨by rfl, rfl⟩) (by assumption) ?_
            simp only [Act.put, List.setIfInBounds_toArray, List.set_cons_zero, List.set_cons_succ]
            refine wpAnyH_take (i := 22) (oi := ⟨some 81, .load 9 (.tmp 80), 9, "ref.go:30", #[⟨21, .data⟩, ⟨20, .guard⟩], some (20, false)⟩) (v := _) rfl (by kernel_rfl) (by kernel_rfl) (by kernel_rfl) (fun _ _ _ h => h) (Or.inr ⟨by rfl, rfl⟩) (by assumption) ?_
            simp only [Act.put, List.setIfInBounds_toArray, List.set_cons_zero, List.set_cons_succ]
            refine wpAnyH_take (i := 23) (oi := ⟨some 82, .call { callee := Go.Callee.value (.func 19), args := #[.tmp 81], argTypes := #[9] }, 4, "ref.go:30", #[⟨22, .data⟩, ⟨20, .chain⟩, ⟨20, .guard⟩], some (20, false)⟩) (v := _) rfl (by kernel_rfl) (by kernel_rfl) (by kernel_rfl) (fun _ _ _ h => h) (Or.inr ⟨by rfl, rfl⟩) (by assumption) ?_
            simp only [Act.put, List.setIfInBounds_toArray, List.set_cons_zero, List.set_cons_succ]
            refine wpAnyH_take (i := 24) (oi := ⟨some 83, .unOp .not 4 (.tmp 82), 4, "ref.go:30", #[⟨23, .data⟩, ⟨20, .guard⟩], some (20, false)⟩) (v := _) rfl (by kernel_rfl) (by kernel_rfl) (by kernel_rfl) (fun _ _ _ h => h) (Or.inr ⟨by rfl, rfl⟩) (by assumption) ?_
            simp only [Act.put, List.setIfInBounds_toArray, List.set_cons_zero, List.set_cons_succ]
            refine wpAnyH_take (i := 25) (oi := ⟨some 84, .pick (.tmp 79) (.const (Go.Value.bool true)) (.tmp 83), 4, "ref.go:30", #[⟨20, .data⟩, ⟨24, .data⟩], none⟩) (v := ?_) rfl (by kernel_rfl) (by kernel_rfl) (by kernel_rfl) (fun _ _ _ h => h) (Or.inl ⟨by rfl, ?_⟩) (by assumption) ?_
            rotate_left
            · intro w hSw; (try dsimp only at hSw); go_simp; try (with_reducible rfl)
            simp only [Act.put, List.setIfInBounds_toArray, List.set_cons_zero, List.set_cons_succ]
            refine wpAnyH_done (by kernel_rfl) ?_ _
            go_wp2_with fail
            go_ret
            exact ⟨ret_int HR.out.symm, (HFB.out _ HDR.out).2.2.1⟩
          | false =>
            have hle' : (Op.bytesLess f.nm.toList ah.toList || f.nm.toList == ah.toList) = false := hle
            cases hwas : Sp.nmN f.was with
            | false =>
              rw [hwas] at HKF
              have HR : Hid (Sp.clR ⟨nm, vr, pn, pv, ab, fs⟩ = 8) := by
                have e8 : Sp.fR f ah = 8 := by unfold Sp.fR; rw [if_pos (by rw [hnm, hle, hwas]; rfl)]
                show _ = _; rw [HX.out, HF2.out, e8]; rfl
              clear HF2
              go_wp2_with fail
              have HSK : Hid ((W5.drew).cell? ⟨wr.heap.size, 0, none⟩ = some (.string f.nm) ∧ (W5.drew).cell? ⟨wr.heap.size, 1, none⟩ = some (.string f.was) ∧ (W5.drew).cell? ⟨w.heap.size, 5, none⟩ = some (.slice (some ⟨g, o, none⟩) P cf) ∧ (W5.drew).cell? ⟨g, o + j' * 32, none⟩ = some (.string ah)) := ⟨f0, f1, e5, hca⟩
              refine wp_region_held_drew (S := fun W => W.cell? ⟨wr.heap.size, 0, none⟩ = some (.string f.nm) ∧ W.cell? ⟨wr.heap.size, 1, none⟩ = some (.string f.was) ∧ W.cell? ⟨w.heap.size, 5, none⟩ = some (.slice (some ⟨g, o, none⟩) P cf) ∧ W.cell? ⟨g, o + j' * 32, none⟩ = some (.string ah)) (by kernel_rfl) ?_ (fun hHeld => ?_)
              · exact HSK.out
              refine wpAnyH_take (i := 0) (oi := ⟨some 59, .fieldAddr 45 (.tmp 4) 0, 0, "ref.go:30", #[], none⟩) (v := ?_) rfl (by kernel_rfl) (by kernel_rfl) (by kernel_rfl) (fun _ _ _ h => h) (Or.inl ⟨by rfl, ?_⟩) (by assumption) ?_
              rotate_left
              · intro w hSw; (try dsimp only at hSw); go_simp; try (with_reducible rfl)
              simp only [Act.put, List.setIfInBounds_toArray, List.set_cons_zero, List.set_cons_succ]
              refine wpAnyH_take (i := 1) (oi := ⟨some 60, .load 9 (.tmp 59), 9, "ref.go:30", #[⟨0, .data⟩], none⟩) (v := ?_) rfl (by kernel_rfl) (by kernel_rfl) (by kernel_rfl) (fun _ _ _ h => h) (Or.inl ⟨by rfl, ?_⟩) (by assumption) ?_
              rotate_left
              · intro w hSw; (try dsimp only at hSw); go_simp; try (with_reducible rfl)
              simp only [Act.put, List.setIfInBounds_toArray, List.set_cons_zero, List.set_cons_succ]
              refine wpAnyH_ready (rs := [2]) (by kernel_rfl) (by simp) ?_
              refine AllReadyH.cons (o := ⟨some 61, .call { callee := Go.Callee.value (.func 17), args := #[.tmp 60], argTypes := #[9] }, 4, "ref.go:30", #[⟨1, .data⟩], none⟩) rfl (fun K hK => ?_) AllReadyH.nil
              go_simp
              refine (HNF.out _).mono ?_
              rintro e w' ⟨rfl, rfl⟩
              go_wp2_with fail
              refine hK.out _ _ ?_ (fun hHeld => ?_)
              · exact HSK.out
              clear hK K
              refine wpAnyH_take (i := 3) (oi := ⟨some 62, .unOp .not 4 (.tmp 61), 4, "ref.go:30", #[⟨2, .data⟩], none⟩) (v := ?_) rfl (by kernel_rfl) (by kernel_rfl) (by kernel_rfl) (fun _ _ _ h => h) (Or.inl ⟨by rfl, ?_⟩) (by assumption) ?_
              rotate_left
              · intro w hSw; (try dsimp only at hSw); go_simp; try (with_reducible rfl)
              simp only [Act.put, List.setIfInBounds_toArray, List.set_cons_zero, List.set_cons_succ]
              refine wpAnyH_take (i := 4) (oi := ⟨some 63, .move (.tmp 62), 4, "ref.go:30", #[⟨3, .data⟩, ⟨2, .chain⟩], none⟩) (v := ?_) rfl (by kernel_rfl) (by kernel_rfl) (by kernel_rfl) (fun _ _ _ h => h) (Or.inl ⟨by rfl, ?_⟩) (by assumption) ?_
              rotate_left
              · intro w hSw; (try dsimp only at hSw); go_simp; try (with_reducible rfl)
              simp only [Act.put, List.setIfInBounds_toArray, List.set_cons_zero, List.set_cons_succ]
              refine wpAnyH_take (i := 5) (oi := ⟨some 64, .move (.tmp 3), 3, "ref.go:30", #[⟨4, .guard⟩], some (4, false)⟩) (v := ?_) rfl (by kernel_rfl) (by kernel_rfl) (by kernel_rfl) (fun _ _ _ h => h) (Or.inl ⟨by rfl, ?_⟩) (by assumption) ?_
              rotate_left
              · intro w hSw; (try dsimp only at hSw); go_simp; try (with_reducible rfl)
              simp only [Act.put, List.setIfInBounds_toArray, List.set_cons_zero, List.set_cons_succ]
              refine wpAnyH_take (i := 6) (oi := ⟨some 65, .binOp .gtr 3 (.tmp 64) (.const (Go.Value.int Go.IntKind.i64 0)) 3, 4, "ref.go:30", #[⟨5, .data⟩, ⟨4, .guard⟩], some (4, false)⟩) (v := ?_) rfl (by kernel_rfl) (by kernel_rfl) (by kernel_rfl) (fun _ _ _ h => h) (Or.inl ⟨by rfl, ?_⟩) (by assumption) ?_
              rotate_left
              · intro w hSw; (try dsimp only at hSw); go_simp; try (with_reducible rfl)
              simp only [Act.put, List.setIfInBounds_toArray, List.set_cons_zero, List.set_cons_succ]
              refine wpAnyH_take (i := 7) (oi := ⟨some 66, .move (.tmp 65), 4, "ref.go:30", #[⟨6, .data⟩, ⟨4, .chain⟩, ⟨4, .guard⟩], some (4, false)⟩) (v := ?_) rfl (by kernel_rfl) (by kernel_rfl) (by kernel_rfl) (fun _ _ _ h => h) (Or.inl ⟨by rfl, ?_⟩) (by assumption) ?_
              rotate_left
              · intro w hSw; (try dsimp only at hSw); go_simp; try (with_reducible rfl)
              simp only [Act.put, List.setIfInBounds_toArray, List.set_cons_zero, List.set_cons_succ]
              refine wpAnyH_take (i := 8) (oi := ⟨some 67, .fieldAddr 45 (.tmp 4) 0, 0, "ref.go:30", #[⟨7, .guard⟩], some (7, true)⟩) (v := ?_) rfl (by kernel_rfl) (by kernel_rfl) (by kernel_rfl) (fun _ _ _ h => h) (Or.inl ⟨by rfl, ?_⟩) (by assumption) ?_
              rotate_left
              · intro w hSw; (try dsimp only at hSw); go_simp; try (with_reducible rfl)
              simp only [Act.put, List.setIfInBounds_toArray, List.set_cons_zero, List.set_cons_succ]
              refine wpAnyH_take (i := 9) (oi := ⟨some 68, .load 9 (.tmp 67), 9, "ref.go:30", #[⟨8, .data⟩, ⟨7, .guard⟩], some (7, true)⟩) (v := ?_) rfl (by kernel_rfl) (by kernel_rfl) (by kernel_rfl) (fun _ _ _ h => h) (Or.inl ⟨by rfl, ?_⟩) (by assumption) ?_
              rotate_left
              · intro w hSw; (try dsimp only at hSw); go_simp; try (with_reducible rfl)
              simp only [Act.put, List.setIfInBounds_toArray, List.set_cons_zero, List.set_cons_succ]
              refine wpAnyH_take (i := 10) (oi := ⟨some 69, .fieldAddr 24 (.tmp 1) 5, 0, "ref.go:30", #[⟨7, .guard⟩], some (7, true)⟩) (v := ?_) rfl (by kernel_rfl) (by kernel_rfl) (by kernel_rfl) (fun _ _ _ h => h) (Or.inl ⟨by rfl, ?_⟩) (by assumption) ?_
              rotate_left
              · intro w hSw; (try dsimp only at hSw); go_simp; try (with_reducible rfl)
              simp only [Act.put, List.setIfInBounds_toArray, List.set_cons_zero, List.set_cons_succ]
              refine wpAnyH_take (i := 11) (oi := ⟨some 70, .load 22 (.tmp 69), 22, "ref.go:30", #[⟨10, .data⟩, ⟨7, .guard⟩], some (7, true)⟩) (v := ?_) rfl (by kernel_rfl) (by kernel_rfl) (by kernel_rfl) (fun _ _ _ h => h) (Or.inl ⟨by rfl, ?_⟩) (by assumption) ?_
              rotate_left
              · intro w hSw; (try dsimp only at hSw); go_simp; try (with_reducible rfl)
              simp only [Act.put, List.setIfInBounds_toArray, List.set_cons_zero, List.set_cons_succ]
              refine wpAnyH_take (i := 12) (oi := ⟨some 71, .move (.tmp 3), 3, "ref.go:30", #[⟨7, .guard⟩], some (7, true)⟩) (v := ?_) rfl (by kernel_rfl) (by kernel_rfl) (by kernel_rfl) (fun _ _ _ h => h) (Or.inl ⟨by rfl, ?_⟩) (by assumption) ?_
              rotate_left
              · intro w hSw; (try dsimp only at hSw); go_simp; try (with_reducible rfl)
              simp only [Act.put, List.setIfInBounds_toArray, List.set_cons_zero, List.set_cons_succ]
              refine wpAnyH_take (i := 13) (oi := ⟨some 72, .binOp .sub 3 (.tmp 71) (.const (Go.Value.int Go.IntKind.i64 1)) 3, 3, "ref.go:30", #[⟨12, .data⟩, ⟨7, .guard⟩], some (7, true)⟩) (v := ?_) rfl (by kernel_rfl) (by kernel_rfl) (by kernel_rfl) (fun _ _ _ h => h) (Or.inl ⟨by rfl, ?_⟩) (by assumption) ?_
              rotate_left
              · intro w hSw; (try dsimp only at hSw); go_simp; try (with_reducible rfl)
              simp only [Act.put, List.setIfInBounds_toArray, List.set_cons_zero, List.set_cons_succ]
              refine wpAnyH_take (i := 14) (oi := ⟨some 73, .indexAddr 22 (.tmp 70) (.tmp 72), 0, "ref.go:30", #[⟨11, .data⟩, ⟨13, .data⟩, ⟨7, .guard⟩], some (7, true)⟩) (v := ?_) rfl (by kernel_rfl) (by kernel_rfl) (by kernel_rfl) (fun _ _ _ h => h) (Or.inl ⟨by rfl, ?_⟩) (by assumption) ?_
              rotate_left
              · intro w hSw; (try dsimp only at hSw); go_simp; try (with_reducible rfl)
              simp only [Act.put, List.setIfInBounds_toArray, List.set_cons_zero, List.set_cons_succ]
              refine wpAnyH_take (i := 15) (oi := ⟨some 74, .fieldAddr 45 (.tmp 73) 0, 0, "ref.go:30", #[⟨14, .data⟩, ⟨7, .guard⟩], some (7, true)⟩) (v := ?_) rfl (by kernel_rfl) (by kernel_rfl) (by kernel_rfl) (fun _ _ _ h => h) (Or.inl ⟨by rfl, ?_⟩) (by assumption) ?_
              rotate_left
              · intro w hSw; (try dsimp only at hSw); go_simp; try (with_reducible rfl)
              simp only [Act.put, List.setIfInBounds_toArray, List.set_cons_zero, List.set_cons_succ]
              refine wpAnyH_take (i := 16) (oi := ⟨some 75, .load 9 (.tmp 74), 9, "ref.go:30", #[⟨15, .data⟩, ⟨7, .guard⟩], some (7, true)⟩) (v := ?_) rfl (by kernel_rfl) (by kernel_rfl) (by kernel_rfl) (fun _ _ _ h => h) (Or.inl ⟨by rfl, ?_⟩) (by assumption) ?_
              rotate_left
              · intro w hSw; (try dsimp only at hSw); go_simp; try (with_reducible rfl)
              simp only [Act.put, List.setIfInBounds_toArray, List.set_cons_zero, List.set_cons_succ]
              refine wpAnyH_take (i := 17) (oi := ⟨some 76, .binOp .leq 9 (.tmp 68) (.tmp 75) 9, 4, "ref.go:30", #[⟨9, .data⟩, ⟨16, .data⟩, ⟨7, .guard⟩], some (7, true)⟩) (v := ?_) rfl (by kernel_rfl) (by kernel_rfl) (by kernel_rfl) (fun _ _ _ h => h) (Or.inl ⟨by rfl, ?_⟩) (by assumption) ?_
              rotate_left
              · intro w hSw; (try dsimp only at hSw); go_simp; try (with_reducible rfl)
              simp only [Act.put, List.setIfInBounds_toArray, List.set_cons_zero, List.set_cons_succ]
              refine wpAnyH_take (i := 18) (oi := ⟨some 77, .pick (.tmp 66) (.tmp 76) (.const (Go.Value.bool false)), 4, "ref.go:30", #[⟨7, .data⟩, ⟨17, .data⟩, ⟨4, .guard⟩], some (4, false)⟩) (v := ?_) rfl (by kernel_rfl) (by kernel_rfl) (by kernel_rfl) (fun _ _ _ h => h) (Or.inl ⟨by rfl, ?_⟩) (by assumption) ?_
              rotate_left
              · intro w hSw; (try dsimp only at hSw); go_simp; try (with_reducible rfl)
              simp only [Act.put, List.setIfInBounds_toArray, List.set_cons_zero, List.set_cons_succ]
              refine wpAnyH_take (i := 19) (oi := ⟨some 78, .pick (.tmp 63) (.const (Go.Value.bool true)) (.tmp 77), 4, "ref.go:30", #[⟨4, .data⟩, ⟨18, .data⟩], none⟩) (v := ?_) rfl (by kernel_rfl) (by kernel_rfl) (by kernel_rfl) (fun _ _ _ h => h) (Or.inl ⟨by rfl, ?_⟩) (by assumption) ?_
              rotate_left
              · intro w hSw; (try dsimp only at hSw); go_simp; try (with_reducible rfl)
              simp only [Act.put, List.setIfInBounds_toArray, List.set_cons_zero, List.set_cons_succ]
              refine wpAnyH_take (i := 20) (oi := ⟨some 79, .move (.tmp 78), 4, "ref.go:30", #[⟨19, .data⟩, ⟨7, .chain⟩], none⟩) (v := ?_) rfl (by kernel_rfl) (by kernel_rfl) (by kernel_rfl) (fun _ _ _ h => h) (Or.inl ⟨by rfl, ?_⟩) (by assumption) ?_
              rotate_left
              · intro w hSw; (try dsimp only at hSw); go_simp; try (with_reducible rfl)
              simp only [Act.put, List.setIfInBounds_toArray, List.set_cons_zero, List.set_cons_succ]
              refine wpAnyH_take (i := 21) (oi := ⟨some 80, .fieldAddr 45 (.tmp 4) 1, 0, "ref.go:30", #[⟨20, .guard⟩], some (20, false)⟩) (v := ?_) rfl (by kernel_rfl) (by kernel_rfl) (by kernel_rfl) (fun _ _ _ h => h) (Or.inl ⟨by rfl, ?_⟩) (by assumption) ?_
              rotate_left
              · intro w hSw; (try dsimp only at hSw); go_simp; try (with_reducible rfl)
              simp only [Act.put, List.setIfInBounds_toArray, List.set_cons_zero, List.set_cons_succ]
              refine wpAnyH_take (i := 22) (oi := ⟨some 81, .load 9 (.tmp 80), 9, "ref.go:30", #[⟨21, .data⟩, ⟨20, .guard⟩], some (20, false)⟩) (v := ?_) rfl (by kernel_rfl) (by kernel_rfl) (by kernel_rfl) (fun _ _ _ h => h) (Or.inl ⟨by rfl, ?_⟩) (by assumption) ?_
              rotate_left
              · intro w hSw; (try dsimp only at hSw); go_simp; try (with_reducible rfl)
              simp only [Act.put, List.setIfInBounds_toArray, List.set_cons_zero, List.set_cons_succ]
              refine wpAnyH_ready (rs := [23]) (by kernel_rfl) (by simp) ?_
              refine AllReadyH.cons (o := ⟨some 82, .call { callee := Go.Callee.value (.func 19), args := #[.tmp 81], argTypes := #[9] }, 4, "ref.go:30", #[⟨22, .data⟩, ⟨20, .chain⟩, ⟨20, .guard⟩], some (20, false)⟩) rfl (fun K hK => ?_) AllReadyH.nil
              go_simp
              refine (HKF.out _).mono ?_
              rintro e w' ⟨rfl, rfl⟩
              go_wp2_with fail
              refine hK.out _ _ ?_ (fun hHeld => ?_)
              · exact HSK.out
              clear hK K
              refine wpAnyH_take (i := 24) (oi := ⟨some 83, .unOp .not 4 (.tmp 82), 4, "ref.go:30", #[⟨23, .data⟩, ⟨20, .guard⟩], some (20, false)⟩) (v := ?_) rfl (by kernel_rfl) (by kernel_rfl) (by kernel_rfl) (fun _ _ _ h => h) (Or.inl ⟨by rfl, ?_⟩) (by assumption) ?_
              rotate_left
              · intro w hSw; (try dsimp only at hSw); go_simp; try (with_reducible rfl)
              simp only [Act.put, List.setIfInBounds_toArray, List.set_cons_zero, List.set_cons_succ]
              refine wpAnyH_take (i := 25) (oi := ⟨some 84, .pick (.tmp 79) (.const (Go.Value.bool true)) (.tmp 83), 4, "ref.go:30", #[⟨20, .data⟩, ⟨24, .data⟩], none⟩) (v := ?_) rfl (by kernel_rfl) (by kernel_rfl) (by kernel_rfl) (fun _ _ _ h => h) (Or.inl ⟨by rfl, ?_⟩) (by assumption) ?_
              rotate_left
              · intro w hSw; (try dsimp only at hSw); go_simp; try (with_reducible rfl)
              simp only [Act.put, List.setIfInBounds_toArray, List.set_cons_zero, List.set_cons_succ]
              refine wpAnyH_done (by kernel_rfl) ?_ _
              go_wp2_with fail
              go_ret
              exact ⟨ret_int HR.out.symm, (HFB.out _ HDR.out).2.2.1⟩
            | true =>
              rw [hwas] at HKF
              have HFR : Hid (Sp.fR f ah = if f.ty.can = false then 70 else if f.has = false then 0 else f.df.all.e) := by
                show _ = _; unfold Sp.fR; rw [if_neg (by rw [hnm, hle, hwas]; decide)]
              have HTYd : Hid ((loadVar 43 ⟨wr.heap.size, 2, none⟩).run Tryz.prog W5.drew = .ok (.agg cy) W5.drew) := (HFB.out _ HDR.out).1.ty
              clear HAH
              go_wp2_with fail
              have HSK : Hid ((W5.drew).cell? ⟨wr.heap.size, 0, none⟩ = some (.string f.nm) ∧ (W5.drew).cell? ⟨wr.heap.size, 1, none⟩ = some (.string f.was) ∧ (W5.drew).cell? ⟨w.heap.size, 5, none⟩ = some (.slice (some ⟨g, o, none⟩) P cf) ∧ (W5.drew).cell? ⟨g, o + j' * 32, none⟩ = some (.string ah)) := ⟨f0, f1, e5, hca⟩
              refine wp_region_held_drew (S := fun W => W.cell? ⟨wr.heap.size, 0, none⟩ = some (.string f.nm) ∧ W.cell? ⟨wr.heap.size, 1, none⟩ = some (.string f.was) ∧ W.cell? ⟨w.heap.size, 5, none⟩ = some (.slice (some ⟨g, o, none⟩) P cf) ∧ W.cell? ⟨g, o + j' * 32, none⟩ = some (.string ah)) (by kernel_rfl) ?_ (fun hHeld => ?_)
              · exact HSK.out
              refine wpAnyH_take (i := 0) (oi := ⟨some 59, .fieldAddr 45 (.tmp 4) 0, 0, "ref.go:30", #[], none⟩) (v := ?_) rfl (by kernel_rfl) (by kernel_rfl) (by kernel_rfl) (fun _ _ _ h => h) (Or.inl ⟨by rfl, ?_⟩) (by assumption) ?_
              rotate_left
              · intro w hSw; (try dsimp only at hSw); go_simp; try (with_reducible rfl)
              simp only [Act.put, List.setIfInBounds_toArray, List.set_cons_zero, List.set_cons_succ]
              refine wpAnyH_take (i := 1) (oi := ⟨some 60, .load 9 (.tmp 59), 9, "ref.go:30", #[⟨0, .data⟩], none⟩) (v := ?_) rfl (by kernel_rfl) (by kernel_rfl) (by kernel_rfl) (fun _ _ _ h => h) (Or.inl ⟨by rfl, ?_⟩) (by assumption) ?_
              rotate_left
              · intro w hSw; (try dsimp only at hSw); go_simp; try (with_reducible rfl)
              simp only [Act.put, List.setIfInBounds_toArray, List.set_cons_zero, List.set_cons_succ]
              refine wpAnyH_ready (rs := [2]) (by kernel_rfl) (by simp) ?_
              refine AllReadyH.cons (o := ⟨some 61, .call { callee := Go.Callee.value (.func 17), args := #[.tmp 60], argTypes := #[9] }, 4, "ref.go:30", #[⟨1, .data⟩], none⟩) rfl (fun K hK => ?_) AllReadyH.nil
              go_simp
              refine (HNF.out _).mono ?_
              rintro e w' ⟨rfl, rfl⟩
              go_wp2_with fail
              refine hK.out _ _ ?_ (fun hHeld => ?_)
              · exact HSK.out
              clear hK K
              refine wpAnyH_take (i := 3) (oi := ⟨some 62, .unOp .not 4 (.tmp 61), 4, "ref.go:30", #[⟨2, .data⟩], none⟩) (v := ?_) rfl (by kernel_rfl) (by kernel_rfl) (by kernel_rfl) (fun _ _ _ h => h) (Or.inl ⟨by rfl, ?_⟩) (by assumption) ?_
              rotate_left
              · intro w hSw; (try dsimp only at hSw); go_simp; try (with_reducible rfl)
              simp only [Act.put, List.setIfInBounds_toArray, List.set_cons_zero, List.set_cons_succ]
              refine wpAnyH_take (i := 4) (oi := ⟨some 63, .move (.tmp 62), 4, "ref.go:30", #[⟨3, .data⟩, ⟨2, .chain⟩], none⟩) (v := ?_) rfl (by kernel_rfl) (by kernel_rfl) (by kernel_rfl) (fun _ _ _ h => h) (Or.inl ⟨by rfl, ?_⟩) (by assumption) ?_
              rotate_left
              · intro w hSw; (try dsimp only at hSw); go_simp; try (with_reducible rfl)
              simp only [Act.put, List.setIfInBounds_toArray, List.set_cons_zero, List.set_cons_succ]
              refine wpAnyH_take (i := 5) (oi := ⟨some 64, .move (.tmp 3), 3, "ref.go:30", #[⟨4, .guard⟩], some (4, false)⟩) (v := ?_) rfl (by kernel_rfl) (by kernel_rfl) (by kernel_rfl) (fun _ _ _ h => h) (Or.inl ⟨by rfl, ?_⟩) (by assumption) ?_
              rotate_left
              · intro w hSw; (try dsimp only at hSw); go_simp; try (with_reducible rfl)
              simp only [Act.put, List.setIfInBounds_toArray, List.set_cons_zero, List.set_cons_succ]
              refine wpAnyH_take (i := 6) (oi := ⟨some 65, .binOp .gtr 3 (.tmp 64) (.const (Go.Value.int Go.IntKind.i64 0)) 3, 4, "ref.go:30", #[⟨5, .data⟩, ⟨4, .guard⟩], some (4, false)⟩) (v := ?_) rfl (by kernel_rfl) (by kernel_rfl) (by kernel_rfl) (fun _ _ _ h => h) (Or.inl ⟨by rfl, ?_⟩) (by assumption) ?_
              rotate_left
              · intro w hSw; (try dsimp only at hSw); go_simp; try (with_reducible rfl)
              simp only [Act.put, List.setIfInBounds_toArray, List.set_cons_zero, List.set_cons_succ]
              refine wpAnyH_take (i := 7) (oi := ⟨some 66, .move (.tmp 65), 4, "ref.go:30", #[⟨6, .data⟩, ⟨4, .chain⟩, ⟨4, .guard⟩], some (4, false)⟩) (v := ?_) rfl (by kernel_rfl) (by kernel_rfl) (by kernel_rfl) (fun _ _ _ h => h) (Or.inl ⟨by rfl, ?_⟩) (by assumption) ?_
              rotate_left
              · intro w hSw; (try dsimp only at hSw); go_simp; try (with_reducible rfl)
              simp only [Act.put, List.setIfInBounds_toArray, List.set_cons_zero, List.set_cons_succ]
              refine wpAnyH_take (i := 8) (oi := ⟨some 67, .fieldAddr 45 (.tmp 4) 0, 0, "ref.go:30", #[⟨7, .guard⟩], some (7, true)⟩) (v := ?_) rfl (by kernel_rfl) (by kernel_rfl) (by kernel_rfl) (fun _ _ _ h => h) (Or.inl ⟨by rfl, ?_⟩) (by assumption) ?_
              rotate_left
              · intro w hSw; (try dsimp only at hSw); go_simp; try (with_reducible rfl)
              simp only [Act.put, List.setIfInBounds_toArray, List.set_cons_zero, List.set_cons_succ]
              refine wpAnyH_take (i := 9) (oi := ⟨some 68, .load 9 (.tmp 67), 9, "ref.go:30", #[⟨8, .data⟩, ⟨7, .guard⟩], some (7, true)⟩) (v := ?_) rfl (by kernel_rfl) (by kernel_rfl) (by kernel_rfl) (fun _ _ _ h => h) (Or.inl ⟨by rfl, ?_⟩) (by assumption) ?_
              rotate_left
              · intro w hSw; (try dsimp only at hSw); go_simp; try (with_reducible rfl)
              simp only [Act.put, List.setIfInBounds_toArray, List.set_cons_zero, List.set_cons_succ]
              refine wpAnyH_take (i := 10) (oi := ⟨some 69, .fieldAddr 24 (.tmp 1) 5, 0, "ref.go:30", #[⟨7, .guard⟩], some (7, true)⟩) (v := ?_) rfl (by kernel_rfl) (by kernel_rfl) (by kernel_rfl) (fun _ _ _ h => h) (Or.inl ⟨by rfl, ?_⟩) (by assumption) ?_
              rotate_left
              · intro w hSw; (try dsimp only at hSw); go_simp; try (with_reducible rfl)
              simp only [Act.put, List.setIfInBounds_toArray, List.set_cons_zero, List.set_cons_succ]
              refine wpAnyH_take (i := 11) (oi := ⟨some 70, .load 22 (.tmp 69), 22, "ref.go:30", #[⟨10, .data⟩, ⟨7, .guard⟩], some (7, true)⟩) (v := ?_) rfl (by kernel_rfl) (by kernel_rfl) (by kernel_rfl) (fun _ _ _ h => h) (Or.inl ⟨by rfl, ?_⟩) (by assumption) ?_
              rotate_left
              · intro w hSw; (try dsimp only at hSw); go_simp; try (with_reducible rfl)
              simp only [Act.put, List.setIfInBounds_toArray, List.set_cons_zero, List.set_cons_succ]
              refine wpAnyH_take (i := 12) (oi := ⟨some 71, .move (.tmp 3), 3, "ref.go:30", #[⟨7, .guard⟩], some (7, true)⟩) (v := ?_) rfl (by kernel_rfl) (by kernel_rfl) (by kernel_rfl) (fun _ _ _ h => h) (Or.inl ⟨by rfl, ?_⟩) (by assumption) ?_
              rotate_left
              · intro w hSw; (try dsimp only at hSw); go_simp; try (with_reducible rfl)
              simp only [Act.put, List.setIfInBounds_toArray, List.set_cons_zero, List.set_cons_succ]
              refine wpAnyH_take (i := 13) (oi := ⟨some 72, .binOp .sub 3 (.tmp 71) (.const (Go.Value.int Go.IntKind.i64 1)) 3, 3, "ref.go:30", #[⟨12, .data⟩, ⟨7, .guard⟩], some (7, true)⟩) (v := ?_) rfl (by kernel_rfl) (by kernel_rfl) (by kernel_rfl) (fun _ _ _ h => h) (Or.inl ⟨by rfl, ?_⟩) (by assumption) ?_
              rotate_left
              · intro w hSw; (try dsimp only at hSw); go_simp; try (with_reducible rfl)
              simp only [Act.put, List.setIfInBounds_toArray, List.set_cons_zero, List.set_cons_succ]
              refine wpAnyH_take (i := 14) (oi := ⟨some 73, .indexAddr 22 (.tmp 70) (.tmp 72), 0, "ref.go:30", #[⟨11, .data⟩, ⟨13, .data⟩, ⟨7, .guard⟩], some (7, true)⟩) (v := ?_) rfl (by kernel_rfl) (by kernel_rfl) (by kernel_rfl) (fun _ _ _ h => h) (Or.inl ⟨by rfl, ?_⟩) (by assumption) ?_
              rotate_left
              · intro w hSw; (try dsimp only at hSw); go_simp; try (with_reducible rfl)
              simp only [Act.put, List.setIfInBounds_toArray, List.set_cons_zero, List.set_cons_succ]
              refine wpAnyH_take (i := 15) (oi := ⟨some 74, .fieldAddr 45 (.tmp 73) 0, 0, "ref.go:30", #[⟨14, .data⟩, ⟨7, .guard⟩], some (7, true)⟩) (v := ?_) rfl (by kernel_rfl) (by kernel_rfl) (by kernel_rfl) (fun _ _ _ h => h) (Or.inl ⟨by rfl, ?_⟩) (by assumption) ?_
              rotate_left
              · intro w hSw; (try dsimp only at hSw); go_simp; try (with_reducible rfl)
              simp only [Act.put, List.setIfInBounds_toArray, List.set_cons_zero, List.set_cons_succ]
              refine wpAnyH_take (i := 16) (oi := ⟨some 75, .load 9 (.tmp 74), 9, "ref.go:30", #[⟨15, .data⟩, ⟨7, .guard⟩], some (7, true)⟩) (v := ?_) rfl (by kernel_rfl) (by kernel_rfl) (by kernel_rfl) (fun _ _ _ h => h) (Or.inl ⟨by rfl, ?_⟩) (by assumption) ?_
              rotate_left
              · intro w hSw; (try dsimp only at hSw); go_simp; try (with_reducible rfl)
              simp only [Act.put, List.setIfInBounds_toArray, List.set_cons_zero, List.set_cons_succ]
              refine wpAnyH_take (i := 17) (oi := ⟨some 76, .binOp .leq 9 (.tmp 68) (.tmp 75) 9, 4, "ref.go:30", #[⟨9, .data⟩, ⟨16, .data⟩, ⟨7, .guard⟩], some (7, true)⟩) (v := ?_) rfl (by kernel_rfl) (by kernel_rfl) (by kernel_rfl) (fun _ _ _ h => h) (Or.inl ⟨by rfl, ?_⟩) (by assumption) ?_
              rotate_left
              · intro w hSw; (try dsimp only at hSw); go_simp; try (with_reducible rfl)
              simp only [Act.put, List.setIfInBounds_toArray, List.set_cons_zero, List.set_cons_succ]
              refine wpAnyH_take (i := 18) (oi := ⟨some 77, .pick (.tmp 66) (.tmp 76) (.const (Go.Value.bool false)), 4, "ref.go:30", #[⟨7, .data⟩, ⟨17, .data⟩, ⟨4, .guard⟩], some (4, false)⟩) (v := ?_) rfl (by kernel_rfl) (by kernel_rfl) (by kernel_rfl) (fun _ _ _ h => h) (Or.inl ⟨by rfl, ?_⟩) (by assumption) ?_
              rotate_left
              · intro w hSw; (try dsimp only at hSw); go_simp; try (with_reducible rfl)
              simp only [Act.put, List.setIfInBounds_toArray, List.set_cons_zero, List.set_cons_succ]
              refine wpAnyH_take (i := 19) (oi := ⟨some 78, .pick (.tmp 63) (.const (Go.Value.bool true)) (.tmp 77), 4, "ref.go:30", #[⟨4, .data⟩, ⟨18, .data⟩], none⟩) (v := ?_) rfl (by kernel_rfl) (by kernel_rfl) (by kernel_rfl) (fun _ _ _ h => h) (Or.inl ⟨by rfl, ?_⟩) (by assumption) ?_
              rotate_left
              · intro w hSw; (try dsimp only at hSw); go_simp; try (with_reducible rfl)
              simp only [Act.put, List.setIfInBounds_toArray, List.set_cons_zero, List.set_cons_succ]
              refine wpAnyH_take (i := 20) (oi := ⟨some 79, .move (.tmp 78), 4, "ref.go:30", #[⟨19, .data⟩, ⟨7, .chain⟩], none⟩) (v := ?_) rfl (by kernel_rfl) (by kernel_rfl) (by kernel_rfl) (fun _ _ _ h => h) (Or.inl ⟨by rfl, ?_⟩) (by assumption) ?_
              rotate_left
              · intro w hSw; (try dsimp only at hSw); go_simp; try (with_reducible rfl)
              simp only [Act.put, List.setIfInBounds_toArray, List.set_cons_zero, List.set_cons_succ]
              refine wpAnyH_take (i := 21) (oi := ⟨some 80, .fieldAddr 45 (.tmp 4) 1, 0, "ref.go:30", #[⟨20, .guard⟩], some (20, false)⟩) (v := ?_) rfl (by kernel_rfl) (by kernel_rfl) (by kernel_rfl) (fun _ _ _ h => h) (Or.inl ⟨by rfl, ?_⟩) (by assumption) ?_
              rotate_left
              · intro w hSw; (try dsimp only at hSw); go_simp; try (with_reducible rfl)
              simp only [Act.put, List.setIfInBounds_toArray, List.set_cons_zero, List.set_cons_succ]
              refine wpAnyH_take (i := 22) (oi := ⟨some 81, .load 9 (.tmp 80), 9, "ref.go:30", #[⟨21, .data⟩, ⟨20, .guard⟩], some (20, false)⟩) (v := ?_) rfl (by kernel_rfl) (by kernel_rfl) (by kernel_rfl) (fun _ _ _ h => h) (Or.inl ⟨by rfl, ?_⟩) (by assumption) ?_
              rotate_left
              · intro w hSw; (try dsimp only at hSw); go_simp; try (with_reducible rfl)
              simp only [Act.put, List.setIfInBounds_toArray, List.set_cons_zero, List.set_cons_succ]
              refine wpAnyH_ready (rs := [23]) (by kernel_rfl) (by simp) ?_
              refine AllReadyH.cons (o := ⟨some 82, .call { callee := Go.Callee.value (.func 19), args := #[.tmp 81], argTypes := #[9] }, 4, "ref.go:30", #[⟨22, .data⟩, ⟨20, .chain⟩, ⟨20, .guard⟩], some (20, false)⟩) rfl (fun K hK => ?_) AllReadyH.nil
              go_simp
              refine (HKF.out _).mono ?_
              rintro e w' ⟨rfl, rfl⟩
              go_wp2_with fail
              refine hK.out _ _ ?_ (fun hHeld => ?_)
              · exact HSK.out
              clear hK K
              refine wpAnyH_take (i := 24) (oi := ⟨some 83, .unOp .not 4 (.tmp 82), 4, "ref.go:30", #[⟨23, .data⟩, ⟨20, .guard⟩], some (20, false)⟩) (v := ?_) rfl (by kernel_rfl) (by kernel_rfl) (by kernel_rfl) (fun _ _ _ h => h) (Or.inl ⟨by rfl, ?_⟩) (by assumption) ?_
              rotate_left
              · intro w hSw; (try dsimp only at hSw); go_simp; try (with_reducible rfl)
              simp only [Act.put, List.setIfInBounds_toArray, List.set_cons_zero, List.set_cons_succ]
              refine wpAnyH_take (i := 25) (oi := ⟨some 84, .pick (.tmp 79) (.const (Go.Value.bool true)) (.tmp 83), 4, "ref.go:30", #[⟨20, .data⟩, ⟨24, .data⟩], none⟩) (v := ?_) rfl (by kernel_rfl) (by kernel_rfl) (by kernel_rfl) (fun _ _ _ h => h) (Or.inl ⟨by rfl, ?_⟩) (by assumption) ?_
              rotate_left
              · intro w hSw; (try dsimp only at hSw); go_simp; try (with_reducible rfl)
              simp only [Act.put, List.setIfInBounds_toArray, List.set_cons_zero, List.set_cons_succ]
              refine wpAnyH_done (by kernel_rfl) ?_ _
              go_wp2_with ((with_reducible refine ld_row ?_ ?_ HTYd.out ?_); rfl; rfl)
              refine (HCA.out _ HDR.out).mono ?_
              rintro e w6 ⟨rfl, hb6⟩
              have hb6 := below_to HDR.out hb6
              obtain ⟨r1, r2, r3, -, -⟩ := HFB.out w6 hb6
              have f20 := r1.c20
              have HTD : Hid ((loadVar 38 ⟨wr.heap.size, 21, none⟩).run Tryz.prog w6 = .ok (.agg ct) w6) := r1.df
              have H6 : Hid (Below (w.alloc (.cells #[.string nm, .int .i64 vr, .string pn, .int .i64 pv, .bool ab, .slice (some ⟨g, o, none⟩) P cf] 24)).heap.size (w.alloc (.cells #[.string nm, .int .i64 vr, .string pn, .int .i64 pv, .bool ab, .slice (some ⟨g, o, none⟩) P cf] 24)) w6 ∧ Below w.heap.size w w6) := ⟨r2, r3⟩
              have HCK := HCH.out w6 hb6
              have HCK : Hid _ := HCK
              clear hb6 r1 r2 r3
              cases hcan : f.ty.can with
              | false =>
                have HR : Hid (Sp.clR ⟨nm, vr, pn, pv, ab, fs⟩ = 70) := by show _ = _; rw [HX.out, HF2.out, HFR.out, hcan]; rfl
                clear HF2 HFR
                go_wp2_with fail
                go_ret
                exact ⟨ret_int HR.out.symm, H6.out.2⟩
              | true =>
                cases hhas : f.has with
                | false =>
                  have HR : Hid (Sp.fsR ByteArray.empty fs = Sp.fsR f.nm l) := by show _ = _; rw [HF2.out, HFR.out, hcan, hhas]; rfl
                  rw [hhas] at f20
                  clear HF2 HFR hhas
                  go_wp2_with fail
                  go_roundw
                  case rel => exact ⟨j + 1, l, f.nm, by go_num, HJ.out.1, ⟨H6.out.1, HJ.out.2.1, HR.out, fun h => by omega, fun j'' h => ⟨f, by have e : j'' = j := (by omega); rw [e]; exact HJ.out.2.2, rfl⟩⟩⟩
                  case measure => simp [intOf]; omega
                | true =>
                  rw [hhas] at f20
                  by_cases he : f.df.all.e = 0
                  · have HR : Hid (Sp.fsR ByteArray.empty fs = Sp.fsR f.nm l) := by show _ = _; rw [HF2.out, HFR.out, hcan, hhas, he]; rfl
                    rw [he] at HCK
                    clear HF2 HFR hhas he
                    generalize f.df.cAt = cat at *
                    go_wp2_with ((with_reducible refine ld_row ?_ ?_ HTD.out ?_); rfl; rfl)
                    refine (show Calls _ _ _ _ _ from HCK.out).mono ?_
                    rintro e w7 ⟨rfl, hb7⟩
                    have H7 : Hid (Below (w.alloc (.cells #[.string nm, .int .i64 vr, .string pn, .int .i64 pv, .bool ab, .slice (some ⟨g, o, none⟩) P cf] 24)).heap.size (w.alloc (.cells #[.string nm, .int .i64 vr, .string pn, .int .i64 pv, .bool ab, .slice (some ⟨g, o, none⟩) P cf] 24)) w7) := below_to H6.out.1 hb7
                    clear hb7
                    go_wp2_with fail
                    go_roundw
                    case rel => exact ⟨j + 1, l, f.nm, by go_num, HJ.out.1, ⟨H7.out, HJ.out.2.1, HR.out, fun h => by omega, fun j'' h => ⟨f, by have e : j'' = j := (by omega); rw [e]; exact HJ.out.2.2, rfl⟩⟩⟩
                    case measure => simp [intOf]; omega
                  · have HR : Hid (Sp.clR ⟨nm, vr, pn, pv, ab, fs⟩ = f.df.all.e) := by show _ = _; rw [HX.out, HF2.out, HFR.out, hcan, hhas]; simp [he]
                    have he' := ne_bool he
                    clear HF2 HFR hhas he
                    generalize f.df.cAt = cat at *
                    generalize f.df.all.e = q at *
                    go_wp2_with ((with_reducible refine ld_row ?_ ?_ HTD.out ?_); rfl; rfl)
                    refine (show Calls _ _ _ _ _ from HCK.out).mono ?_
                    rintro e w7 ⟨rfl, hb7⟩
                    have H7 : Hid (Below w.heap.size w w7) := below_to H6.out.2 hb7
                    clear hb7
                    go_wp2_with fail
                    go_ret
                    exact ⟨ret_int HR.out.symm, H7.out⟩
end
end Go.Proofs.YtbjcabpmndhfmaaGreat

