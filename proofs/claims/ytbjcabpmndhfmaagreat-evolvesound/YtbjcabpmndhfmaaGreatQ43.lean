/- evolve.Sound. -/
import Derived.Test.YtbjcabpmndhfmaaGreatQ30
import Derived.Test.YtbjcabpmndhfmaaGreatQ42
import Derived.Test.YtbjcabpmndhfmaaGreatQ31
namespace Go.Proofs.YtbjcabpmndhfmaaGreat
open Go.RowKit

theorem sp_ret {a b : ByteArray × Int} (h : a = b) : Ending.returned (.tuple #[.string a.1, .int .i64 a.2]) = .returned (.tuple #[.string b.1, .int .i64 b.2]) := by rw [h]
section
variable (nm pn : ByteArray) (vr pv : Int) (ab : Bool) (fs : List Fo) (af : Option Addr) (cf : Nat) (B : Nat → Prop) (w : World)
set_option maxRecDepth 100000 in
set_option maxHeartbeats 4000000 in
theorem sp_err (h : (Cl.mk nm vr pn pv ab fs).At w B af) (hB : Sub B w) (he : Sp.clR ⟨nm, vr, pn, pv, ab, fs⟩ ≠ 0) : Calls Tryz.prog 4 #[.agg #[.string nm, .int .i64 vr, .string pn, .int .i64 pv, .bool ab, .slice af fs.length cf]] w fun e w' => e = .returned (.tuple #[.string (Sp.snd ⟨nm, vr, pn, pv, ab, fs⟩).1, .int .i64 (Sp.snd ⟨nm, vr, pn, pv, ab, fs⟩).2]) ∧ Below w.heap.size w w' := by
  have hbx : Below w.heap.size w (w.alloc (.cells #[.string nm, .int .i64 vr, .string pn, .int .i64 pv, .bool ab, .slice af fs.length cf] 24)) := (Below.refl _ _).alloc (Nat.le_refl _) _
  have HB : Hid (Below w.heap.size w (w.alloc (.cells #[.string nm, .int .i64 vr, .string pn, .int .i64 pv, .bool ab, .slice af fs.length cf] 24))) := hbx
  have h1 : (Cl.mk nm vr pn pv ab fs).At (w.alloc (.cells #[.string nm, .int .i64 vr, .string pn, .int .i64 pv, .bool ab, .slice af fs.length cf] 24)) B af := ⟨h.nm, h.pn, h.vr, h.pv, h.len, h.fs.same (hB.same hbx) (fun _ h => h)⟩
  have HRU : Hid (Calls Tryz.prog 6 #[.agg #[.string nm, .int .i64 vr, .string pn, .int .i64 pv, .bool ab, .slice af fs.length cf]] (w.alloc (.cells #[.string nm, .int .i64 vr, .string pn, .int .i64 pv, .bool ab, .slice af fs.length cf] 24)) fun e w' => e = .returned (.int .i64 (Sp.clR ⟨nm, vr, pn, pv, ab, fs⟩)) ∧ Below (w.alloc (.cells #[.string nm, .int .i64 vr, .string pn, .int .i64 pv, .bool ab, .slice af fs.length cf] 24)).heap.size (w.alloc (.cells #[.string nm, .int .i64 vr, .string pn, .int .i64 pv, .bool ab, .slice af fs.length cf] 24)) w') := rul_any nm pn vr pv ab fs af cf B (w.alloc (.cells #[.string nm, .int .i64 vr, .string pn, .int .i64 pv, .bool ab, .slice af fs.length cf] 24)) h1 (hB.later hbx)
  have HX : Hid (Sp.snd ⟨nm, vr, pn, pv, ab, fs⟩ = (⟨#[]⟩, Sp.clR ⟨nm, vr, pn, pv, ab, fs⟩)) := by show _ = _; unfold Sp.snd; rw [if_pos he]
  have he' := ne_bool he
  clear h h1 hB hbx he
  generalize Sp.clR ⟨nm, vr, pn, pv, ab, fs⟩ = q at *
  go_enter Tryz.func4, Tryz.ntmps4
  go_wp2_with fail
  refine HRU.out.mono ?_
  rintro e w2 ⟨rfl, hb2⟩
  have H2 : Hid (Below w.heap.size w w2) := below_to HB.out hb2
  clear hb2
  go_wp2_with fail
  go_ret2
  exact ⟨sp_ret HX.out.symm, H2.out⟩
set_option maxRecDepth 100000 in
set_option maxHeartbeats 4000000 in
theorem sp_ok (h : (Cl.mk nm vr pn pv ab fs).At w B af) (hB : Sub B w) (he : Sp.clR ⟨nm, vr, pn, pv, ab, fs⟩ = 0) : Calls Tryz.prog 4 #[.agg #[.string nm, .int .i64 vr, .string pn, .int .i64 pv, .bool ab, .slice af fs.length cf]] w fun e w' => e = .returned (.tuple #[.string (Sp.snd ⟨nm, vr, pn, pv, ab, fs⟩).1, .int .i64 (Sp.snd ⟨nm, vr, pn, pv, ab, fs⟩).2]) ∧ Below w.heap.size w w' := by
  have hbx : Below w.heap.size w (w.alloc (.cells #[.string nm, .int .i64 vr, .string pn, .int .i64 pv, .bool ab, .slice af fs.length cf] 24)) := (Below.refl _ _).alloc (Nat.le_refl _) _
  have HB : Hid (Below w.heap.size w (w.alloc (.cells #[.string nm, .int .i64 vr, .string pn, .int .i64 pv, .bool ab, .slice af fs.length cf] 24))) := hbx
  have h1 : (Cl.mk nm vr pn pv ab fs).At (w.alloc (.cells #[.string nm, .int .i64 vr, .string pn, .int .i64 pv, .bool ab, .slice af fs.length cf] 24)) B af := ⟨h.nm, h.pn, h.vr, h.pv, h.len, h.fs.same (hB.same hbx) (fun _ h => h)⟩
  have HRU : Hid (Calls Tryz.prog 6 #[.agg #[.string nm, .int .i64 vr, .string pn, .int .i64 pv, .bool ab, .slice af fs.length cf]] (w.alloc (.cells #[.string nm, .int .i64 vr, .string pn, .int .i64 pv, .bool ab, .slice af fs.length cf] 24)) fun e w' => e = .returned (.int .i64 (Sp.clR ⟨nm, vr, pn, pv, ab, fs⟩)) ∧ Below (w.alloc (.cells #[.string nm, .int .i64 vr, .string pn, .int .i64 pv, .bool ab, .slice af fs.length cf] 24)).heap.size (w.alloc (.cells #[.string nm, .int .i64 vr, .string pn, .int .i64 pv, .bool ab, .slice af fs.length cf] 24)) w') := rul_any nm pn vr pv ab fs af cf B (w.alloc (.cells #[.string nm, .int .i64 vr, .string pn, .int .i64 pv, .bool ab, .slice af fs.length cf] 24)) h1 (hB.later hbx)
  have HX : Hid (Sp.snd ⟨nm, vr, pn, pv, ab, fs⟩ = Sp.sndR fs) := by show _ = _; unfold Sp.snd; rw [if_neg (by rw [he]; decide)]
  have HGD : Hid (∀ f ∈ fs, f.ty.can = true ∧ (f.has = true → f.df.all.e = 0)) := Sp.clR_zero he
  rw [he] at HRU
  have hlen : fs.length ≤ 70368744177664 := h.len
  have HFS : Hid (FosAt w B af fs) := h.fs
  have HW : Hid (∀ W, Below (w.alloc (.cells #[.string nm, .int .i64 vr, .string pn, .int .i64 pv, .bool ab, .slice af fs.length cf] 24)).heap.size (w.alloc (.cells #[.string nm, .int .i64 vr, .string pn, .int .i64 pv, .bool ab, .slice af fs.length cf] 24)) W → Below w.heap.size w W ∧ W.cell? ⟨w.heap.size, 5, none⟩ = some (.slice af fs.length cf)) := fun W hW => ⟨below_to hbx hW, by rw [hW.cell (p := ⟨w.heap.size, 5, none⟩) (by simp), cell_of_row _ _ _ _ _ _ (heap_alloc_new w _)]; rfl⟩
  have HBB : Hid (Sub B w) := hB
  obtain ⟨P, hP⟩ : ∃ P, fs.length = P := ⟨_, rfl⟩
  have HP : Hid (fs.length = P) := hP
  clear h h1 hB hbx he
  rw [hP] at hlen HB HRU HW ⊢
  clear hP
  go_enter Tryz.func4, Tryz.ntmps4
  go_wp2_with fail
  refine HRU.out.mono ?_
  rintro e w2 ⟨rfl, hb2⟩
  have e5 := (HW.out w2 hb2).2
  have HB2 : Hid (Below (w.alloc (.cells #[.string nm, .int .i64 vr, .string pn, .int .i64 pv, .bool ab, .slice af P cf] 24)).heap.size (w.alloc (.cells #[.string nm, .int .i64 vr, .string pn, .int .i64 pv, .bool ab, .slice af P cf] 24)) w2) := hb2
  clear hb2
  go_wp2_with fail
  go_loopw [15] (fun y wr => ∃ (j : Nat) (l : List Fo), y = .int .i64 j ∧ l.length + j = P ∧ Hid (Below (w.alloc (.cells #[.string nm, .int .i64 vr, .string pn, .int .i64 pv, .bool ab, .slice af P cf] 24)).heap.size (w.alloc (.cells #[.string nm, .int .i64 vr, .string pn, .int .i64 pv, .bool ab, .slice af P cf] 24)) wr ∧ (∀ i, fs[j + i]? = l[i]?) ∧ Sp.sndR fs = Sp.sndR l)) (fun y _ => P - (intOf y).toNat)
  case atStart => exact ⟨0, fs, rfl, HP.out, ⟨HB2.out, fun i => by simp, rfl⟩⟩
  case round =>
    obtain ⟨j, l, rfl, hlj, HI⟩ := hrel
    clear e5
    have e5 : wr.cell? ⟨w.heap.size, 5, none⟩ = some (.slice af P cf) := (HW.out wr HI.out.1).2
    cases l with
    | nil =>
      have hj' : P ≤ j := by simp at hlj; omega
      have HR : Hid (Sp.snd ⟨nm, vr, pn, pv, ab, fs⟩ = (⟨#[]⟩, 0) ∧ Below w.heap.size w wr) := ⟨by rw [HX.out, HI.out.2.2]; rfl, (HW.out wr HI.out.1).1⟩
      clear hlj HI
      go_wp2_with fail
      go_ret2
      exact ⟨sp_ret HR.out.1.symm, HR.out.2⟩
    | cons f l =>
      have hi1 : (j : Int) < (P : Int) := by simp at hlj; omega
      have hi0 : (0 : Int) ≤ (j : Int) := Int.natCast_nonneg _
      have ef : fs[j]? = some f := by have := HI.out.2.1 0; simpa using this
      obtain ⟨hcan, hgd⟩ := HGD.out f (List.mem_of_getElem? ef)
      obtain ⟨g, o, cy, ct, rfl, hg, hc, ha⟩ := HFS.out j f ef
      have hg' : g < w.heap.size := HBB.out g hg
      have hy := Ty.In_cells ha.ty
      have ht := Tm.In_one ha.df
      have hM : ∀ W, Below wr.heap.size wr W → Below (w.alloc (.cells #[.string nm, .int .i64 vr, .string pn, .int .i64 pv, .bool ab, .slice (some ⟨g, o, none⟩) P cf] 24)).heap.size (w.alloc (.cells #[.string nm, .int .i64 vr, .string pn, .int .i64 pv, .bool ab, .slice (some ⟨g, o, none⟩) P cf] 24)) W ∧ Below w.heap.size w W := fun W hW => ⟨below_to HI.out.1 hW, (HW.out W (below_to HI.out.1 hW)).1⟩
      have HM : Hid (∀ W, Below wr.heap.size wr W → Below (w.alloc (.cells #[.string nm, .int .i64 vr, .string pn, .int .i64 pv, .bool ab, .slice (some ⟨g, o, none⟩) P cf] 24)).heap.size (w.alloc (.cells #[.string nm, .int .i64 vr, .string pn, .int .i64 pv, .bool ab, .slice (some ⟨g, o, none⟩) P cf] 24)) W ∧ Below w.heap.size w W) := hM
      have HFM : Hid (∀ W, Below wr.heap.size wr W → W.cell? ⟨g, o + j * 32, none⟩ = some (.string f.nm) ∧ W.cell? ⟨g, o + j * 32 + 1, none⟩ = some (.string f.was) ∧ W.cell? ⟨g, o + j * 32 + 20, none⟩ = some (.bool f.has) ∧ (loadVar 43 ⟨g, o + j * 32 + 2, none⟩).run Tryz.prog W = .ok (.agg cy) W ∧ (loadVar 38 ⟨g, o + j * 32 + 21, none⟩).run Tryz.prog W = .ok (.agg ct) W ∧ (loadVar 45 ⟨g, o + j * 32, none⟩).run Tryz.prog W = .ok (.agg (fcs f cy ct)) W) := fun W hW =>
        FB.mid (fun x hx => by rw [(hM W hW).2.cell (p := ⟨g, o + j * 32 + x, none⟩) hg']; exact hc x hx) hy.1 ht.1
      have HAT : Hid (∀ W, Below wr.heap.size wr W → f.At W B cy ct ∧ Sub B W) := fun W hW => ⟨ha.same (HBB.out.same (hM W hW).2) (fun _ h => h), HBB.out.later (hM W hW).2⟩
      have HJ : Hid (l.length + (j + 1) = P ∧ (∀ i, fs[j + 1 + i]? = l[i]?)) := ⟨by simp at hlj; omega, fun i => by rw [show j + 1 + i = j + (i + 1) by omega, HI.out.2.1 (i + 1)]; simp⟩
      have HF : Hid (Sp.sndR fs = if f.has && !(Sp.isA f.df f.ty).1 then (f.nm, 71) else Sp.sndR l) := by show _ = _; rw [HI.out.2.2]; rfl
      have HGE : Hid (f.has = true → f.df.all.e = 0) := hgd
      clear hlj HI ef hg hg' hc ha hy ht hM hcan hgd
      obtain ⟨m0, -, m20, -⟩ := HFM.out wr (Below.refl _ _)
      cases hhas : f.has with
      | false =>
        rw [hhas] at m20
        have HR : Hid (Sp.sndR fs = Sp.sndR l) := by show _ = _; rw [HF.out, hhas]; rfl
        have HDR : Hid (∀ k, Below (w.alloc (.cells #[.string nm, .int .i64 vr, .string pn, .int .i64 pv, .bool ab, .slice (some ⟨g, o, none⟩) P cf] 24)).heap.size (w.alloc (.cells #[.string nm, .int .i64 vr, .string pn, .int .i64 pv, .bool ab, .slice (some ⟨g, o, none⟩) P cf] 24)) (wr.drewN k)) := fun k => (HM.out _ (below_drewN' _ wr k)).1
        clear HF HGE hhas
        go_wp2_with fail
        go_quiet (fail)
        go_wp2_with fail
        go_roundw
        case rel => exact ⟨j + 1, l, by go_num, HJ.out.1, ⟨HDR.out _, HJ.out.2, HR.out⟩⟩
        case measure => simp [intOf]; omega
      | true =>
        rw [hhas] at m20
        have HGE' : Hid (f.df.all.e = 0) := HGE.out hhas
        have HS : Hid (∀ W, Below wr.heap.size wr W → W.cell? ⟨g, o + j * 32 + 20, none⟩ = some (.bool true) ∧ (loadVar 43 ⟨g, o + j * 32 + 2, none⟩).run Tryz.prog W = .ok (.agg cy) W) := fun W hW => by
          obtain ⟨-, -, z20, zt, -⟩ := HFM.out W hW
          rw [hhas] at z20; exact ⟨z20, zt⟩
        have HDF : Hid (∀ W, Below wr.heap.size wr W → Calls Tryz.prog 8 #[.pointer (some ⟨g, o + j * 32, none⟩)] W fun e w' => ∃ v, e = .returned v ∧ Below W.heap.size W w' ∧ f.df.V w' (Lo w'.heap.size) v) := fun W hW => by
          obtain ⟨-, -, -, -, zd, -⟩ := HFM.out W hW
          refine (defaultOf_any f cy ct g _ B W (HAT.out W hW).1 (HAT.out W hW).2 (HS.out W hW).1 zd HGE'.out).mono ?_
          rintro e w' ⟨v, rfl, hb, hv⟩
          exact ⟨v, rfl, hb, f.df.V_same (Same.refl _ _) (fun k hk => hk.2) v hv⟩
        have HIO : Hid (∀ W v, Below wr.heap.size wr W → f.df.V W (Lo W.heap.size) v → Calls Tryz.prog 7 #[v, .agg cy] W fun e w' => e = .returned (.bool (Sp.isA f.df f.ty).1) ∧ Below W.heap.size W w') := fun W v hW hv =>
          isOf_any f.df v f.ty cy W hv (f.ty.In_same (Same.refl _ _) (HAT.out W hW).2 cy (HAT.out W hW).1.ty)
        have HSH : Hid (∀ W v, f.df.V W (Lo W.heap.size) v → v = .nilIface ∨ ∃ T y, v = .iface T y) := fun W v h => f.df.V_shape v h
        rw [hhas] at HF
        clear HGE HGE' hhas HAT
        cases hr : (Sp.isA f.df f.ty).1
        · have HR : Hid (Sp.snd ⟨nm, vr, pn, pv, ab, fs⟩ = (f.nm, 71)) := by show _ = _; rw [HX.out, HF.out, hr]; rfl
          rw [hr] at HIO
          clear HF hr
          go_wp2_with fail
          refine wp_region_held_drew (S := fun W => W.cell? ⟨g, o + j * 32 + 20, none⟩ = some (.bool true) ∧ (loadVar 43 ⟨g, o + j * 32 + 2, none⟩).run Tryz.prog W = .ok (.agg cy) W) (by kernel_rfl) ?_ (fun hHeld => ?_)
          · exact HS.out _ (Below.refl _ _).drew
          refine wpAnyH_take (i := 0) (oi := ⟨some 22, .move (.tmp 6), 30, "evolve.go:18", #[], none⟩) (v := ?_) rfl (by kernel_rfl) (by kernel_rfl) (by kernel_rfl) (fun _ _ _ h => h) (Or.inl ⟨by rfl, ?_⟩) (by assumption) ?_
          rotate_left
          · intro w hSw; (try dsimp only at hSw); go_simp; try (with_reducible rfl)
          simp only [Act.put, List.setIfInBounds_toArray, List.set_cons_zero, List.set_cons_succ]
          refine wpAnyH_take (i := 1) (oi := ⟨some 23, .nilCheck (.tmp 22), 0, "evolve.go:18", #[⟨0, .data⟩], none⟩) (v := ?_) rfl (by kernel_rfl) (by kernel_rfl) (by kernel_rfl) (fun _ _ _ h => h) (Or.inl ⟨by rfl, ?_⟩) (by assumption) ?_
          rotate_left
          · intro w hSw; (try dsimp only at hSw); go_simp; try (with_reducible rfl)
          simp only [Act.put, List.setIfInBounds_toArray, List.set_cons_zero, List.set_cons_succ]
          refine wpAnyH_take (i := 2) (oi := ⟨some 24, .fieldAddr 45 (.tmp 23) 3, 0, "evolve.go:18", #[⟨1, .data⟩], none⟩) (v := ?_) rfl (by kernel_rfl) (by kernel_rfl) (by kernel_rfl) (fun _ _ _ h => h) (Or.inl ⟨by rfl, ?_⟩) (by assumption) ?_
          rotate_left
          · intro w hSw; (try dsimp only at hSw); go_simp; try (with_reducible rfl)
          simp only [Act.put, List.setIfInBounds_toArray, List.set_cons_zero, List.set_cons_succ]
          refine wpAnyH_take (i := 3) (oi := ⟨some 25, .load 4 (.tmp 24), 4, "evolve.go:18", #[⟨2, .data⟩], none⟩) (v := ?_) rfl (by kernel_rfl) (by kernel_rfl) (by kernel_rfl) (fun _ _ _ h => h) (Or.inl ⟨by rfl, ?_⟩) (by assumption) ?_
          rotate_left
          · intro w hSw; (try dsimp only at hSw); go_simp; try (with_reducible rfl)
          simp only [Act.put, List.setIfInBounds_toArray, List.set_cons_zero, List.set_cons_succ]
          refine wpAnyH_take (i := 4) (oi := ⟨some 26, .move (.tmp 25), 4, "evolve.go:18", #[⟨3, .data⟩], none⟩) (v := ?_) rfl (by kernel_rfl) (by kernel_rfl) (by kernel_rfl) (fun _ _ _ h => h) (Or.inl ⟨by rfl, ?_⟩) (by assumption) ?_
          rotate_left
          · intro w hSw; (try dsimp only at hSw); go_simp; try (with_reducible rfl)
          simp only [Act.put, List.setIfInBounds_toArray, List.set_cons_zero, List.set_cons_succ]
          refine wpAnyH_take (i := 5) (oi := ⟨some 27, .move (.tmp 6), 30, "evolve.go:18", #[⟨4, .guard⟩], some (4, true)⟩) (v := ?_) rfl (by kernel_rfl) (by kernel_rfl) (by kernel_rfl) (fun _ _ _ h => h) (Or.inl ⟨by rfl, ?_⟩) (by assumption) ?_
          rotate_left
          · intro w hSw; (try dsimp only at hSw); go_simp; try (with_reducible rfl)
          simp only [Act.put, List.setIfInBounds_toArray, List.set_cons_zero, List.set_cons_succ]
          refine wpAnyH_take (i := 7) (oi := ⟨some 29, .move (.tmp 6), 30, "evolve.go:18", #[⟨4, .guard⟩], some (4, true)⟩) (v := ?_) rfl (by kernel_rfl) (by kernel_rfl) (by kernel_rfl) (fun _ _ _ h => h) (Or.inl ⟨by rfl, ?_⟩) (by assumption) ?_
          rotate_left
          · intro w hSw; (try dsimp only at hSw); go_simp; try (with_reducible rfl)
          simp only [Act.put, List.setIfInBounds_toArray, List.set_cons_zero, List.set_cons_succ]
          refine wpAnyH_take (i := 8) (oi := ⟨some 30, .nilCheck (.tmp 29), 0, "evolve.go:18", #[⟨7, .data⟩, ⟨4, .guard⟩], some (4, true)⟩) (v := ?_) rfl (by kernel_rfl) (by kernel_rfl) (by kernel_rfl) (fun _ _ _ h => h) (Or.inl ⟨by rfl, ?_⟩) (by assumption) ?_
          rotate_left
          · intro w hSw; (try dsimp only at hSw); go_simp; try (with_reducible rfl)
          simp only [Act.put, List.setIfInBounds_toArray, List.set_cons_zero, List.set_cons_succ]
          refine wpAnyH_take (i := 9) (oi := ⟨some 31, .fieldAddr 45 (.tmp 30) 2, 0, "evolve.go:18", #[⟨8, .data⟩, ⟨4, .guard⟩], some (4, true)⟩) (v := ?_) rfl (by kernel_rfl) (by kernel_rfl) (by kernel_rfl) (fun _ _ _ h => h) (Or.inl ⟨by rfl, ?_⟩) (by assumption) ?_
          rotate_left
          · intro w hSw; (try dsimp only at hSw); go_simp; try (with_reducible rfl)
          simp only [Act.put, List.setIfInBounds_toArray, List.set_cons_zero, List.set_cons_succ]
          refine wpAnyH_take (i := 10) (oi := ⟨some 32, .load 43 (.tmp 31), 43, "evolve.go:18", #[⟨9, .data⟩, ⟨4, .guard⟩], some (4, true)⟩) (v := (.agg cy)) rfl (by kernel_rfl) (by kernel_rfl) (by kernel_rfl) (fun _ _ _ h => h) (take_ld rfl rfl rfl (fun w hSw => hSw.2)) (by assumption) ?_
          simp only [Act.put, List.setIfInBounds_toArray, List.set_cons_zero, List.set_cons_succ]
          refine wpAnyH_ready (rs := [6]) (by kernel_rfl) (by simp) ?_
          refine AllReadyH.cons (o := ⟨some 28, .call { callee := Go.Callee.value (.func 8), args := #[.tmp 27], argTypes := #[30] }, 20, "evolve.go:18", #[⟨5, .data⟩, ⟨4, .chain⟩, ⟨4, .guard⟩], some (4, true)⟩) rfl (fun K hK => ?_) AllReadyH.nil
          go_simp
          refine (HDF.out _ (Below.refl _ _).drew).mono ?_
          rintro e w5 ⟨v, rfl, hq, hv⟩
          have HB5 : Hid (Below wr.heap.size wr w5) := below_to (Below.refl _ _).drew hq
          have HV5 : Hid (f.df.V w5 (Lo w5.heap.size) v) := hv
          have hxs := HSH.out w5 v hv
          clear hq hv
          rcases hxs with rfl | ⟨T0, y0, rfl⟩
          all_goals
            go_wp2_with fail
            refine hK.out _ _ ?_ (fun hHeld => ?_)
            · exact HS.out _ HB5.out
            clear hK K
            refine wpAnyH_ready (rs := [11]) (by kernel_rfl) (by simp) ?_
            refine AllReadyH.cons (o := ⟨some 33, .call { callee := Go.Callee.value (.func 7), args := #[.tmp 28, .tmp 32], argTypes := #[20, 43] }, 4, "evolve.go:18", #[⟨6, .data⟩, ⟨10, .data⟩, ⟨6, .chain⟩, ⟨4, .guard⟩], some (4, true)⟩) rfl (fun K hK => ?_) AllReadyH.nil
            go_simp
            refine (HIO.out _ _ HB5.out HV5.out).mono ?_
            rintro e w6 ⟨rfl, hq⟩
            have HB6 : Hid (Below wr.heap.size wr w6) := below_to HB5.out hq
            clear hq
            go_wp2_with fail
            refine hK.out _ _ ?_ (fun hHeld => ?_)
            · exact HS.out _ HB6.out
            clear hK K
            refine wpAnyH_take (i := 12) (oi := ⟨some 34, .unOp .not 4 (.tmp 33), 4, "evolve.go:18", #[⟨11, .data⟩, ⟨4, .guard⟩], some (4, true)⟩) (v := ?_) rfl (by kernel_rfl) (by kernel_rfl) (by kernel_rfl) (fun _ _ _ h => h) (Or.inl ⟨by rfl, ?_⟩) (by assumption) ?_
            rotate_left
            · intro w hSw; (try dsimp only at hSw); go_simp; try (with_reducible rfl)
            simp only [Act.put, List.setIfInBounds_toArray, List.set_cons_zero, List.set_cons_succ]
            refine wpAnyH_take (i := 13) (oi := ⟨some 35, .pick (.tmp 26) (.tmp 34) (.const (Go.Value.bool false)), 4, "evolve.go:18", #[⟨4, .data⟩, ⟨12, .data⟩], none⟩) (v := ?_) rfl (by kernel_rfl) (by kernel_rfl) (by kernel_rfl) (fun _ _ _ h => h) (Or.inl ⟨by rfl, ?_⟩) (by assumption) ?_
            rotate_left
            · intro w hSw; (try dsimp only at hSw); go_simp; try (with_reducible rfl)
            simp only [Act.put, List.setIfInBounds_toArray, List.set_cons_zero, List.set_cons_succ]
            refine wpAnyH_done (by kernel_rfl) ?_ _
            have m0 := (HFM.out w6 HB6.out).1
            go_wp2_with fail
            go_ret2
            exact ⟨sp_ret HR.out.symm, (HM.out _ HB6.out).2⟩
        · have HR : Hid (Sp.sndR fs = Sp.sndR l) := by show _ = _; rw [HF.out, hr]; rfl
          rw [hr] at HIO
          clear HF hr
          go_wp2_with fail
          refine wp_region_held_drew (S := fun W => W.cell? ⟨g, o + j * 32 + 20, none⟩ = some (.bool true) ∧ (loadVar 43 ⟨g, o + j * 32 + 2, none⟩).run Tryz.prog W = .ok (.agg cy) W) (by kernel_rfl) ?_ (fun hHeld => ?_)
          · exact HS.out _ (Below.refl _ _).drew
          refine wpAnyH_take (i := 0) (oi := ⟨some 22, .move (.tmp 6), 30, "evolve.go:18", #[], none⟩) (v := ?_) rfl (by kernel_rfl) (by kernel_rfl) (by kernel_rfl) (fun _ _ _ h => h) (Or.inl ⟨by rfl, ?_⟩) (by assumption) ?_
          rotate_left
          · intro w hSw; (try dsimp only at hSw); go_simp; try (with_reducible rfl)
          simp only [Act.put, List.setIfInBounds_toArray, List.set_cons_zero, List.set_cons_succ]
          refine wpAnyH_take (i := 1) (oi := ⟨some 23, .nilCheck (.tmp 22), 0, "evolve.go:18", #[⟨0, .data⟩], none⟩) (v := ?_) rfl (by kernel_rfl) (by kernel_rfl) (by kernel_rfl) (fun _ _ _ h => h) (Or.inl ⟨by rfl, ?_⟩) (by assumption) ?_
          rotate_left
          · intro w hSw; (try dsimp only at hSw); go_simp; try (with_reducible rfl)
          simp only [Act.put, List.setIfInBounds_toArray, List.set_cons_zero, List.set_cons_succ]
          refine wpAnyH_take (i := 2) (oi := ⟨some 24, .fieldAddr 45 (.tmp 23) 3, 0, "evolve.go:18", #[⟨1, .data⟩], none⟩) (v := ?_) rfl (by kernel_rfl) (by kernel_rfl) (by kernel_rfl) (fun _ _ _ h => h) (Or.inl ⟨by rfl, ?_⟩) (by assumption) ?_
          rotate_left
          · intro w hSw; (try dsimp only at hSw); go_simp; try (with_reducible rfl)
          simp only [Act.put, List.setIfInBounds_toArray, List.set_cons_zero, List.set_cons_succ]
          refine wpAnyH_take (i := 3) (oi := ⟨some 25, .load 4 (.tmp 24), 4, "evolve.go:18", #[⟨2, .data⟩], none⟩) (v := ?_) rfl (by kernel_rfl) (by kernel_rfl) (by kernel_rfl) (fun _ _ _ h => h) (Or.inl ⟨by rfl, ?_⟩) (by assumption) ?_
          rotate_left
          · intro w hSw; (try dsimp only at hSw); go_simp; try (with_reducible rfl)
          simp only [Act.put, List.setIfInBounds_toArray, List.set_cons_zero, List.set_cons_succ]
          refine wpAnyH_take (i := 4) (oi := ⟨some 26, .move (.tmp 25), 4, "evolve.go:18", #[⟨3, .data⟩], none⟩) (v := ?_) rfl (by kernel_rfl) (by kernel_rfl) (by kernel_rfl) (fun _ _ _ h => h) (Or.inl ⟨by rfl, ?_⟩) (by assumption) ?_
          rotate_left
          · intro w hSw; (try dsimp only at hSw); go_simp; try (with_reducible rfl)
          simp only [Act.put, List.setIfInBounds_toArray, List.set_cons_zero, List.set_cons_succ]
          refine wpAnyH_take (i := 5) (oi := ⟨some 27, .move (.tmp 6), 30, "evolve.go:18", #[⟨4, .guard⟩], some (4, true)⟩) (v := ?_) rfl (by kernel_rfl) (by kernel_rfl) (by kernel_rfl) (fun _ _ _ h => h) (Or.inl ⟨by rfl, ?_⟩) (by assumption) ?_
          rotate_left
          · intro w hSw; (try dsimp only at hSw); go_simp; try (with_reducible rfl)
          simp only [Act.put, List.setIfInBounds_toArray, List.set_cons_zero, List.set_cons_succ]
          refine wpAnyH_take (i := 7) (oi := ⟨some 29, .move (.tmp 6), 30, "evolve.go:18", #[⟨4, .guard⟩], some (4, true)⟩) (v := ?_) rfl (by kernel_rfl) (by kernel_rfl) (by kernel_rfl) (fun _ _ _ h => h) (Or.inl ⟨by rfl, ?_⟩) (by assumption) ?_
          rotate_left
          · intro w hSw; (try dsimp only at hSw); go_simp; try (with_reducible rfl)
          simp only [Act.put, List.setIfInBounds_toArray, List.set_cons_zero, List.set_cons_succ]
          refine wpAnyH_take (i := 8) (oi := ⟨some 30, .nilCheck (.tmp 29), 0, "evolve.go:18", #[⟨7, .data⟩, ⟨4, .guard⟩], some (4, true)⟩) (v := ?_) rfl (by kernel_rfl) (by kernel_rfl) (by kernel_rfl) (fun _ _ _ h => h) (Or.inl ⟨by rfl, ?_⟩) (by assumption) ?_
          rotate_left
          · intro w hSw; (try dsimp only at hSw); go_simp; try (with_reducible rfl)
          simp only [Act.put, List.setIfInBounds_toArray, List.set_cons_zero, List.set_cons_succ]
          refine wpAnyH_take (i := 9) (oi := ⟨some 31, .fieldAddr 45 (.tmp 30) 2, 0, "evolve.go:18", #[⟨8, .data⟩, ⟨4, .guard⟩], some (4, true)⟩) (v := ?_) rfl (by kernel_rfl) (by kernel_rfl) (by kernel_rfl) (fun _ _ _ h => h) (Or.inl ⟨by rfl, ?_⟩) (by assumption) ?_
          rotate_left
          · intro w hSw; (try dsimp only at hSw); go_simp; try (with_reducible rfl)
          simp only [Act.put, List.setIfInBounds_toArray, List.set_cons_zero, List.set_cons_succ]
          refine wpAnyH_take (i := 10) (oi := ⟨some 32, .load 43 (.tmp 31), 43, "evolve.go:18", #[⟨9, .data⟩, ⟨4, .guard⟩], some (4, true)⟩) (v := (.agg cy)) rfl (by kernel_rfl) (by kernel_rfl) (by kernel_rfl) (fun _ _ _ h => h) (take_ld rfl rfl rfl (fun w hSw => hSw.2)) (by assumption) ?_
          simp only [Act.put, List.setIfInBounds_toArray, List.set_cons_zero, List.set_cons_succ]
          refine wpAnyH_ready (rs := [6]) (by kernel_rfl) (by simp) ?_
          refine AllReadyH.cons (o := ⟨some 28, .call { callee := Go.Callee.value (.func 8), args := #[.tmp 27], argTypes := #[30] }, 20, "evolve.go:18", #[⟨5, .data⟩, ⟨4, .chain⟩, ⟨4, .guard⟩], some (4, true)⟩) rfl (fun K hK => ?_) AllReadyH.nil
          go_simp
          refine (HDF.out _ (Below.refl _ _).drew).mono ?_
          rintro e w5 ⟨v, rfl, hq, hv⟩
          have HB5 : Hid (Below wr.heap.size wr w5) := below_to (Below.refl _ _).drew hq
          have HV5 : Hid (f.df.V w5 (Lo w5.heap.size) v) := hv
          have hxs := HSH.out w5 v hv
          clear hq hv
          rcases hxs with rfl | ⟨T0, y0, rfl⟩
          all_goals
            go_wp2_with fail
            refine hK.out _ _ ?_ (fun hHeld => ?_)
            · exact HS.out _ HB5.out
            clear hK K
            refine wpAnyH_ready (rs := [11]) (by kernel_rfl) (by simp) ?_
            refine AllReadyH.cons (o := ⟨some 33, .call { callee := Go.Callee.value (.func 7), args := #[.tmp 28, .tmp 32], argTypes := #[20, 43] }, 4, "evolve.go:18", #[⟨6, .data⟩, ⟨10, .data⟩, ⟨6, .chain⟩, ⟨4, .guard⟩], some (4, true)⟩) rfl (fun K hK => ?_) AllReadyH.nil
            go_simp
            refine (HIO.out _ _ HB5.out HV5.out).mono ?_
            rintro e w6 ⟨rfl, hq⟩
            have HB6 : Hid (Below wr.heap.size wr w6) := below_to HB5.out hq
            clear hq
            go_wp2_with fail
            refine hK.out _ _ ?_ (fun hHeld => ?_)
            · exact HS.out _ HB6.out
            clear hK K
            refine wpAnyH_take (i := 12) (oi := ⟨some 34, .unOp .not 4 (.tmp 33), 4, "evolve.go:18", #[⟨11, .data⟩, ⟨4, .guard⟩], some (4, true)⟩) (v := ?_) rfl (by kernel_rfl) (by kernel_rfl) (by kernel_rfl) (fun _ _ _ h => h) (Or.inl ⟨by rfl, ?_⟩) (by assumption) ?_
            rotate_left
            · intro w hSw; (try dsimp only at hSw); go_simp; try (with_reducible rfl)
            simp only [Act.put, List.setIfInBounds_toArray, List.set_cons_zero, List.set_cons_succ]
            refine wpAnyH_take (i := 13) (oi := ⟨some 35, .pick (.tmp 26) (.tmp 34) (.const (Go.Value.bool false)), 4, "evolve.go:18", #[⟨4, .data⟩, ⟨12, .data⟩], none⟩) (v := ?_) rfl (by kernel_rfl) (by kernel_rfl) (by kernel_rfl) (fun _ _ _ h => h) (Or.inl ⟨by rfl, ?_⟩) (by assumption) ?_
            rotate_left
            · intro w hSw; (try dsimp only at hSw); go_simp; try (with_reducible rfl)
            simp only [Act.put, List.setIfInBounds_toArray, List.set_cons_zero, List.set_cons_succ]
            refine wpAnyH_done (by kernel_rfl) ?_ _
            have m0 := (HFM.out w6 HB6.out).1
            go_wp2_with fail
            go_roundw
            case rel => exact ⟨j + 1, l, by go_num, HJ.out.1, ⟨(HM.out _ HB6.out).1, HJ.out.2, HR.out⟩⟩
            case measure => simp [intOf]; omega
theorem sp_any (h : (Cl.mk nm vr pn pv ab fs).At w B af) (hB : Sub B w) : Calls Tryz.prog 4 #[.agg #[.string nm, .int .i64 vr, .string pn, .int .i64 pv, .bool ab, .slice af fs.length cf]] w fun e w' => e = .returned (.tuple #[.string (Sp.snd ⟨nm, vr, pn, pv, ab, fs⟩).1, .int .i64 (Sp.snd ⟨nm, vr, pn, pv, ab, fs⟩).2]) ∧ Below w.heap.size w w' := by
  by_cases he : Sp.clR ⟨nm, vr, pn, pv, ab, fs⟩ = 0
  · exact sp_ok nm pn vr pv ab fs af cf B w h hB he
  · exact sp_err nm pn vr pv ab fs af cf B w h hB he
end
end Go.Proofs.YtbjcabpmndhfmaaGreat

