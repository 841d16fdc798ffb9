/- tenonref08.Sound. -/
import Derived.Test.YtbjcabpmndhfmaaGreatQ48
import Derived.Test.YtbjcabpmndhfmaaGreatQ42
namespace Go.Proofs.YtbjcabpmndhfmaaGreat
open Go.RowKit

theorem sr_ret {a b : ByteArray × Int} (h : a = b) : Ending.returned (.tuple #[.string a.1, .int .i64 a.2]) = .returned (.tuple #[.string b.1, .int .i64 b.2]) := by rw [h]
section
variable (nm pn : ByteArray) (vr pv : Int) (ab : Bool) (fs : List Fo) (af : Option Addr) (cf : Nat) (B : Nat → Prop) (w : World)
set_option maxRecDepth 100000 in
set_option maxHeartbeats 4000000 in
theorem sr_err (h : (Cl.mk nm vr pn pv ab fs).At w B af) (hB : Sub B w) (he : Sp.clR ⟨nm, vr, pn, pv, ab, fs⟩ ≠ 0) : Calls Tryz.prog 5 #[.agg #[.string nm, .int .i64 vr, .string pn, .int .i64 pv, .bool ab, .slice af fs.length cf]] w fun e w' => e = .returned (.tuple #[.string (Sp.snd ⟨nm, vr, pn, pv, ab, fs⟩).1, .int .i64 (Sp.snd ⟨nm, vr, pn, pv, ab, fs⟩).2]) ∧ Below w.heap.size w w' := by
  have hbx : Below w.heap.size w (w.alloc (.cells #[.string nm, .int .i64 vr, .string pn, .int .i64 pv, .bool ab, .slice af fs.length cf] 24)) := (Below.refl _ _).alloc (Nat.le_refl _) _
  have HB : Hid (Below w.heap.size w (w.alloc (.cells #[.string nm, .int .i64 vr, .string pn, .int .i64 pv, .bool ab, .slice af fs.length cf] 24))) := hbx
  have h1 : (Cl.mk nm vr pn pv ab fs).At (w.alloc (.cells #[.string nm, .int .i64 vr, .string pn, .int .i64 pv, .bool ab, .slice af fs.length cf] 24)) B af := ⟨h.nm, h.pn, h.vr, h.pv, h.len, h.fs.same (hB.same hbx) (fun _ h => h)⟩
  have HRU : Hid (Calls Tryz.prog 9 #[.agg #[.string nm, .int .i64 vr, .string pn, .int .i64 pv, .bool ab, .slice af fs.length cf]] (w.alloc (.cells #[.string nm, .int .i64 vr, .string pn, .int .i64 pv, .bool ab, .slice af fs.length cf] 24)) fun e w' => e = .returned (.int .i64 (Sp.clR ⟨nm, vr, pn, pv, ab, fs⟩)) ∧ Below (w.alloc (.cells #[.string nm, .int .i64 vr, .string pn, .int .i64 pv, .bool ab, .slice af fs.length cf] 24)).heap.size (w.alloc (.cells #[.string nm, .int .i64 vr, .string pn, .int .i64 pv, .bool ab, .slice af fs.length cf] 24)) w') := chk_any nm pn vr pv ab fs af cf B (w.alloc (.cells #[.string nm, .int .i64 vr, .string pn, .int .i64 pv, .bool ab, .slice af fs.length cf] 24)) h1 (hB.later hbx)
  have HX : Hid (Sp.snd ⟨nm, vr, pn, pv, ab, fs⟩ = (⟨#[]⟩, Sp.clR ⟨nm, vr, pn, pv, ab, fs⟩)) := by show _ = _; unfold Sp.snd; rw [if_pos he]
  have he' := ne_bool he
  clear h h1 hB hbx he
  generalize Sp.clR ⟨nm, vr, pn, pv, ab, fs⟩ = q at *
  go_enter Tryz.func5, Tryz.ntmps5
  go_wp2_with fail
  refine HRU.out.mono ?_
  rintro e w2 ⟨rfl, hb2⟩
  have H2 : Hid (Below w.heap.size w w2) := below_to HB.out hb2
  clear hb2
  go_wp2_with fail
  go_ret2
  exact ⟨sr_ret HX.out.symm, H2.out⟩
set_option maxRecDepth 100000 in
set_option maxHeartbeats 4000000 in
theorem sr_ok (h : (Cl.mk nm vr pn pv ab fs).At w B af) (hB : Sub B w) (he : Sp.clR ⟨nm, vr, pn, pv, ab, fs⟩ = 0) : Calls Tryz.prog 5 #[.agg #[.string nm, .int .i64 vr, .string pn, .int .i64 pv, .bool ab, .slice af fs.length cf]] w fun e w' => e = .returned (.tuple #[.string (Sp.snd ⟨nm, vr, pn, pv, ab, fs⟩).1, .int .i64 (Sp.snd ⟨nm, vr, pn, pv, ab, fs⟩).2]) ∧ Below w.heap.size w w' := by
  have hbx : Below w.heap.size w (w.alloc (.cells #[.string nm, .int .i64 vr, .string pn, .int .i64 pv, .bool ab, .slice af fs.length cf] 24)) := (Below.refl _ _).alloc (Nat.le_refl _) _
  have HB : Hid (Below w.heap.size w (w.alloc (.cells #[.string nm, .int .i64 vr, .string pn, .int .i64 pv, .bool ab, .slice af fs.length cf] 24))) := hbx
  have h1 : (Cl.mk nm vr pn pv ab fs).At (w.alloc (.cells #[.string nm, .int .i64 vr, .string pn, .int .i64 pv, .bool ab, .slice af fs.length cf] 24)) B af := ⟨h.nm, h.pn, h.vr, h.pv, h.len, h.fs.same (hB.same hbx) (fun _ h => h)⟩
  have HRU : Hid (Calls Tryz.prog 9 #[.agg #[.string nm, .int .i64 vr, .string pn, .int .i64 pv, .bool ab, .slice af fs.length cf]] (w.alloc (.cells #[.string nm, .int .i64 vr, .string pn, .int .i64 pv, .bool ab, .slice af fs.length cf] 24)) fun e w' => e = .returned (.int .i64 (Sp.clR ⟨nm, vr, pn, pv, ab, fs⟩)) ∧ Below (w.alloc (.cells #[.string nm, .int .i64 vr, .string pn, .int .i64 pv, .bool ab, .slice af fs.length cf] 24)).heap.size (w.alloc (.cells #[.string nm, .int .i64 vr, .string pn, .int .i64 pv, .bool ab, .slice af fs.length cf] 24)) w') := chk_any nm pn vr pv ab fs af cf B (w.alloc (.cells #[.string nm, .int .i64 vr, .string pn, .int .i64 pv, .bool ab, .slice af fs.length cf] 24)) h1 (hB.later hbx)
  have HX : Hid (Sp.snd ⟨nm, vr, pn, pv, ab, fs⟩ = Sp.sndR fs) := by show _ = _; unfold Sp.snd; rw [if_neg (by rw [he]; decide)]
  have HGD : Hid (∀ f ∈ fs, f.ty.can = true ∧ (f.has = true → f.df.all.e = 0)) := Sp.clR_zero he
  rw [he] at HRU
  have hlen : fs.length ≤ 70368744177664 := h.len
  have HFS : Hid (FosAt w B af fs) := h.fs
  have HW : Hid (∀ W, Below (w.alloc (.cells #[.string nm, .int .i64 vr, .string pn, .int .i64 pv, .bool ab, .slice af fs.length cf] 24)).heap.size (w.alloc (.cells #[.string nm, .int .i64 vr, .string pn, .int .i64 pv, .bool ab, .slice af fs.length cf] 24)) W → Below w.heap.size w W ∧ W.cell? ⟨w.heap.size, 5, none⟩ = some (.slice af fs.length cf)) := fun W hW => ⟨below_to hbx hW, by rw [hW.cell (p := ⟨w.heap.size, 5, none⟩) (by simp), cell_of_row _ _ _ _ _ _ (heap_alloc_new w _)]; rfl⟩
  have HBB : Hid (Sub B w) := hB
  obtain ⟨P, hP⟩ : ∃ P, fs.length = P := ⟨_, rfl⟩
  have HP : Hid (fs.length = P) := hP
  clear h h1 hB hbx he
  rw [hP] at hlen HB HRU HW ⊢
  clear hP
  go_enter Tryz.func5, Tryz.ntmps5
  go_wp2_with fail
  refine HRU.out.mono ?_
  rintro e w2 ⟨rfl, hb2⟩
  have e5 := (HW.out w2 hb2).2
  have HB2 : Hid (Below (w.alloc (.cells #[.string nm, .int .i64 vr, .string pn, .int .i64 pv, .bool ab, .slice af P cf] 24)).heap.size (w.alloc (.cells #[.string nm, .int .i64 vr, .string pn, .int .i64 pv, .bool ab, .slice af P cf] 24)) w2) := hb2
  clear hb2
  go_wp2_with fail
  go_loopw [5] (fun y wr => ∃ (j : Nat) (l : List Fo), y = .int .i64 j ∧ l.length + j = P ∧ Hid (Below (w.alloc (.cells #[.string nm, .int .i64 vr, .string pn, .int .i64 pv, .bool ab, .slice af P cf] 24)).heap.size (w.alloc (.cells #[.string nm, .int .i64 vr, .string pn, .int .i64 pv, .bool ab, .slice af P cf] 24)) wr ∧ (∀ i, fs[j + i]? = l[i]?) ∧ Sp.sndR fs = Sp.sndR l)) (fun y _ => P - (intOf y).toNat)
  case atStart => exact ⟨0, fs, rfl, HP.out, ⟨HB2.out, fun i => by simp, rfl⟩⟩
  case round =>
    obtain ⟨j, l, rfl, hlj, HI⟩ := hrel
    clear e5
    have e5 : wr.cell? ⟨w.heap.size, 5, none⟩ = some (.slice af P cf) := (HW.out wr HI.out.1).2
    cases l with
    | nil =>
      have hj' : P ≤ j := by simp at hlj; omega
      have HR : Hid (Sp.snd ⟨nm, vr, pn, pv, ab, fs⟩ = (⟨#[]⟩, 0) ∧ Below w.heap.size w wr) := ⟨by rw [HX.out, HI.out.2.2]; rfl, (HW.out wr HI.out.1).1⟩
      clear hlj HI
      go_wp2_with fail
      go_ret2
      exact ⟨sr_ret HR.out.1.symm, HR.out.2⟩
    | cons f l =>
      have hi1 : (j : Int) < (P : Int) := by simp at hlj; omega
      have hi0 : (0 : Int) ≤ (j : Int) := Int.natCast_nonneg _
      have ef : fs[j]? = some f := by have := HI.out.2.1 0; simpa using this
      obtain ⟨hcan, hgd⟩ := HGD.out f (List.mem_of_getElem? ef)
      obtain ⟨g, o, cy, ct, rfl, hg, hc, ha⟩ := HFS.out j f ef
      have hg' : g < w.heap.size := HBB.out g hg
      have hy := Ty.In_cells ha.ty
      have ht := Tm.In_one ha.df
      have hM : ∀ W, Below wr.heap.size wr W → Below (w.alloc (.cells #[.string nm, .int .i64 vr, .string pn, .int .i64 pv, .bool ab, .slice (some ⟨g, o, none⟩) P cf] 24)).heap.size (w.alloc (.cells #[.string nm, .int .i64 vr, .string pn, .int .i64 pv, .bool ab, .slice (some ⟨g, o, none⟩) P cf] 24)) W ∧ Below w.heap.size w W := fun W hW => ⟨below_to HI.out.1 hW, (HW.out W (below_to HI.out.1 hW)).1⟩
      have HM : Hid (∀ W, Below wr.heap.size wr W → Below (w.alloc (.cells #[.string nm, .int .i64 vr, .string pn, .int .i64 pv, .bool ab, .slice (some ⟨g, o, none⟩) P cf] 24)).heap.size (w.alloc (.cells #[.string nm, .int .i64 vr, .string pn, .int .i64 pv, .bool ab, .slice (some ⟨g, o, none⟩) P cf] 24)) W ∧ Below w.heap.size w W) := hM
      have HFM : Hid (∀ W, Below wr.heap.size wr W → W.cell? ⟨g, o + j * 32, none⟩ = some (.string f.nm) ∧ W.cell? ⟨g, o + j * 32 + 1, none⟩ = some (.string f.was) ∧ W.cell? ⟨g, o + j * 32 + 20, none⟩ = some (.bool f.has) ∧ (loadVar 43 ⟨g, o + j * 32 + 2, none⟩).run Tryz.prog W = .ok (.agg cy) W ∧ (loadVar 38 ⟨g, o + j * 32 + 21, none⟩).run Tryz.prog W = .ok (.agg ct) W ∧ (loadVar 45 ⟨g, o + j * 32, none⟩).run Tryz.prog W = .ok (.agg (fcs f cy ct)) W) := fun W hW =>
        FB.mid (fun x hx => by rw [(hM W hW).2.cell (p := ⟨g, o + j * 32 + x, none⟩) hg']; exact hc x hx) hy.1 ht.1
      have HAT : Hid (∀ W, Below wr.heap.size wr W → f.At W B cy ct ∧ Sub B W) := fun W hW => ⟨ha.same (HBB.out.same (hM W hW).2) (fun _ h => h), HBB.out.later (hM W hW).2⟩
      have HJ : Hid (l.length + (j + 1) = P ∧ (∀ i, fs[j + 1 + i]? = l[i]?)) := ⟨by simp at hlj; omega, fun i => by rw [show j + 1 + i = j + (i + 1) by omega, HI.out.2.1 (i + 1)]; simp⟩
      have HF : Hid (Sp.sndR fs = if f.has && !(Sp.isA f.df f.ty).1 then (f.nm, 71) else Sp.sndR l) := by show _ = _; rw [HI.out.2.2]; rfl
      have HGE : Hid (f.has = true → f.df.all.e = 0) := hgd
      have HLD : Hid ((loadVar 45 ⟨g, o + j * 32, none⟩).run Tryz.prog wr = .ok (.agg (fcs f cy ct)) wr) := (HFM.out wr (Below.refl _ _)).2.2.2.2.2
      obtain ⟨W5, hW5⟩ : ∃ W5, wr.alloc (.cells (fcs f cy ct) 45) = W5 := ⟨_, rfl⟩
      have hbx : Below wr.heap.size wr W5 := hW5 ▸ ((Below.refl _ _).alloc (Nat.le_refl _) _)
      have HB5 : Hid (Below wr.heap.size wr W5) := hbx
      have HSS : Hid (∀ c : Array Value, c.size = 32 → (storeVar 45 ⟨wr.heap.size, 0, none⟩ (.agg (fcs f cy ct))).run Tryz.prog (wr.alloc (.cells c 45)) = .ok () W5) := fun c hc => hW5 ▸ fst hc (fcs_size hy.1 ht.1) (fcs_one hy.2 ht.2)
      have hblk : W5.heap[wr.heap.size]? = some (.cells (fcs f cy ct) 45 (0, 0)) := hW5 ▸ heap_alloc_new wr _
      have HFB : Hid (∀ W, Below W5.heap.size W5 W → FB W wr.heap.size f cy ct) := fun W hW => FB.of ((hW.block wr.heap.size (by rw [← hW5]; simp)).trans hblk) hy.1 ht.1
      have HOF : Hid (Calls Tryz.prog 10 #[.agg ct, .agg cy] W5 fun e w' => e = .returned (.bool (Sp.isA f.df f.ty).1) ∧ Below W5.heap.size W5 w') := of_any f.df f.ty ct cy B W5 (HAT.out W5 hbx).1.df (HAT.out W5 hbx).1.ty (HAT.out W5 hbx).2
      clear hbx hblk
      clear hlj HI ef hg hg' hc ha hy ht hM hcan hgd
      obtain ⟨m0, -, m20, hty, hdf⟩ := HFB.out W5 (Below.refl _ _)
      have HTY : Hid ((loadVar 43 ⟨wr.heap.size, 2, none⟩).run Tryz.prog W5 = .ok (.agg cy) W5) := hty
      have HDF : Hid ((loadVar 38 ⟨wr.heap.size, 21, none⟩).run Tryz.prog W5 = .ok (.agg ct) W5) := hdf
      clear hty hdf hW5
      cases hhas : f.has with
      | false =>
        rw [hhas] at m20
        have HR : Hid (Sp.sndR fs = Sp.sndR l) := by show _ = _; rw [HF.out, hhas]; rfl
        clear HF HGE hhas
        go_wp2_with (first | ((with_reducible refine ld_row ?_ ?_ HLD.out ?_); rfl; rfl) | ((with_reducible refine st_row ?_ ?_ ?_ (HSS.out _ ?_) ?_); rfl; rfl; rfl; rfl))
        go_roundw
        case rel => exact ⟨j + 1, l, by go_num, HJ.out.1, ⟨(HM.out _ HB5.out).1, HJ.out.2, HR.out⟩⟩
        case measure => simp [intOf]; omega
      | true =>
        rw [hhas] at m20 HF
        clear HGE hhas
        cases hr : (Sp.isA f.df f.ty).1
        · have HR : Hid (Sp.snd ⟨nm, vr, pn, pv, ab, fs⟩ = (f.nm, 71)) := by show _ = _; rw [HX.out, HF.out, hr]; rfl
          rw [hr] at HOF
          clear HF hr
          go_wp2_with (first | ((with_reducible refine ld_row ?_ ?_ HLD.out ?_); rfl; rfl) | ((with_reducible refine st_row ?_ ?_ ?_ (HSS.out _ ?_) ?_); rfl; rfl; rfl; rfl) | ((with_reducible refine ld_row ?_ ?_ HTY.out ?_); rfl; rfl) | ((with_reducible refine ld_row ?_ ?_ HDF.out ?_); rfl; rfl))
          refine HOF.out.mono ?_
          rintro e w6 ⟨rfl, hb6⟩
          have m0' := (HFB.out w6 hb6).c0
          have HB6 : Hid (Below wr.heap.size wr w6) := below_to HB5.out hb6
          clear hb6
          go_wp2_with fail
          go_ret2
          exact ⟨sr_ret HR.out.symm, (HM.out _ HB6.out).2⟩
        · have HR : Hid (Sp.sndR fs = Sp.sndR l) := by show _ = _; rw [HF.out, hr]; rfl
          rw [hr] at HOF
          clear HF hr
          go_wp2_with (first | ((with_reducible refine ld_row ?_ ?_ HLD.out ?_); rfl; rfl) | ((with_reducible refine st_row ?_ ?_ ?_ (HSS.out _ ?_) ?_); rfl; rfl; rfl; rfl) | ((with_reducible refine ld_row ?_ ?_ HTY.out ?_); rfl; rfl) | ((with_reducible refine ld_row ?_ ?_ HDF.out ?_); rfl; rfl))
          refine HOF.out.mono ?_
          rintro e w6 ⟨rfl, hb6⟩
          have m0' := (HFB.out w6 hb6).c0
          have HB6 : Hid (Below wr.heap.size wr w6) := below_to HB5.out hb6
          clear hb6
          go_wp2_with fail
          go_roundw
          case rel => exact ⟨j + 1, l, by go_num, HJ.out.1, ⟨(HM.out _ HB6.out).1, HJ.out.2, HR.out⟩⟩
          case measure => simp [intOf]; omega
theorem sr_any (h : (Cl.mk nm vr pn pv ab fs).At w B af) (hB : Sub B w) : Calls Tryz.prog 5 #[.agg #[.string nm, .int .i64 vr, .string pn, .int .i64 pv, .bool ab, .slice af fs.length cf]] w fun e w' => e = .returned (.tuple #[.string (Sp.snd ⟨nm, vr, pn, pv, ab, fs⟩).1, .int .i64 (Sp.snd ⟨nm, vr, pn, pv, ab, fs⟩).2]) ∧ Below w.heap.size w w' := by
  by_cases he : Sp.clR ⟨nm, vr, pn, pv, ab, fs⟩ = 0
  · exact sr_ok nm pn vr pv ab fs af cf B w h hB he
  · exact sr_err nm pn vr pv ab fs af cf B w h hB he
end
end Go.Proofs.YtbjcabpmndhfmaaGreat

