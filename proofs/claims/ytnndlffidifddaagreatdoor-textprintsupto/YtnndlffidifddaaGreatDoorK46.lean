/- tenonref01.cleaned, and Clean at dicts. -/
import Derived.Test.YtnndlffidifddaaGreatDoorK45
import Derived.Test.YtnndlffidifddaaGreatDoorK33
namespace Go.Proofs.YtnndlffidifddaaGreatDoor
open Go.RowKit

set_option maxRecDepth 100000 in
set_option maxHeartbeats 4000000 in
theorem cleaned_any (N : Nat) (HC : ClC N) (al : Option Addr) (L : TmF) (cl : Nat) (w : World) (hN : L.sz ≤ N) (B : Nat → Prop) (hB : Sub B w) (hL : L.In w B al 0) (hlen : L.len ≤ 4096) (ho : L.Ok) :
    Calls Tryz.prog 21 #[.slice al L.len cl] w fun e w' => ∃ a cap, e = .returned (.slice a L.len cap) ∧ Below w.heap.size w w' ∧ L.clean.In w' (Fr w w') a 0 := by
  obtain ⟨i0, hi, hz0, hz1, hz2⟩ := info_parts Tryz.infoEn
  have HCH : Hid (ClC N) := HC
  clear HC
  have H0 : Hid (EL L w (w.alloc (.cells #[] 65)) 0 w.heap.size 0 [] L ∧ L.In w B al 0 ∧ L.Ok) :=
    ⟨⟨⟨rfl, .inr ⟨w.heap.size, 0, #[], rfl, Nat.le_refl _, heap_alloc_new w (.cells #[] 65), Nat.le_refl _, by simp [maxLen], rfl, rfl⟩⟩, (EPre_nil _ _).2 rfl, by simp, (Below.refl _ _).alloc (Nat.le_refl _) _⟩, hL, ho⟩
  clear hL ho
  go_enter Tryz.func21, Tryz.ntmps21
  go_wp2_with fail
  go_loopw [3, 4] (fun v x wr => ∃ (j g cap : Nat) (l : TmF) (xs : List (ByteArray × Array Value)), v = .slice (some ⟨g, 0, none⟩) j cap ∧ x = .int .i64 j ∧ l.len + j = L.len ∧ l.sz ≤ N ∧ Hid (EL L w wr j g cap xs l ∧ l.In w B al j ∧ l.Ok)) (fun _ x _ => L.len - (intOf x).toNat)
  case atStart => exact ⟨0, w.heap.size, 0, L, [], rfl, rfl, rfl, hN, H0.out⟩
  case round =>
    obtain ⟨j, g, cap, l, xs, rfl, rfl, hl, hlN, HR⟩ := hrel
    clear H0
    cases l with
    | nil =>
      have h1 : L.len ≤ j := by simp [TmF.len] at hl; omega
      have hj : j = L.len := by simp [TmF.len] at hl; omega
      clear hl
      go_wp2_with fail
      go_ret
      subst hj
      exact ⟨_, _, rfl, HR.out.1.bel, HR.out.1.done⟩
    | cons nm t l =>
      obtain ⟨hq, hsrc, hok⟩ := HR.out
      simp only [TmF.In] at hsrc
      obtain ⟨g1, o1, cs, rfl, hg1, hnc, hn32, hc, ht, hl'⟩ := hsrc
      have hk1 : j < L.len := by simp only [TmF.len] at hl; omega
      have HL : Hid (l.len + (j + 1) = L.len) := by show _ = _; simp only [TmF.len] at hl; omega
      have htN : t.sz ≤ N ∧ l.sz ≤ N := by simp [TmF.sz] at hlN; omega
      have hs : Same B w wr := hB.same hq.bel
      have HO := HCH.out.at htN.1 (t.In_same hs (fun _ h => h) cs ht) (hB.later hq.bel) hok.head.1
      have HN : Hid (l.In w B (some ⟨g1, o1, none⟩) (j + 1) ∧ l.Ok) := ⟨hl', hok.head.2⟩
      cases t with
      | mk k' b' i' f' tx' by' rf' l' fs' c' vr' =>
        have ht' := ht
        simp only [Tm.In] at ht'
        obtain ⟨ab', cb', al', cl', af', cf', rfl, _⟩ := ht'
        have HX : Hid (∀ W, Below w.heap.size w W → W.cell? ⟨g1, o1 + j * 12, none⟩ = some (.string nm) ∧ W.cell? ⟨g1, o1 + j * 12 + 1, none⟩ = some (.int .i64 k') ∧ W.cell? ⟨g1, o1 + j * 12 + 1 + 1, none⟩ = some (.bool b') ∧ W.cell? ⟨g1, o1 + j * 12 + 1 + 2, none⟩ = some (.int .i64 i') ∧ W.cell? ⟨g1, o1 + j * 12 + 1 + 3, none⟩ = some (.float .f64 f') ∧ W.cell? ⟨g1, o1 + j * 12 + 1 + 4, none⟩ = some (.string tx') ∧ W.cell? ⟨g1, o1 + j * 12 + 1 + 5, none⟩ = some (.slice ab' by'.size cb') ∧ W.cell? ⟨g1, o1 + j * 12 + 1 + 6, none⟩ = some (.int .u64 rf') ∧ W.cell? ⟨g1, o1 + j * 12 + 1 + 7, none⟩ = some (.slice al' l'.len cl') ∧ W.cell? ⟨g1, o1 + j * 12 + 1 + 8, none⟩ = some (.slice af' fs'.len cf') ∧ W.cell? ⟨g1, o1 + j * 12 + 1 + 9, none⟩ = some (.string c') ∧ W.cell? ⟨g1, o1 + j * 12 + 1 + 10, none⟩ = some (.int .i64 vr')) := fun W hW => by
          have hgl := hB _ hg1
          refine ⟨by rw [hW.cell (p := ⟨g1, o1 + j * 12, none⟩) hgl]; exact hnc, eleven (w := W) (g := g1) (o := o1 + j * 12 + 1) (fun x hx => ?_)⟩
          rw [hW.cell (p := ⟨g1, o1 + j * 12 + 1 + x, none⟩) hgl]; exact hc x hx
        have HBr : Hid (Below w.heap.size w wr) := hq.bel
        have hszr := hq.bel.size
        have hi0 : (0 : Int) ≤ (j : Int) := Int.natCast_nonneg _
        have hi1 : (j : Int) < (L.len : Int) := by omega
        unfold tcells at HO
        have HO : Hid _ := HO
        clear hl hlN hnc hc ht hl' hok hs hq
        go_wp2_with fail
        go_region_held3 (fun W => W.cell? ⟨g1, o1 + j * 12, none⟩ = some (.string nm) ∧ W.cell? ⟨g1, o1 + j * 12 + 1, none⟩ = some (.int .i64 k') ∧ W.cell? ⟨g1, o1 + j * 12 + 1 + 1, none⟩ = some (.bool b') ∧ W.cell? ⟨g1, o1 + j * 12 + 1 + 2, none⟩ = some (.int .i64 i') ∧ W.cell? ⟨g1, o1 + j * 12 + 1 + 3, none⟩ = some (.float .f64 f') ∧ W.cell? ⟨g1, o1 + j * 12 + 1 + 4, none⟩ = some (.string tx') ∧ W.cell? ⟨g1, o1 + j * 12 + 1 + 5, none⟩ = some (.slice ab' by'.size cb') ∧ W.cell? ⟨g1, o1 + j * 12 + 1 + 6, none⟩ = some (.int .u64 rf') ∧ W.cell? ⟨g1, o1 + j * 12 + 1 + 7, none⟩ = some (.slice al' l'.len cl') ∧ W.cell? ⟨g1, o1 + j * 12 + 1 + 8, none⟩ = some (.slice af' fs'.len cf') ∧ W.cell? ⟨g1, o1 + j * 12 + 1 + 9, none⟩ = some (.string c') ∧ W.cell? ⟨g1, o1 + j * 12 + 1 + 10, none⟩ = some (.int .i64 vr'))
          (first | with_reducible exact HX.out _ HN3.out.bel | with_reducible exact HX.out w1 HB1w.out | with_reducible exact HX.out _ (HB1w.out.alloc HB1w.out.size _) | with_reducible exact HX.out _ HBr.out | with_reducible exact HX.out _ HBr.out.drew)
          ((first
            | (go_at_call 9; refine (HO.out _ ?_).mono ?_; exact (Below.refl _ _).drew; rintro e w1 ⟨k1, b1, i1, f1, tx1, ab1, nb1, cb1, rf1, al1, nl1, cl1, af1, nf1, cf1, cc1, vr1, rfl, hb1, hv1⟩; have HB1 : Hid (Below wr.heap.size wr w1) := (Below.refl _ _).drew.trans hb1; have HB1w : Hid (Below w.heap.size w w1) := HBr.out.trans (HB1.out.mono hszr); have HV1 : Hid _ := hv1; have hz1' := HB1.out.size; clear hb1 hv1)
            | (refine step_append_lies _ (by rfl) _ _ 27 (by rfl) w.heap.size 65 i0 _ 12 168 Tryz.undEs hi hz0 hz1 hz2 rfl (by omega) _ j (ecells xs) (by rfl) ((owns_below HB1.out HR.out.1.own).alloc _) ⟨w1.heap.size, 0, none⟩ 1 1 (.string nm :: (tcells k1 b1 i1 f1 tx1 (.slice ab1 nb1 cb1) rf1 (.slice al1 nl1 cl1) (.slice af1 nf1 cf1) cc1 vr1).toList) (by rfl) (by rfl) (block_cells (heap_alloc_new w1 _)) (ecell_one nm k1 b1 i1 f1 tx1 ab1 nb1 cb1 rf1 al1 nl1 cl1 af1 nf1 cf1 cc1 vr1) (by omega) (by unfold maxLen; omega) (by omega) (by simp; omega) (w1.heap.size + 1) (by simp) ?_; intro g' cap' w3 hown' hgrow hor hlt3; have HN3 : Hid (EL L w w3 (j + 1) g' cap' (xs ++ [(nm, (tcells k1 b1 i1 f1 tx1 (.slice ab1 nb1 cb1) rf1 (.slice al1 nl1 cl1) (.slice af1 nf1 cf1) cc1 vr1))]) l) := HR.out.1.step hn32 HB1.out HV1.out rfl hown' hgrow (by simpa [Value.ownBlock] using hor) hlt3)))
        go_wp2_with fail
        go_roundw
        case rel => exact ⟨j + 1, g', cap', l, _, rfl, by go_num, HL.out, htN.2, HN3.out, HN.out.1, HN.out.2⟩
        case measure => simp [intOf]; omega
end Go.Proofs.YtnndlffidifddaaGreatDoor

