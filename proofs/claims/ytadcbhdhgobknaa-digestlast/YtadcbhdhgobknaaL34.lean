/- tenonmake.entries: the entries of a dict, made by appending. -/
import Derived.Test.YtadcbhdhgobknaaL33
import Derived.Deep.RegionHeld3
namespace Go.Proofs.Ytadcbhdhgobknaa
open Go.RowKit

/-- what the loop of entries carries -/
structure EL (L : TmF) (w wr : World) (j g cap : Nat) (xs : List (ByteArray × Array Value)) (l : TmF) : Prop where
  own : wr.ownsRow w.heap.size 94 12 (.slice (some ⟨g, 0, none⟩) j cap) j (ecells xs)
  pre : EPre wr (Own w.heap.size wr g) L.clean xs l.clean
  lt : w.heap.size ≤ g ∧ g < wr.heap.size
  bel : Below w.heap.size w wr
theorem EL.step {L : TmF} {w wr : World} {j g cap : Nat} {xs : List (ByteArray × Array Value)} {n : ByteArray} {t : Tm} {l : TmF} (h : EL L w wr j g cap xs (.cons n t l)) (hn : n.size ≤ 140737488355328) {w1 w3 : World} {o : Obj} {cs : Array Value} {g' cap' : Nat} (hb : Below wr.heap.size wr w1) (hx : t.clean.In w1 (Fr wr w1) cs) (hz : cs.size = 11)
    (ho : w3.ownsRow w.heap.size 94 12 (.slice (some ⟨g', 0, none⟩) (j + 1) cap') (j + 1) (ecells xs ++ (.string n :: cs.toList))) (hg : (w1.alloc o).grownBy w3 (some g)) (hor : some g = some g' ∨ g' = w1.heap.size + 1) (hlt : g' < w3.heap.size) :
    EL L w w3 (j + 1) g' cap' (xs ++ [(n, cs)]) l := by
  have hz1 := hb.size
  have hz3 := hg.size
  simp at hz3
  have hgl := h.lt
  have hlt' := ho.lt g' rfl
  have h31 : ∀ k, k < w1.heap.size → k ≠ g → w3.heap[k]? = w1.heap[k]? := fun k hk hne => by
    rw [hg.block k (by simp; omega) (by simpa using hne)]; exact Below.heap_alloc _ _ _ hk
  have hg' : ∀ k, k < w1.heap.size → k ≠ g → k ≠ g' := fun k hk hne e => by
    rcases hor with e' | e'
    · injection e' with e'; omega
    · omega
  refine ⟨by have e2 : ecells (xs ++ [(n, cs)]) = ecells xs ++ (.string n :: cs.toList) := by (unfold ecells; rw [List.flatMap_append]; simp)
             rw [e2]; exact ho, ?_, ⟨hlt'.1, hlt⟩, ?_⟩
  · refine EPre.snoc _ _ n t.clean _ cs (EPre.same (S := Own w.heap.size wr g) (fun k hk => ?_) (fun k hk => ⟨hk.1, by have := hk.2.1; omega, hg' k (by have := hk.2.1; omega) hk.2.2⟩) _ _ _ h.pre) hn (t.clean.In_same (B := Fr wr w1) (fun k hk => ?_) (fun k hk => ⟨by have := hk.1; omega, by have := hk.2; omega, hg' k hk.2 (by have := hk.1; omega)⟩) cs hx) hz
    · rw [h31 k (by have := hk.2.1; omega) hk.2.2]; exact hb.block k hk.2.1
    · exact h31 k hk.2 (by have := hk.1; omega)
  · have hb1 : Below w.heap.size w (w1.alloc o) := (h.bel.trans (hb.mono h.bel.size)).alloc (by have := h.bel.size; omega) _
    exact hb1.grown hg (by have := h.bel.size; simp; omega) (fun k e => by injection e with e; omega)
theorem EL.done {L : TmF} {w wr : World} {j g cap : Nat} {xs : List (ByteArray × Array Value)} (h : EL L w wr j g cap xs .nil) : L.clean.In wr (Fr w wr) (some ⟨g, 0, none⟩) 0 :=
  EPre.done (fun k hk => ⟨hk.1, hk.2.1⟩) g h.lt L.clean xs 0 h.pre (fun i x hx => by
    have := h.own.cells (g := g) rfl i x hx
    rw [addr_add] at this; simpa using this)
theorem ecell_one (n : ByteArray) (k : Int) (b : Bool) (i : Int) (f : Nat) (tx : ByteArray) (ab : Option Addr) (nb cb : Nat) (rf : Int) (al : Option Addr) (nl cl : Nat) (af : Option Addr) (nf cf : Nat) (c : ByteArray) (vr : Int) :
    ∀ u ∈ (Value.string n :: (tcells k b i f tx (.slice ab nb cb) rf (.slice al nl cl) (.slice af nf cf) c vr).toList), u.oneCell' = true := by
  intro u hu
  rcases List.mem_cons.1 hu with rfl | hu
  · rfl
  · exact tcells_one _ _ _ _ _ _ _ _ _ _ _ _ _ _ _ _ _ u hu

set_option maxRecDepth 100000 in
set_option maxHeartbeats 2000000 in
theorem plEntries_any (N : Nat) (HC : PlC N) (al : Option Addr) (L : TmF) (cl : Nat) (w : World) (deep n : Int) (hN : L.sz ≤ N) (B : Nat → Prop) (hB : Sub B w) (hL : L.V w B al 0) (hlen : L.len ≤ 4096) (hnm : L.Nm) (ho : L.OkAt (n + 1)) (hbd : L.Bdd) (h0 : 0 ≤ deep) (h1 : deep ≤ n) (hn : n ≤ 64) :
    Calls Try.prog 115 #[.slice al L.len cl, .int .i64 deep] w fun e w' => ∃ a cap, e = .returned (.slice a L.len cap) ∧ Below w.heap.size w w' ∧ L.clean.In w' (Fr w w') a 0 := by
  obtain ⟨i0, hi, hz0, hz1, hz2⟩ := info_parts Try.infoEn
  have HCH : Hid (PlC N) := HC
  clear HC
  have H0 : Hid (EL L w (w.alloc (.cells #[] 94)) 0 w.heap.size 0 [] L ∧ L.V w B al 0 ∧ L.OkAt (n + 1) ∧ L.Bdd ∧ L.Nm) :=
    ⟨⟨⟨rfl, .inr ⟨w.heap.size, 0, #[], rfl, Nat.le_refl _, heap_alloc_new w (.cells #[] 94), Nat.le_refl _, by simp [maxLen], rfl, rfl⟩⟩, (EPre_nil _ _).2 rfl, by simp, (Below.refl _ _).alloc (Nat.le_refl _) _⟩, hL, ho, hbd, hnm⟩
  have hwd : IntKind.i64.wrap (deep + 1) = deep + 1 := wrap_small (by omega) (by omega)
  clear hL ho hbd hnm
  go_enter Try.func115, Try.ntmps115
  go_wp2_with fail
  go_loopw [5, 6] (fun v x wr => ∃ (j g cap : Nat) (l : TmF) (xs : List (ByteArray × Array Value)), v = .slice (some ⟨g, 0, none⟩) j cap ∧ x = .int .i64 j ∧ l.len + j = L.len ∧ l.sz ≤ N ∧ Hid (EL L w wr j g cap xs l ∧ l.V w B al j ∧ l.OkAt (n + 1) ∧ l.Bdd ∧ l.Nm)) (fun _ x _ => L.len - (intOf x).toNat)
  case atStart => exact ⟨0, w.heap.size, 0, L, [], rfl, rfl, rfl, hN, H0.out⟩
  case round =>
    obtain ⟨j, g, cap, l, xs, rfl, rfl, hl, hlN, HR⟩ := hrel
    clear H0
    cases l with
    | nil =>
      have h1 : L.len ≤ j := by simp [TmF.len] at hl; omega
      have hj : j = L.len := by simp [TmF.len] at hl; omega
      clear hl
      go_wp2_with fail
      go_ret
      subst hj
      exact ⟨_, _, rfl, HR.out.1.bel, HR.out.1.done⟩
    | cons nm t l =>
      obtain ⟨hq, hsrc, hok, hbdd, hnm⟩ := HR.out
      simp only [TmF.V] at hsrc
      obtain ⟨g1, o1, v1, rfl, hg1, hnc, hvc, _, ht, hl'⟩ := hsrc
      have hk1 : j < L.len := by simp only [TmF.len] at hl; omega
      have HL : Hid (l.len + (j + 1) = L.len) := by show _ = _; simp only [TmF.len] at hl; omega
      have htN : t.sz ≤ N ∧ l.sz ≤ N := by simp [TmF.sz] at hlN; omega
      have hs : Same B w wr := hB.same hq.bel
      have HO := HCH.out.at (deep := deep + 1) (n := n + 1) htN.1 (t.V_same hs (fun _ h => h) v1 ht) (hB.later hq.bel) hok.head.1 hbdd.1 (by omega) (by omega)
      have HO : Hid _ := HO
      have HN : Hid (l.V w B (some ⟨g1, o1, none⟩) (j + 1) ∧ l.OkAt (n + 1) ∧ l.Bdd ∧ l.Nm) := ⟨hl', hok.head.2, hbdd.2, hnm.head.2⟩
      have hn32 : nm.size ≤ 140737488355328 := by have := hnm.head.1; omega
      have HX : Hid (∀ W, Below w.heap.size w W → W.cell? ⟨g1, o1 + j * 2, none⟩ = some (.string nm) ∧ W.cell? ⟨g1, o1 + j * 2 + 1, none⟩ = some v1) := fun W hW => ⟨by rw [hW.cell (p := ⟨g1, o1 + j * 2, none⟩) (hB _ hg1)]; exact hnc, by rw [hW.cell (p := ⟨g1, o1 + j * 2 + 1, none⟩) (hB _ hg1)]; exact hvc⟩
      have HBr : Hid (Below w.heap.size w wr) := hq.bel
      have hszr := hq.bel.size
      have hi0 : (0 : Int) ≤ (j : Int) := Int.natCast_nonneg _
      have hi1 : (j : Int) < (L.len : Int) := by omega
      unfold tcells at HO
      clear hl hlN hnc hvc ht hl' hok hs hq hbdd hnm
      go_wp2_with fail
      go_region_held3 (fun W => W.cell? ⟨g1, o1 + j * 2, none⟩ = some (.string nm) ∧ W.cell? ⟨g1, o1 + j * 2 + 1, none⟩ = some v1)
        (first | with_reducible exact HX.out _ HN3.out.bel | with_reducible exact HX.out w1 HB1w.out | with_reducible exact HX.out _ (HB1w.out.alloc HB1w.out.size _) | with_reducible exact HX.out _ HBr.out | with_reducible exact HX.out _ HBr.out.drew)
        ((first
          | (go_at_call 73; refine (HO.out _ ?_).mono ?_; exact (Below.refl _ _).drew; rintro e w1 ⟨k1, b1, i1, f1, tx1, ab1, nb1, cb1, rf1, al1, nl1, cl1, af1, nf1, cf1, cc1, vr1, rfl, hb1, hv1⟩; have HB1 : Hid (Below wr.heap.size wr w1) := (Below.refl _ _).drew.trans hb1; have HB1w : Hid (Below w.heap.size w w1) := HBr.out.trans (HB1.out.mono hszr); have HV1 : Hid _ := hv1; have hz1' := HB1.out.size; clear hb1 hv1)
          | (refine step_append_lies _ (by rfl) _ _ 27 (by rfl) w.heap.size 94 i0 _ 12 168 Try.undEs hi hz0 hz1 hz2 rfl (by omega) _ j (ecells xs) (by rfl) ((owns_below HB1.out HR.out.1.own).alloc _) ⟨w1.heap.size, 0, none⟩ 1 1 (.string nm :: (tcells k1 b1 i1 f1 tx1 (.slice ab1 nb1 cb1) rf1 (.slice al1 nl1 cl1) (.slice af1 nf1 cf1) cc1 vr1).toList) (by rfl) (by rfl) (block_cells (heap_alloc_new w1 _)) (ecell_one nm k1 b1 i1 f1 tx1 ab1 nb1 cb1 rf1 al1 nl1 cl1 af1 nf1 cf1 cc1 vr1) (by omega) (by unfold maxLen; omega) (by omega) (by simp; omega) (w1.heap.size + 1) (by simp) ?_; intro g' cap' w3 hown' hgrow hor hlt3; have HN3 : Hid (EL L w w3 (j + 1) g' cap' (xs ++ [(nm, (tcells k1 b1 i1 f1 tx1 (.slice ab1 nb1 cb1) rf1 (.slice al1 nl1 cl1) (.slice af1 nf1 cf1) cc1 vr1))]) l) := HR.out.1.step hn32 HB1.out HV1.out rfl hown' hgrow (by simpa [Value.ownBlock] using hor) hlt3)))
      go_wp2_with fail
      go_roundw
      case rel => exact ⟨j + 1, g', cap', l, _, rfl, by go_num, HL.out, htN.2, HN3.out, HN.out.1, HN.out.2.1, HN.out.2.2.1, HN.out.2.2.2⟩
      case measure => simp [intOf]; omega
end Go.Proofs.Ytadcbhdhgobknaa

