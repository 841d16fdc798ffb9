/- tenonlaw14.made: a graph by the program and by the document. -/
import Derived.Test.YtilhheianbbbjaaK40
import Derived.Test.YtilhheianbbbjaaK15
import Derived.Test.YtilhheianbbbjaaK20
import Derived.Test.YtilhheianbbbjaaK41
namespace Go.Proofs.Ytilhheianbbbjaa
open Go.RowKit Go.ChangeMaps

theorem GrE.mono {w : World} {D D' : Nat → Prop} {gb : Nat} {N : List Int} {nx : Nat → List Nat} (h : GrE w D gb N nx) (hd : ∀ k, D k → D' k) : GrE w D' gb N nx := by
  obtain ⟨gs, c, mb, xb, G, es, ck, bl, cp, lo, h⟩ := h
  exact ⟨gs, c, mb, xb, G, es, ck, bl, cp, lo, h.cn, h.nds, h.nxt, hd _ h.ins.1, hd _ h.ins.2.1, hd _ h.ins.2.2.1, fun g hg => hd _ (h.ins.2.2.2.1 g hg), fun t g ht hg => hd _ (h.ins.2.2.2.2 t g ht hg)⟩
theorem RgE.mono {w : World} {D D' : Nat → Prop} {gb : Nat} {N : List Int} {nx : Nat → List Nat} (h : RgE w D gb N nx) (hd : ∀ k, D k → D' k) : RgE w D' gb N nx := by
  obtain ⟨gn, cn, ge, ce, lo, xb, bl, cp, h⟩ := h
  exact ⟨gn, cn, ge, ce, lo, xb, bl, cp, h.cells, h.nds, h.eds, h.nxt, hd _ h.ins.1, hd _ h.ins.2.1, fun g hg => hd _ (h.ins.2.2.1 g hg), fun g hg => hd _ (h.ins.2.2.2.1 g hg), fun t g ht hg => hd _ (h.ins.2.2.2.2 t g ht hg)⟩
theorem RgE.keep {w w' : World} {D : Nat → Prop} {gb : Nat} {N : List Int} {nx : Nat → List Nat} (h : RgE w D gb N nx) (hs : ∀ k, D k → w'.heap[k]? = w.heap[k]?) : RgE w' D gb N nx := by
  obtain ⟨gn, cn, ge, ce, lo, xb, bl, cp, h⟩ := h
  exact ⟨gn, cn, ge, ce, lo, xb, bl, cp, h.keep hs⟩
theorem OwnK.set {w : World} {e : TypeId} {k g n cap : Nat} {xs : List Value} (h : OwnK w e k g n cap xs) (t : Nat) (x : Value) : OwnK (w.setCell ⟨g, t, none⟩ x) e k g n cap (xs.set t x) := by
  obtain ⟨cur, h1, h2, h3, h4, h5⟩ := h.blk
  refine ⟨by simpa using h.len, cur.setIfInBounds t x, ?_, h2, h3, by simpa using h4, ?_⟩
  · rw [Sort.setCell_eq]; show (w.heap.modify g _)[g]? = _
    rw [Array.getElem?_modify, if_pos rfl, h1]; rfl
  · rw [h5, Array.toList_setIfInBounds, List.take_set]
def MdE (w : World) (nodes : List Int) (E : List (Int × Int)) (p d : Option Addr) (w' : World) : Prop :=
  Below w.heap.size w w' ∧ (Sp.mkE nodes E ≠ 0 → p = none ∧ d = none) ∧ (Sp.mkE nodes E = 0 → ∃ gb db, p = some ⟨gb, 0, none⟩ ∧ d = some ⟨db, 0, none⟩ ∧ GrE w' (fun k => w.heap.size ≤ k ∧ k < w'.heap.size) gb (Sp.srt nodes) (Sp.nx (Sp.srt nodes) E) ∧ RgE w' (fun k => w.heap.size ≤ k ∧ k < w'.heap.size) db (Sp.srt nodes) (Sp.nx (Sp.srt nodes) E))
theorem MdE.of {w w3 w4 w5 w6 : World} {nodes : List Int} {E : List (Int × Int)} {p d : Option Addr} (h3 : Below w.heap.size w w3) (h4 : MkE w3 nodes E p w4) (h5 : MkR w4 nodes E d w5) (h6 : Below w.heap.size w w6) (hs : w5.heap.size ≤ w6.heap.size) (hk : ∀ k, w3.heap.size ≤ k → k < w5.heap.size → w6.heap[k]? = w5.heap[k]?) : MdE w nodes E p d w6 := by
  have s3 := h3.size
  have s4 := h4.1.size
  have s5 := h5.1.size
  refine ⟨h6, fun hne => ⟨h4.2.2 hne, h5.2.2 hne⟩, fun h0 => ?_⟩
  obtain ⟨gb, rfl, hg⟩ := h4.2.1 h0
  obtain ⟨db, rfl, hd⟩ := h5.2.1 h0
  refine ⟨gb, db, rfl, rfl, ?_, ?_⟩
  · exact (hg.keep fun k hk' => (hk k hk'.1 (by omega)).trans (h5.1.block k hk'.2)).mono fun k hk' => ⟨by omega, by omega⟩
  · exact (hd.keep fun k hk' => hk k (by omega) hk'.2).mono fun k hk' => ⟨by omega, by omega⟩

set_option maxRecDepth 100000 in
set_option maxHeartbeats 16000000 in
theorem made_any (a : Option Addr) (cap : Nat) (nodes : List Int) (a2 : Option Addr) (cap2 : Nat) (E : List (Int × Int)) (B : Nat) (w : World) (h : RefsAt w B a nodes) (h2 : EdgesAt w B a2 E) (hB : B ≤ w.heap.size) (hl : nodes.length * 8 ≤ 140737488355328) (hl2 : E.length * 16 ≤ 140737488355328) :
    Calls Try.prog 4 #[.slice a nodes.length cap, .slice a2 E.length cap2] w fun e w' => ∃ p d, e = .returned (.tuple #[.pointer p, .pointer d, .bool true]) ∧ MdE w nodes E p d w' := by
  obtain ⟨i0, hi, hz0, hz1, hz2⟩ := info_parts Try.infoEd
  have hh := hand_any a cap nodes B w h hB hl
  have HN : Hid (RefsAt w B a nodes) := h
  have HE : Hid (EdgesAt w B a2 E) := h2
  have HL : Hid (nodes.length * 8 ≤ 140737488355328 ∧ E.length * 16 ≤ 140737488355328) := ⟨hl, hl2⟩
  clear h h2 hl hl2
  go_enter Try.func4, Try.ntmps4
  go_wp2_with (first
    | (go_at_call 5; refine hh.mono ?_; rintro e w1 ⟨g, c, rfl, hg1, ho1, hb1⟩; have H1 : Hid (w.heap.size ≤ g ∧ OwnR w1 25 g (nodes.length + 1) c (rv (nodes ++ [99])) ∧ Below w.heap.size w w1) := ⟨hg1, ho1, hb1⟩; clear hg1 ho1 hb1 hh)
    | (at_builtin; have hq := HO2.out; have hll := HL.out; obtain ⟨ge3, ce3, w3, hap3, ho3, hgr3, hor3⟩ := run_appK (P := Try.prog) (w2.alloc (.cells #[.int .u64 99, .int .u64 0] 41)) 23 23 23 41 i0 (.agg #[.int .u64 0, .int .u64 0]) 2 16 Try.undEd hi hz0 hz1 hz2 rfl ge2 E.length ce2 (ev E) (HO2.out.keep (Below.heap_alloc _ _ _ HO2.out.lt)) _ 1 [.int .u64 99, .int .u64 0] (Src.ofSlice _ Try.undEd ⟨w2.heap.size, 0, none⟩ 1 1 [.int .u64 99, .int .u64 0] rfl (cell_two_new w2 41 (.int .u64 99) (.int .u64 0)) (fun u hu => by simp at hu; rcases hu with rfl | rfl <;> rfl)) (by omega) (by decide); refine wpList_ranS _ rfl _ _ 23 23 rfl _ _ _ _ rfl rfl hap3 ?_; have HO3 : Hid (OwnK w3 41 2 ge3 (E.length + 1) ce3 (ev E ++ [.int .u64 99, .int .u64 0])) := ho3; have HB3 : Hid (Below w1.heap.size w1 w3 ∧ w1.heap.size ≤ ge3) := ⟨(HB2.out.1.alloc HB2.out.1.size _).grown hgr3 (HB2.out.1.alloc HB2.out.1.size _).size (fun m hm => by have := HB2.out.2; simp at hm; omega), (by have := HB2.out.2; have := (HB2.out.1.alloc HB2.out.1.size (.cells #[.int .u64 99, .int .u64 0] 41)).size; rcases hor3 with h | h <;> omega)⟩; clear ho3 hgr3 hor3 hap3 hll)
    | (at_builtin; have hq := H1.out; have hll := HL.out; obtain ⟨ge2, ce2, w2, hap2, ho2, hgr2, hor2⟩ := run_appK (P := Try.prog) (w1.alloc (.cells #[] 41)) 23 23 23 41 i0 (.agg #[.int .u64 0, .int .u64 0]) 2 16 Try.undEd hi hz0 hz1 hz2 rfl w1.heap.size 0 0 [] (OwnK.alloc0 w1 _ _) _ E.length (ev E) ((HE.out.keep (fun k hk => (H1.out.2.2.alloc H1.out.2.2.size (.cells #[] 41)).block k (by omega))).src cap2) (by omega) (by decide); refine wpList_ranS _ rfl _ _ 23 23 rfl _ _ _ _ rfl rfl hap2 ?_; have HO2 : Hid (OwnK w2 41 2 ge2 E.length ce2 (ev E)) := (by rw [Nat.zero_add, List.nil_append] at ho2; exact ho2); have HB2 : Hid (Below w1.heap.size w1 w2 ∧ w1.heap.size ≤ ge2) := ⟨((Below.refl _ _).alloc (Nat.le_refl _) _).grown hgr2 (by simp) (fun m hm => by simp at hm; omega), (by rw [al_size] at hor2; omega)⟩; clear ho2 hgr2 hor2 hap2 hll))
  have H3 : Hid (Below w.heap.size w w3) := H1.out.2.2.trans (HB3.out.1.mono H1.out.2.2.size)
  have HO1 : Hid (OwnR w3 25 g (nodes.length + 1) c (rv (nodes ++ [99]))) := H1.out.2.1.keep (HB3.out.1.block g H1.out.2.1.lt)
  have HGE : Hid (w.heap.size ≤ g ∧ w.heap.size ≤ ge3 ∧ g ≠ ge3 ∧ g < w3.heap.size ∧ ge3 < w3.heap.size) := ⟨H1.out.1, Nat.le_trans H1.out.2.2.size HB3.out.2, by have := H1.out.2.1.lt; have := HB3.out.2; omega, HO1.out.lt, HO3.out.lt⟩
  have hcap1 : nodes.length + 1 ≤ c := by obtain ⟨cur, _, h2, _⟩ := HO1.out.blk; exact h2
  have hcap2 : E.length + 1 ≤ ce3 := by obtain ⟨cur, _, h2, _⟩ := HO3.out.blk; exact h2
  have hcap1b : nodes.length ≤ c := by omega
  have hcap2b : E.length ≤ ce3 := by omega
  have HMk : Hid (∀ W : World, W.heap = w3.heap → Calls Try.prog 16 #[.slice (some ⟨g, 0, none⟩) nodes.length c, .slice (some ⟨ge3, 0, none⟩) E.length ce3] W fun e w' => ∃ p, e = .returned (.tuple #[.pointer p, .int .i64 (Sp.mkE nodes E)]) ∧ MkE W nodes E p w') := fun W hW => by
    refine Make_any _ c nodes _ ce3 E W.heap.size W ⟨fun t x hx => ⟨g, 0, rfl, ?_, ?_⟩, fun _ => .inr ⟨g, 0, rfl⟩, HN.out.bd⟩ ⟨fun t e he => ⟨ge3, 0, rfl, ?_, ?_, ?_⟩, fun _ => .inr ⟨ge3, 0, rfl⟩, HE.out.bd⟩ (Nat.le_refl _) HL.out.1 HL.out.2
    · rw [hW]; exact HO1.out.lt
    · rw [Nat.zero_add]
      have ht : t < nodes.length := by have := (List.getElem?_eq_some_iff.1 hx).1; simpa using this
      refine (HO1.out.keep (by rw [hW])).cell ?_
      rw [rv, List.map_append, List.getElem?_append_left (by simpa using ht)]; exact hx
    · rw [hW]; exact HO3.out.lt
    · rw [Nat.zero_add]
      have ht := (List.getElem?_eq_some_iff.1 he).1
      refine (HO3.out.keep (by rw [hW])).cell ?_
      rw [List.getElem?_append_left (by rw [ev_len]; omega)]; exact (ev_get E t e he).1
    · rw [Nat.zero_add]
      have ht := (List.getElem?_eq_some_iff.1 he).1
      refine (HO3.out.keep (by rw [hW])).cell ?_
      rw [List.getElem?_append_left (by rw [ev_len]; omega)]; exact (ev_get E t e he).2
  clear H1 HO2 HB2 HB3
  refine wp_region_mark (fun _ => True) 8 (by kernel_rfl) ?_
  refine tkF (i := 0) (v := ?_) rfl (by kernel_rfl) (by rfl) ?_ (.inr trivial) ?_
  rotate_left
  · intro W hSw; go_simp; try (with_reducible rfl)
  simp only [Act.put, lsA, lsB, lsC]
  refine tkF (i := 1) (v := ?_) rfl (by kernel_rfl) (by rfl) ?_ (.inr trivial) ?_
  rotate_left
  · intro W hSw; go_simp; try (with_reducible rfl)
  simp only [Act.put, lsA, lsB, lsC]
  refine tkF (i := 2) (v := ?_) rfl (by kernel_rfl) (by rfl) ?_ (.inr trivial) ?_
  rotate_left
  · intro W hSw; go_simp; try (with_reducible rfl)
  simp only [Act.put, lsA, lsB, lsC]
  refine tkF (i := 3) (v := ?_) rfl (by kernel_rfl) (by rfl) ?_ (.inr trivial) ?_
  rotate_left
  · intro W hSw; go_simp; try (with_reducible rfl)
  simp only [Act.put, lsA, lsB, lsC]
  refine tkF (i := 4) (v := ?_) rfl (by kernel_rfl) (by rfl) ?_ (.inr trivial) ?_
  rotate_left
  · intro W hSw; go_simp; try (with_reducible rfl)
  simp only [Act.put, lsA, lsB, lsC]
  refine tkF (i := 5) (v := ?_) rfl (by kernel_rfl) (by rfl) ?_ (.inr trivial) ?_
  rotate_left
  · intro W hSw; go_simp; try (with_reducible rfl)
  simp only [Act.put, lsA, lsB, lsC]
  refine tkF (i := 6) (v := ?_) rfl (by kernel_rfl) (by rfl) ?_ (.inr trivial) ?_
  rotate_left
  · intro W hSw; go_simp; try (with_reducible rfl)
  simp only [Act.put, lsA, lsB, lsC]
  refine tkF (i := 7) (v := ?_) rfl (by kernel_rfl) (by rfl) ?_ (.inr trivial) ?_
  rotate_left
  · intro W hSw; go_simp; try (with_reducible rfl)
  simp only [Act.put, lsA, lsB, lsC]
  refine tkO (i := 8) (by kernel_rfl) rfl (fun K hK => ?_)
  go_simp
  refine (HMk.out w3.drew rfl).mono ?_
  rintro e w4 ⟨p, rfl, hmk⟩
  have HMK : Hid (MkE w3 nodes E p w4) := ⟨⟨hmk.1.os, hmk.1.tape, hmk.1.output, hmk.1.size, hmk.1.block⟩, hmk.2.1, hmk.2.2⟩
  clear hmk
  go_wp2_with fail
  refine hK.out _ _ (.inl (by kernel_rfl)) ?_
  clear hK K
  try simp only [Act.put, lsA, lsB, lsC]
  refine tkF (i := 9) (v := ?_) rfl (by kernel_rfl) (by rfl) ?_ (.inl (by kernel_rfl)) ?_
  rotate_left
  · intro W hSw; go_simp; try (with_reducible rfl)
  simp only [Act.put, lsA, lsB, lsC]
  refine tkF (i := 10) (v := ?_) rfl (by kernel_rfl) (by rfl) ?_ (.inl (by kernel_rfl)) ?_
  rotate_left
  · intro W hSw; go_simp; try (with_reducible rfl)
  simp only [Act.put, lsA, lsB, lsC]
  refine tkF (i := 11) (v := ?_) rfl (by kernel_rfl) (by rfl) ?_ (.inl (by kernel_rfl)) ?_
  rotate_left
  · intro W hSw; go_simp; try (with_reducible rfl)
  simp only [Act.put, lsA, lsB, lsC]
  refine tkF (i := 12) (v := ?_) rfl (by kernel_rfl) (by rfl) ?_ (.inl (by kernel_rfl)) ?_
  rotate_left
  · intro W hSw; go_simp; try (with_reducible rfl)
  simp only [Act.put, lsA, lsB, lsC]
  refine tkF (i := 13) (v := ?_) rfl (by kernel_rfl) (by rfl) ?_ (.inl (by kernel_rfl)) ?_
  rotate_left
  · intro W hSw; go_simp; try (with_reducible rfl)
  simp only [Act.put, lsA, lsB, lsC]
  refine wpAnyM_done (by kernel_rfl) ?_ _
  have h4 := HMK.out.1
  have hs3 := H3.out.size
  have H4 : Hid (Below w.heap.size w w4) := H3.out.trans (h4.mono hs3)
  have hmr := Make_ref a cap nodes a2 cap2 E B w4 (HN.out.keep (H4.out.mono hB)) (HE.out.keep fun k hk => H4.out.block k (by omega)) (Nat.le_trans hB H4.out.size)
  clear h4 hs3 HMk
  go_wp2_with fail
  refine hmr.mono ?_
  rintro e w5 ⟨d, rfl, hm5⟩
  have HR5 : Hid (MkR w4 nodes E d w5) := hm5
  have H5 : Hid (Below w.heap.size w w5) := H4.out.trans (hm5.1.mono H4.out.size)
  have HK5 : Hid (Below w3.heap.size w3 w5) := HMK.out.1.trans (hm5.1.mono HMK.out.1.size)
  have hlf := left_any g c a cap nodes B w5 (HN.out.keep (H5.out.mono hB)) (Nat.le_trans hB H5.out.size) (HO1.out.keep (HK5.out.block g HO1.out.lt)) HL.out.1
  have HO5 : Hid (OwnK w5 41 2 ge3 (E.length + 1) ce3 (ev E ++ [.int .u64 99, .int .u64 0])) := HO3.out.keep (HK5.out.block ge3 HO3.out.lt)
  have HO5r : Hid (OwnR w5 25 g (nodes.length + 1) c (rv (nodes ++ [99]))) := HO1.out.keep (HK5.out.block g HO1.out.lt)
  clear hm5 hmr HO1 HO3
  have hneq := neq_ed
  have HPD : Hid ((p = none ∧ d = none) ∨ ∃ q r, p = some q ∧ d = some r) := by
    by_cases h0 : Sp.mkE nodes E = 0
    · obtain ⟨gb, h1, _⟩ := HMK.out.2.1 h0
      obtain ⟨db, h2, _⟩ := HR5.out.2.1 h0
      exact .inr ⟨_, _, h1, h2⟩
    · exact .inl ⟨HMK.out.2.2 h0, HR5.out.2.2 h0⟩
  have h99 : ∀ W, Below w5.heap.size w5 W → W.cell? ⟨ge3, E.length * 2, none⟩ = some (.int .u64 99) ∧ W.cell? ⟨ge3, E.length * 2 + 1, none⟩ = some (.int .u64 0) := fun W hW => by
    have ho := HO5.out.keep (hW.block ge3 HO5.out.lt)
    exact ⟨ho.cell (by rw [List.getElem?_append_right (by rw [ev_len]; omega), ev_len]; simp), ho.cell (by rw [List.getElem?_append_right (by rw [ev_len]; omega), ev_len]; simp)⟩
  have H99 : Hid (∀ W, Below w5.heap.size w5 W → W.cell? ⟨ge3, E.length * 2, none⟩ = some (.int .u64 99) ∧ W.cell? ⟨ge3, E.length * 2 + 1, none⟩ = some (.int .u64 0)) := h99
  clear h99
  obtain ⟨k0, hk0⟩ : ∃ k0, Sp.mkE nodes E = k0 := ⟨_, rfl⟩
  rw [hk0]
  clear hk0
  rcases HPD.out with ⟨rfl, rfl⟩ | ⟨q, r, rfl, rfl⟩
  · clear HPD
    go_wp2_with (go_at_call 15; refine hlf.mono ?_; rintro e w6 ⟨rfl, hb6⟩; have H6 : Hid (Below w5.heap.size w5 w6) := hb6; obtain ⟨q0, q1⟩ := H99.out w6 hb6; clear hb6)
    clear q0 q1 hlf
    go_loopw [13] (fun v13 wr => ∃ i : Nat, v13 = .int .i64 i ∧ i ≤ E.length ∧ Hid (Kw (fun k => k = ge3) w6 wr ∧ ∃ xs, OwnK wr 41 2 ge3 (E.length + 1) ce3 xs ∧ ∀ t e, i ≤ t → E[t]? = some e → xs[t * 2]? = some (.int .u64 e.1) ∧ xs[t * 2 + 1]? = some (.int .u64 e.2))) (fun v13 _ => E.length - (intOf v13).toNat)
    case atStart =>
      refine ⟨0, rfl, Nat.zero_le _, Kw.refl _ _, _, HO5.out.keep (H6.out.block ge3 HO5.out.lt), fun t e _ he => ?_⟩
      have ht := (List.getElem?_eq_some_iff.1 he).1
      rw [List.getElem?_append_left (by rw [ev_len]; omega), List.getElem?_append_left (by rw [ev_len]; omega)]
      exact ev_get E t e he
    case round =>
      obtain ⟨i, rfl, hil, HR⟩ := hrel
      by_cases hlt : i < E.length
      · have hltz : (i : Int) < (E.length : Int) := by omega
        have hEb := HL.out.2
        obtain ⟨e, he⟩ : ∃ e, E[i]? = some e := ⟨_, List.getElem?_eq_getElem hlt⟩
        obtain ⟨hkw, xs, hown, hxs⟩ := HR.out
        have HWB : Hid (Below w.heap.size w wr) := ⟨hkw.os.trans (H6.out.os.trans H5.out.os), hkw.tape.trans (H6.out.tape.trans H5.out.tape), hkw.output.trans (H6.out.output.trans H5.out.output), Nat.le_trans H5.out.size (Nat.le_trans H6.out.size hkw.size), fun k hk => (hkw.block k (Nat.lt_of_lt_of_le hk (Nat.le_trans H5.out.size H6.out.size)) (by have := HGE.out; omega)).trans ((H6.out.block k (Nat.lt_of_lt_of_le hk H5.out.size)).trans (H5.out.block k hk))⟩
        obtain ⟨b, o, rfl, hb, hc1, hc2⟩ := (HE.out.keep (fun k hk => HWB.out.block k (by omega))).row i e he
        obtain ⟨x1, x2⟩ := hxs i e (Nat.le_refl _) he
        have hd1 : wr.cell? ⟨ge3, i * 2, none⟩ = some (.int .u64 e.1) := hown.cell x1
        have hd2 : wr.cell? ⟨ge3, i * 2 + 1, none⟩ = some (.int .u64 e.2) := hown.cell x2
        have hf : ∀ t, wr.frozen? ⟨ge3, t, none⟩ = false := fun t => hown.free t
        have hil2 : (i : Int) < ((E.length + 1 : Nat) : Int) := by omega
        have HND : Hid (Kw (fun k => k = ge3) w6 ((wr.setCell ⟨ge3, i * 2, none⟩ (.int .u64 4711)).setCell ⟨ge3, i * 2 + 1, none⟩ (.int .u64 0)) ∧ ∃ xs, OwnK ((wr.setCell ⟨ge3, i * 2, none⟩ (.int .u64 4711)).setCell ⟨ge3, i * 2 + 1, none⟩ (.int .u64 0)) 41 2 ge3 (E.length + 1) ce3 xs ∧ ∀ t e, i + 1 ≤ t → E[t]? = some e → xs[t * 2]? = some (.int .u64 e.1) ∧ xs[t * 2 + 1]? = some (.int .u64 e.2)) := by
          refine ⟨(hkw.set (M := fun k => k = ge3) (.inl rfl) _).set (.inl rfl) _, (xs.set (i * 2) (.int .u64 4711)).set (i * 2 + 1) (.int .u64 0), (hown.set _ _).set _ _, fun t e ht he' => ?_⟩
          obtain ⟨y1, y2⟩ := hxs t e (by omega) he'
          refine ⟨?_, ?_⟩
          · rw [List.getElem?_set_ne (by omega), List.getElem?_set_ne (by omega)]; exact y1
          · rw [List.getElem?_set_ne (by omega), List.getElem?_set_ne (by omega)]; exact y2
        have HNDq : Hid (∀ q, Kw (fun k => k = ge3) w6 (((wr.drewN q).setCell ⟨ge3, i * 2, none⟩ (.int .u64 4711)).setCell ⟨ge3, i * 2 + 1, none⟩ (.int .u64 0)) ∧ ∃ xs, OwnK (((wr.drewN q).setCell ⟨ge3, i * 2, none⟩ (.int .u64 4711)).setCell ⟨ge3, i * 2 + 1, none⟩ (.int .u64 0)) 41 2 ge3 (E.length + 1) ce3 xs ∧ ∀ t e, i + 1 ≤ t → E[t]? = some e → xs[t * 2]? = some (.int .u64 e.1) ∧ xs[t * 2 + 1]? = some (.int .u64 e.2)) := fun q => ⟨⟨HND.out.1.os, HND.out.1.tape, HND.out.1.output, HND.out.1.size, HND.out.1.block⟩, by obtain ⟨xs, h1, h2⟩ := HND.out.2; exact ⟨xs, h1.keep rfl, h2⟩⟩
        obtain ⟨ex, ey⟩ := e
        simp only at hc1 hc2 hd1 hd2
        clear hkw hown hxs x1 x2 he HR HND HWB
        go_wp2_with fail
        go_big_quiet (fail)
        go_wp2_with fail
        go_roundw
        case rel => exact ⟨i + 1, by go_num, by omega, HNDq.out nq⟩
        case measure => simp [intOf]; omega
      · obtain rfl : i = E.length := by omega
        have HK6 : Hid (Kw (fun k => k = ge3) w6 wr) := HR.out.1
        clear HR
        go_wp2_with fail
        go_loopw [14] (fun v14 wr2 => ∃ i : Nat, v14 = .int .i64 i ∧ i ≤ nodes.length ∧ Hid (Kw (fun k => k = ge3 ∨ k = g) w6 wr2 ∧ ∃ xs, OwnR wr2 25 g (nodes.length + 1) c xs)) (fun v14 _ => nodes.length - (intOf v14).toNat)
        case atStart => exact ⟨0, rfl, Nat.zero_le _, HK6.out.mono (fun _ h => .inl h), _, (HO5r.out.keep (H6.out.block g HO5r.out.lt)).keep (HK6.out.block g (by have := HO5r.out.lt; have := H6.out.size; omega) (by have := HGE.out; omega))⟩
        case round =>
          obtain ⟨i, rfl, hin, HR⟩ := hrel
          by_cases hlt : i < nodes.length
          · have hltz : (i : Int) < (nodes.length : Int) := by omega
            have hNb := HL.out.1
            obtain ⟨hkw, xs, hown⟩ := HR.out
            obtain ⟨u, hu⟩ : ∃ u, xs[i]? = some u := ⟨_, List.getElem?_eq_getElem (by rw [hown.len]; omega)⟩
            have hcx : wr.cell? ⟨g, i, none⟩ = some u := hown.cell hu
            have hf : wr.frozen? ⟨g, i, none⟩ = false := hown.free i
            have hil2 : (i : Int) < ((nodes.length + 1 : Nat) : Int) := by omega
            have HND : Hid (Kw (fun k => k = ge3 ∨ k = g) w6 (wr.setCell ⟨g, i, none⟩ (.int .u64 4711)) ∧ ∃ xs, OwnR (wr.setCell ⟨g, i, none⟩ (.int .u64 4711)) 25 g (nodes.length + 1) c xs) := ⟨hkw.set (M := fun k => k = ge3 ∨ k = g) (.inl (.inr rfl)) _, _, hown.set _ _⟩
            clear hkw hown hu HR
            go_wp2_with fail
            go_roundw
            case rel => exact ⟨i + 1, by go_num, by omega, HND.out⟩
            case measure => simp [intOf]; omega
          · obtain rfl : i = nodes.length := by omega
            have HF : Hid (MdE w nodes E none none wr) := by
              have hkw := HR.out.1
              have hge := HGE.out
              refine MdE.of H3.out HMK.out HR5.out ⟨hkw.os.trans (H6.out.os.trans H5.out.os), hkw.tape.trans (H6.out.tape.trans H5.out.tape), hkw.output.trans (H6.out.output.trans H5.out.output), Nat.le_trans H5.out.size (Nat.le_trans H6.out.size hkw.size), fun k hk => (hkw.block k (Nat.lt_of_lt_of_le hk (Nat.le_trans H5.out.size H6.out.size)) (by omega)).trans ((H6.out.block k (Nat.lt_of_lt_of_le hk H5.out.size)).trans (H5.out.block k hk))⟩ (Nat.le_trans H6.out.size hkw.size) fun k h1 h2 => (hkw.block k (Nat.lt_of_lt_of_le h2 H6.out.size) (by omega)).trans (H6.out.block k h2)
            clear HR
            go_wp2_with fail
            refine bodyPost_ret (v := .tuple #[.pointer none, .pointer none, .bool true]) (by simp [results, Try.results4, go_sem] <;> rfl) rfl ?_
            exact ⟨_, _, rfl, HF.out⟩
  · clear HPD
    go_wp2_with (go_at_call 15; refine hlf.mono ?_; rintro e w6 ⟨rfl, hb6⟩; have H6 : Hid (Below w5.heap.size w5 w6) := hb6; obtain ⟨q0, q1⟩ := H99.out w6 hb6; clear hb6)
    clear q0 q1 hlf
    go_loopw [13] (fun v13 wr => ∃ i : Nat, v13 = .int .i64 i ∧ i ≤ E.length ∧ Hid (Kw (fun k => k = ge3) w6 wr ∧ ∃ xs, OwnK wr 41 2 ge3 (E.length + 1) ce3 xs ∧ ∀ t e, i ≤ t → E[t]? = some e → xs[t * 2]? = some (.int .u64 e.1) ∧ xs[t * 2 + 1]? = some (.int .u64 e.2))) (fun v13 _ => E.length - (intOf v13).toNat)
    case atStart =>
      refine ⟨0, rfl, Nat.zero_le _, Kw.refl _ _, _, HO5.out.keep (H6.out.block ge3 HO5.out.lt), fun t e _ he => ?_⟩
      have ht := (List.getElem?_eq_some_iff.1 he).1
      rw [List.getElem?_append_left (by rw [ev_len]; omega), List.getElem?_append_left (by rw [ev_len]; omega)]
      exact ev_get E t e he
    case round =>
      obtain ⟨i, rfl, hil, HR⟩ := hrel
      by_cases hlt : i < E.length
      · have hltz : (i : Int) < (E.length : Int) := by omega
        have hEb := HL.out.2
        obtain ⟨e, he⟩ : ∃ e, E[i]? = some e := ⟨_, List.getElem?_eq_getElem hlt⟩
        obtain ⟨hkw, xs, hown, hxs⟩ := HR.out
        have HWB : Hid (Below w.heap.size w wr) := ⟨hkw.os.trans (H6.out.os.trans H5.out.os), hkw.tape.trans (H6.out.tape.trans H5.out.tape), hkw.output.trans (H6.out.output.trans H5.out.output), Nat.le_trans H5.out.size (Nat.le_trans H6.out.size hkw.size), fun k hk => (hkw.block k (Nat.lt_of_lt_of_le hk (Nat.le_trans H5.out.size H6.out.size)) (by have := HGE.out; omega)).trans ((H6.out.block k (Nat.lt_of_lt_of_le hk H5.out.size)).trans (H5.out.block k hk))⟩
        obtain ⟨b, o, rfl, hb, hc1, hc2⟩ := (HE.out.keep (fun k hk => HWB.out.block k (by omega))).row i e he
        obtain ⟨x1, x2⟩ := hxs i e (Nat.le_refl _) he
        have hd1 : wr.cell? ⟨ge3, i * 2, none⟩ = some (.int .u64 e.1) := hown.cell x1
        have hd2 : wr.cell? ⟨ge3, i * 2 + 1, none⟩ = some (.int .u64 e.2) := hown.cell x2
        have hf : ∀ t, wr.frozen? ⟨ge3, t, none⟩ = false := fun t => hown.free t
        have hil2 : (i : Int) < ((E.length + 1 : Nat) : Int) := by omega
        have HND : Hid (Kw (fun k => k = ge3) w6 ((wr.setCell ⟨ge3, i * 2, none⟩ (.int .u64 4711)).setCell ⟨ge3, i * 2 + 1, none⟩ (.int .u64 0)) ∧ ∃ xs, OwnK ((wr.setCell ⟨ge3, i * 2, none⟩ (.int .u64 4711)).setCell ⟨ge3, i * 2 + 1, none⟩ (.int .u64 0)) 41 2 ge3 (E.length + 1) ce3 xs ∧ ∀ t e, i + 1 ≤ t → E[t]? = some e → xs[t * 2]? = some (.int .u64 e.1) ∧ xs[t * 2 + 1]? = some (.int .u64 e.2)) := by
          refine ⟨(hkw.set (M := fun k => k = ge3) (.inl rfl) _).set (.inl rfl) _, (xs.set (i * 2) (.int .u64 4711)).set (i * 2 + 1) (.int .u64 0), (hown.set _ _).set _ _, fun t e ht he' => ?_⟩
          obtain ⟨y1, y2⟩ := hxs t e (by omega) he'
          refine ⟨?_, ?_⟩
          · rw [List.getElem?_set_ne (by omega), List.getElem?_set_ne (by omega)]; exact y1
          · rw [List.getElem?_set_ne (by omega), List.getElem?_set_ne (by omega)]; exact y2
        have HNDq : Hid (∀ q, Kw (fun k => k = ge3) w6 (((wr.drewN q).setCell ⟨ge3, i * 2, none⟩ (.int .u64 4711)).setCell ⟨ge3, i * 2 + 1, none⟩ (.int .u64 0)) ∧ ∃ xs, OwnK (((wr.drewN q).setCell ⟨ge3, i * 2, none⟩ (.int .u64 4711)).setCell ⟨ge3, i * 2 + 1, none⟩ (.int .u64 0)) 41 2 ge3 (E.length + 1) ce3 xs ∧ ∀ t e, i + 1 ≤ t → E[t]? = some e → xs[t * 2]? = some (.int .u64 e.1) ∧ xs[t * 2 + 1]? = some (.int .u64 e.2)) := fun q => ⟨⟨HND.out.1.os, HND.out.1.tape, HND.out.1.output, HND.out.1.size, HND.out.1.block⟩, by obtain ⟨xs, h1, h2⟩ := HND.out.2; exact ⟨xs, h1.keep rfl, h2⟩⟩
        obtain ⟨ex, ey⟩ := e
        simp only at hc1 hc2 hd1 hd2
        clear hkw hown hxs x1 x2 he HR HND HWB
        go_wp2_with fail
        go_big_quiet (fail)
        go_wp2_with fail
        go_roundw
        case rel => exact ⟨i + 1, by go_num, by omega, HNDq.out nq⟩
        case measure => simp [intOf]; omega
      · obtain rfl : i = E.length := by omega
        have HK6 : Hid (Kw (fun k => k = ge3) w6 wr) := HR.out.1
        clear HR
        go_wp2_with fail
        go_loopw [14] (fun v14 wr2 => ∃ i : Nat, v14 = .int .i64 i ∧ i ≤ nodes.length ∧ Hid (Kw (fun k => k = ge3 ∨ k = g) w6 wr2 ∧ ∃ xs, OwnR wr2 25 g (nodes.length + 1) c xs)) (fun v14 _ => nodes.length - (intOf v14).toNat)
        case atStart => exact ⟨0, rfl, Nat.zero_le _, HK6.out.mono (fun _ h => .inl h), _, (HO5r.out.keep (H6.out.block g HO5r.out.lt)).keep (HK6.out.block g (by have := HO5r.out.lt; have := H6.out.size; omega) (by have := HGE.out; omega))⟩
        case round =>
          obtain ⟨i, rfl, hin, HR⟩ := hrel
          by_cases hlt : i < nodes.length
          · have hltz : (i : Int) < (nodes.length : Int) := by omega
            have hNb := HL.out.1
            obtain ⟨hkw, xs, hown⟩ := HR.out
            obtain ⟨u, hu⟩ : ∃ u, xs[i]? = some u := ⟨_, List.getElem?_eq_getElem (by rw [hown.len]; omega)⟩
            have hcx : wr.cell? ⟨g, i, none⟩ = some u := hown.cell hu
            have hf : wr.frozen? ⟨g, i, none⟩ = false := hown.free i
            have hil2 : (i : Int) < ((nodes.length + 1 : Nat) : Int) := by omega
            have HND : Hid (Kw (fun k => k = ge3 ∨ k = g) w6 (wr.setCell ⟨g, i, none⟩ (.int .u64 4711)) ∧ ∃ xs, OwnR (wr.setCell ⟨g, i, none⟩ (.int .u64 4711)) 25 g (nodes.length + 1) c xs) := ⟨hkw.set (M := fun k => k = ge3 ∨ k = g) (.inl (.inr rfl)) _, _, hown.set _ _⟩
            clear hkw hown hu HR
            go_wp2_with fail
            go_roundw
            case rel => exact ⟨i + 1, by go_num, by omega, HND.out⟩
            case measure => simp [intOf]; omega
          · obtain rfl : i = nodes.length := by omega
            have HF : Hid (MdE w nodes E (some q) (some r) wr) := by
              have hkw := HR.out.1
              have hge := HGE.out
              refine MdE.of H3.out HMK.out HR5.out ⟨hkw.os.trans (H6.out.os.trans H5.out.os), hkw.tape.trans (H6.out.tape.trans H5.out.tape), hkw.output.trans (H6.out.output.trans H5.out.output), Nat.le_trans H5.out.size (Nat.le_trans H6.out.size hkw.size), fun k hk => (hkw.block k (Nat.lt_of_lt_of_le hk (Nat.le_trans H5.out.size H6.out.size)) (by omega)).trans ((H6.out.block k (Nat.lt_of_lt_of_le hk H5.out.size)).trans (H5.out.block k hk))⟩ (Nat.le_trans H6.out.size hkw.size) fun k h1 h2 => (hkw.block k (Nat.lt_of_lt_of_le h2 H6.out.size) (by omega)).trans (H6.out.block k h2)
            clear HR
            go_wp2_with fail
            refine bodyPost_ret (v := .tuple #[.pointer (some q), .pointer (some r), .bool true]) (by simp [results, Try.results4, go_sem] <;> rfl) rfl ?_
            exact ⟨_, _, rfl, HF.out⟩
end Go.Proofs.Ytilhheianbbbjaa

