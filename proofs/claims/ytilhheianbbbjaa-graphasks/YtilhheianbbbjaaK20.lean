/- tenonref14.Make: the document's graph of any nodes and edges. -/
import Derived.Test.YtilhheianbbbjaaK19
import Derived.Test.YtilhheianbbbjaaK16
namespace Go.Proofs.Ytilhheianbbbjaa
open Go.RowKit Go.ChangeMaps

theorem mk_rows (n : Nat) (hn : n ≤ 4096) : ∃ Z : Array Value, (∀ W : World, (Instr.makeSlice 64 (.int .i64 (n : Int)) (.int .i64 (n : Int))).run Try.prog W = .ok (.slice (some ⟨W.heap.size, 0, none⟩) n n) (W.alloc (.cells Z 46))) ∧ Z.size = n ∧ ∀ t, t < n → Z[t]? = some (.slice none 0 0) := by
  obtain ⟨i0, hi, hz0, hz1, hz2⟩ := info_parts Try.infoSl
  obtain ⟨Z, hM⟩ : ∃ Z, Z = madeCells (Value.slice none 0 0).cells (((n : Nat) : Int).toNat * i0.size) := ⟨_, rfl⟩
  have hMs : Z.size = n := by rw [hM, size_madeCells, hz1]; simp
  have hMt : ∀ t, t < n → Z[t]? = some (.slice none 0 0) := fun t ht => by rw [hM]; simp [madeCells, hz1, ht, Value.cells, Nat.mod_one]
  refine ⟨Z, fun W => ?_, hMs, hMt⟩
  have h := run_make (P := Try.prog) W 64 46 i0 (.slice none 0 0) Try.undSS hi hz0 .i64 .i64 (n : Int) (n : Int) (by omega) (by omega) (by rw [hz2]; omega) (by omega)
  rw [← hM] at h; simpa using h

set_option maxRecDepth 100000 in
set_option maxHeartbeats 16000000 in
theorem Make_ref (a : Option Addr) (cap : Nat) (nodes : List Int) (a2 : Option Addr) (cap2 : Nat) (E : List (Int × Int)) (B : Nat) (w : World) (h : RefsAt w B a nodes) (h2 : EdgesAt w B a2 E) (hB : B ≤ w.heap.size) :
    Calls Try.prog 17 #[.slice a nodes.length cap, .slice a2 E.length cap2] w fun e w' => ∃ p, e = .returned (.tuple #[.pointer p, .int .i64 (Sp.mkE nodes E)]) ∧ MkR w nodes E p w' := by
  by_cases hL : 4096 < nodes.length ∨ 16384 < E.length
  · have hk : Sp.mkE nodes E = 2 := by unfold Sp.mkE; rw [if_pos hL]
    rw [hk]
    have HK : Hid (MkR w nodes E none w) := ⟨Below.refl _ _, (fun h => by rw [hk] at h; cases h), fun _ => rfl⟩
    clear hk
    by_cases h1 : 4096 < nodes.length
    · have h1z : (4096 : Int) < (nodes.length : Int) := by omega
      go_enter Try.func17, Try.ntmps17
      go_wp2_with fail
      go_ret2
      exact ⟨none, rfl, HK.out⟩
    · have h1z : ¬ (4096 : Int) < (nodes.length : Int) := by omega
      have h2z : (16384 : Int) < (E.length : Int) := by omega
      go_enter Try.func17, Try.ntmps17
      go_wp2_with fail
      go_ret2
      exact ⟨none, rfl, HK.out⟩
  have h1z : ¬ (4096 : Int) < (nodes.length : Int) := by omega
  have h2z : ¬ (16384 : Int) < (E.length : Int) := by omega
  have hnl : nodes.length ≤ 4096 := by omega
  have hel : E.length ≤ 16384 := by omega
  have HH : Hid (RefsAt w B a nodes) := h
  have HE : Hid (EdgesAt w B a2 E) := h2
  have HKE : Hid (((0 : Int) ∈ nodes ∨ ¬ nodes.Nodup → Sp.mkE nodes E = 1) ∧ ((0 : Int) ∉ nodes → nodes.Nodup → Sp.mkE nodes E = if ∃ e ∈ E, e.1 ∉ nodes ∨ e.2 ∉ nodes then 140 else 0)) := by
    refine ⟨fun hb => ?_, fun h0 hn => ?_⟩
    · unfold Sp.mkE; rw [if_neg hL, if_pos hb]
    · unfold Sp.mkE; rw [if_neg hL, if_neg (by rintro (hb | hb); exact h0 hb; exact hb hn)]
  clear h h2 hL
  obtain ⟨i0, hi, hz0, hz1, hz2⟩ := info_parts Try.infoRf
  have hzero : ∀ W : World, (W.alloc (.cells #[.slice none 0 0, .slice none 0 0, .slice none 0 0] 70)).heap[W.heap.size]? = some (.cells #[.slice none 0 0, .slice none 0 0, .slice none 0 0] 70 (0, 0)) := fun W => heap_alloc_new _ _
  have H0 : Hid (M1 w w.heap.size nodes 0 (w.alloc (.cells #[.slice none 0 0, .slice none 0 0, .slice none 0 0] 70))) := by
    refine ⟨none, 0, ⟨by simpa [Sp.srt, adr] using hzero w, ⟨fun _ => by simp [Sp.srt], fun g hg => by cases hg⟩, fun _ => rfl, ⟨Nat.le_refl _, fun g hg => by cases hg⟩, (Below.refl _ _).alloc (Nat.le_refl _) _⟩, by simp, by simp⟩
  clear hzero
  go_enter Try.func17, Try.ntmps17
  go_wp2_with fail
  go_loopw [7] (fun v7 wr => ∃ i : Nat, v7 = .int .i64 i ∧ i ≤ nodes.length ∧ Hid (M1 w w.heap.size nodes i wr)) (fun v7 _ => nodes.length - (intOf v7).toNat)
  case atStart => exact ⟨0, rfl, Nat.zero_le _, H0.out⟩
  case round =>
    obtain ⟨i, rfl, hil, HR⟩ := hrel
    obtain ⟨gs, c, hm, hn0, hnd⟩ := HR.out
    have HM : Hid (M1x w w.heap.size (Sp.srt (nodes.take i)) gs c wr) := hm
    have hlz : (Sp.srt (nodes.take i)).length = i := by rw [srt_len, List.length_take]; omega
    have hbel := hm.bel
    obtain ⟨N, hN⟩ : ∃ N, Sp.srt (nodes.take i) = N := ⟨_, rfl⟩
    rw [hN] at HM hm hlz
    have hNl : N.length ≤ 4096 := by omega
    have HLZ : Hid (N.length = i) := hlz
    clear hlz
    obtain ⟨hgl, hgc⟩ := hm.cell
    have HGC : Hid (∀ W : World, W.heap[w.heap.size]? = wr.heap[w.heap.size]? → W.cell? ⟨w.heap.size, 0, none⟩ = some (.slice (adr gs) N.length c) ∧ W.cell? ⟨w.heap.size, 2, none⟩ = some (.slice none 0 0) ∧ ∀ o, W.frozen? ⟨w.heap.size, o, none⟩ = false) := hgc
    obtain ⟨g0, g2, gf⟩ := hgc wr rfl
    clear hgc HR
    by_cases hlt : i < nodes.length
    · have hltz : (i : Int) < (nodes.length : Int) := by omega
      obtain ⟨x, hx⟩ : ∃ x, nodes[i]? = some x := ⟨_, List.getElem?_eq_getElem hlt⟩
      have htk : nodes.take (i + 1) = nodes.take i ++ [x] := by rw [List.take_add_one, hx]; rfl
      have hxm : x ∈ nodes := List.mem_of_getElem? hx
      obtain ⟨b, o, rfl, hb, _⟩ := HH.out.row i (.int .u64 x) (by simp [rv, hx])
      have HX : Hid (∀ W, Below w.heap.size w W → W.cell? ⟨b, o + i, none⟩ = some (.int .u64 x)) := fun W hW => by
        obtain ⟨b', o', e, _, h3⟩ := HH.out.row i (.int .u64 x) (by simp [rv, hx])
        simp at e
        obtain ⟨rfl, rfl⟩ := e
        rw [hW.cell (p := ⟨b, o + i, none⟩) (by show b < _; omega)]; exact h3
      have hpw : N.Pairwise (· < ·) := by rw [← hN]; exact srt_lt hnd
      have hxN : x ∈ N ↔ x ∈ nodes.take i := by rw [← hN]; exact srt_mem
      have hkl := fnd_le N x
      obtain ⟨k, hk⟩ : ∃ k, Sp.fnd N x = k := ⟨_, rfl⟩
      have HFD : Hid (∀ W : World, W.heap = wr.heap → Calls Try.prog 35 #[.slice (adr gs) N.length c, .int .u64 x] W fun e w' => e = .returned (.int .i64 (k : Nat)) ∧ w' = W) := fun W hW => by
        have := find_any gs c N x W (hm.nds.keep (fun g _ => by rw [hW])) hpw (by omega)
        rw [hk] at this
        exact this
      have HSN : Hid (x ∉ nodes.take i → Sp.srt (nodes.take (i + 1)) = N.take k ++ [x] ++ N.drop k) := fun hno => by
        rw [htk, srt_snoc hnd hno, hN, hk]
      have HFK : Hid (∀ t y, N[t]? = some y → (y < x ↔ t < k)) := fun t y hy => by rw [← hk]; exact fnd_iff hpw hy
      have hNk : ¬ x ∈ N ∨ N[k]? = some x := by
        by_cases hin : x ∈ N
        · right
          obtain ⟨t, ht⟩ := List.mem_iff_getElem?.1 hin
          have := fnd_at hpw ht
          rw [hk] at this
          subst this
          exact ht
        · exact .inl hin
      rw [hk] at hkl
      have hkz : (k : Int) ≤ (N.length : Int) := by omega
      have hx0 := HX.out wr hbel
      clear hk hm hpw
      have HBD : Hid ((0 : Int) ∈ nodes ∨ ¬ nodes.Nodup → ∃ p, (Value.tuple #[.pointer none, .int .i64 1]) = .tuple #[.pointer p, .int .i64 (Sp.mkE nodes E)] ∧ ∀ W, Below w.heap.size w W → MkR w nodes E p W) := fun hbad => by
        have hk1 := HKE.out.1 hbad
        exact ⟨none, by rw [hk1], fun W hW => ⟨hW, (fun h => by rw [hk1] at h; cases h), fun _ => rfl⟩⟩
      have HDU : Hid (x ∈ N → ¬ nodes.Nodup) := fun hin hd => by
        have h1 : (nodes.take (i + 1)).Nodup := hd.sublist (List.take_sublist _ _)
        rw [htk, List.nodup_append] at h1
        exact h1.2.2 x (hxN.1 hin) x (by simp) rfl
      go_wp2_with fail
      refine wp_region_mark (fun X => X.cell? ⟨w.heap.size, 0, none⟩ = some (.slice (adr gs) N.length c) ∧ X.cell? ⟨b, o + i, none⟩ = some (.int .u64 x)) 8 (by kernel_rfl) ?_
      have hHeld : wr.drew.cell? ⟨w.heap.size, 0, none⟩ = some (.slice (adr gs) N.length c) ∧ wr.drew.cell? ⟨b, o + i, none⟩ = some (.int .u64 x) := ⟨g0, hx0⟩
      refine tkF (i := 0) (v := ?_) rfl (by kernel_rfl) (by rfl) ?_ (.inr (by assumption)) ?_
      rotate_left
      · intro W hSw; go_simp; try (with_reducible rfl)
      simp only [Act.put, lsA, lsB, lsC]
      refine tkF (i := 1) (v := ?_) rfl (by kernel_rfl) (by rfl) ?_ (.inr (by assumption)) ?_
      rotate_left
      · intro W hSw; go_simp; try (with_reducible rfl)
      simp only [Act.put, lsA, lsB, lsC]
      refine tkF (i := 2) (v := ?_) rfl (by kernel_rfl) (by rfl) ?_ (.inr (by assumption)) ?_
      rotate_left
      · intro W hSw; go_simp; try (with_reducible rfl)
      simp only [Act.put, lsA, lsB, lsC]
      refine tkM (i := 3) (v := ?_) [] rfl (by kernel_rfl) (by rfl) ?_ (by assumption) ?_
      rotate_left
      · intro W hSw; (try dsimp only at hSw); go_simp; try (with_reducible rfl)
      simp only [Act.put, lsA, lsB, lsC]
      refine tkF (i := 4) (v := ?_) rfl (by kernel_rfl) (by rfl) ?_ (.inr (by assumption)) ?_
      rotate_left
      · intro W hSw; go_simp; try (with_reducible rfl)
      simp only [Act.put, lsA, lsB, lsC]
      refine tkF (i := 5) (v := ?_) rfl (by kernel_rfl) (by rfl) ?_ (.inr (by assumption)) ?_
      rotate_left
      · intro W hSw; go_simp; try (with_reducible rfl)
      simp only [Act.put, lsA, lsB, lsC]
      refine tkF (i := 6) (v := ?_) rfl (by kernel_rfl) (by rfl) ?_ (.inr (by assumption)) ?_
      rotate_left
      · intro W hSw; go_simp; try (with_reducible rfl)
      simp only [Act.put, lsA, lsB, lsC]
      refine tkM (i := 7) (v := ?_) [] rfl (by kernel_rfl) (by rfl) ?_ (by assumption) ?_
      rotate_left
      · intro W hSw; (try dsimp only at hSw); go_simp; try (with_reducible rfl)
      simp only [Act.put, lsA, lsB, lsC]
      refine tkO (i := 8) (by kernel_rfl) rfl (fun K hK => ?_)
      go_simp
      refine (HFD.out wr.drew rfl).mono ?_
      rintro e wz ⟨rfl, rfl⟩
      go_wp2_with fail
      refine hK.out _ _ (.inl (by kernel_rfl)) ?_
      clear hK K
      try simp only [Act.put, lsA, lsB, lsC]
      refine tkF (i := 9) (v := ?_) rfl (by kernel_rfl) (by rfl) ?_ (.inl (by kernel_rfl)) ?_
      rotate_left
      · intro W hSw; go_simp; try (with_reducible rfl)
      simp only [Act.put, lsA, lsB, lsC]
      refine wpAnyM_done (by kernel_rfl) ?_ _
      clear hHeld
      have hxq : (wr.drew).cell? ⟨b, o + i, none⟩ = some (.int .u64 x) := hx0
      have g0q : (wr.drew).cell? ⟨w.heap.size, 0, none⟩ = some (.slice (adr gs) N.length c) := g0
      have hbelq : Below w.heap.size w (wr.drew) := ⟨hbel.os, hbel.tape, hbel.output, hbel.size, hbel.block⟩
      have HMq : Hid (M1x w w.heap.size N gs c (wr.drew)) := ⟨HM.out.cells, HM.out.nds.keep (fun _ _ => rfl), HM.out.c0, HM.out.lo, hbelq⟩
      have HGq : Hid (∀ W : World, W.heap[w.heap.size]? = (wr.drew).heap[w.heap.size]? → W.cell? ⟨w.heap.size, 0, none⟩ = some (.slice (adr gs) N.length c) ∧ W.cell? ⟨w.heap.size, 2, none⟩ = some (.slice none 0 0) ∧ ∀ o, W.frozen? ⟨w.heap.size, o, none⟩ = false) := HGC.out
      clear hx0 g0 g2 gf hbel HM HFD HGC
      have hglq : w.heap.size < (wr.drew).heap.size := hgl
      clear hgl
      generalize wr.drew = W1 at hxq g0q hbelq HMq HGq hglq ⊢
      go_wp2_with fail
      have HBq : Hid (∀ q, Below w.heap.size w (W1.drewN q)) := fun q => ⟨hbelq.os, hbelq.tape, hbelq.output, hbelq.size, hbelq.block⟩
      by_cases hx00 : x = 0
      · subst hx00
        obtain ⟨p, hp1, hp2⟩ := HBD.out (.inl hxm)
        have HP : Hid (∀ q, ∃ p, (Value.tuple #[.pointer none, .int .i64 1]) = .tuple #[.pointer p, .int .i64 (Sp.mkE nodes E)] ∧ MkR w nodes E p (W1.drewN q)) := fun q => ⟨p, hp1, hp2 _ (HBq.out q)⟩
        clear hp1 hp2 HBD hNk HSN
        go_quiet (fail)
        go_wp2_with fail
        go_ret2
        obtain ⟨p, e1, e2⟩ := HP.out nq
        exact ⟨p, by rw [← e1]; rfl, e2⟩
      have hx0b : (x == 0) = false := by simpa using hx00
      by_cases hkn : k < N.length
      · have hknz : (k : Int) < (N.length : Int) := by omega
        obtain ⟨g, rfl⟩ : ∃ g, gs = some g := by
          cases gs with
          | some g => exact ⟨g, rfl⟩
          | none => have := HMq.out.nds.1 rfl; subst this; simp at hkn
        have ea : adr (some g) = some ⟨g, 0, none⟩ := rfl
        obtain ⟨y, hy⟩ : ∃ y, N[k]? = some y := ⟨_, List.getElem?_eq_getElem hkn⟩
        have hyc : W1.cell? ⟨g, k, none⟩ = some (.int .u64 y) := (HMq.out.nds.2 g rfl).cell (by simp [rv, hy])
        by_cases hyx : y = x
        · subst hyx
          obtain ⟨p, hp1, hp2⟩ := HBD.out (.inr (HDU.out (List.mem_of_getElem? hy)))
          have HP : Hid (∀ q, ∃ p, (Value.tuple #[.pointer none, .int .i64 1]) = .tuple #[.pointer p, .int .i64 (Sp.mkE nodes E)] ∧ MkR w nodes E p (W1.drewN q)) := fun q => ⟨p, hp1, hp2 _ (HBq.out q)⟩
          clear hp1 hp2 HBD hNk HSN hy
          go_quiet (fail)
          go_wp2_with fail
          go_ret2
          obtain ⟨p, e1, e2⟩ := HP.out nq
          exact ⟨p, by rw [← e1]; rfl, e2⟩
        · have hno : x ∉ N := by
            rcases hNk with h | h
            · exact h
            · rw [hy] at h; exact absurd (Option.some.inj h) hyx
          have hyxb : (y == x) = false := by simpa using hyx
          have hck : k < c := by obtain ⟨cur, _, h2, _⟩ := (HMq.out.nds.2 g rfl).blk; omega
          clear hy hNk HBD HDU
          go_quiet (fail)
          obtain ⟨W2, hW2⟩ : ∃ W2, W1.drewN nq = W2 := ⟨_, rfl⟩
          have hxq2 : W2.cell? ⟨b, o + i, none⟩ = some (.int .u64 x) := by rw [← hW2]; exact hxq
          have HM2 : Hid (M1x w w.heap.size N (some g) c W2) := by rw [← hW2]; exact ⟨HMq.out.cells, HMq.out.nds.keep (fun _ _ => rfl), HMq.out.c0, HMq.out.lo, HBq.out nq⟩
          have HG2 : Hid (∀ W : World, W.heap[w.heap.size]? = W2.heap[w.heap.size]? → W.cell? ⟨w.heap.size, 0, none⟩ = some (.slice (adr (some g)) N.length c) ∧ W.cell? ⟨w.heap.size, 2, none⟩ = some (.slice none 0 0) ∧ ∀ o, W.frozen? ⟨w.heap.size, o, none⟩ = false) := by rw [← hW2]; exact HGq.out
          have hgl2 : w.heap.size < W2.heap.size := by rw [← hW2]; exact hglq
          rw [hW2]
          clear hW2 hxq g0q HMq HGq hglq hbelq HBq hyc
          have e0 : ∀ o : Obj, (W2.alloc o).cell? ⟨w.heap.size, 0, none⟩ = some (.slice (adr (some g)) N.length c) := fun o => (HG2.out _ (Below.heap_alloc W2 o _ hgl2)).1
          have HOW : Hid (OwnR W2 25 g N.length c (rv N)) := HM2.out.nds.2 g rfl
          have hggl := HOW.out.lt
          have HS1 : Hid (Src Try.prog 1 22 (.slice (some ⟨g, 0, none⟩) k c) k (rv (N.take k)) (W2.alloc (.cells #[] 25))) := by
            refine Src.ofSlice _ Try.undRs ⟨g, 0, none⟩ k c (rv (N.take k)) (by simp [rv]; omega) (fun j u hj => ?_) (rv_one _)
            rw [addN, Nat.zero_add]
            obtain ⟨z, hz, rfl⟩ : ∃ z, N[j]? = some z ∧ u = .int .u64 z := by
              simp only [rv, List.getElem?_map, List.getElem?_take] at hj
              split at hj
              · obtain ⟨z, h1, h2⟩ := Option.map_eq_some_iff.1 hj; exact ⟨z, h1, h2.symm⟩
              · simp at hj
            exact (HOW.out.keep (Below.heap_alloc W2 (.cells #[] 25) g hggl)).cell (by simp [rv, hz])
          have HS3 : Hid (∀ W : World, Below W2.heap.size W2 W → Src Try.prog 1 22 (.slice (some ⟨g, k, none⟩) (N.length - k) (c - k)) (N.length - k) (rv (N.drop k)) W) := fun W hW => by
            refine Src.ofSlice _ Try.undRs ⟨g, k, none⟩ (N.length - k) (c - k) (rv (N.drop k)) (by simp [rv]) (fun j u hj => ?_) (rv_one _)
            rw [addN]
            obtain ⟨z, hz, rfl⟩ : ∃ z, N[k + j]? = some z ∧ u = .int .u64 z := by
              simp only [rv, List.getElem?_map, List.getElem?_drop] at hj
              obtain ⟨z, h1, h2⟩ := Option.map_eq_some_iff.1 hj; exact ⟨z, h1, h2.symm⟩
            exact (HOW.out.keep (hW.block g hggl)).cell (by simp [rv, hz])
          have HF : Hid (∀ g3 c3 w3, OwnR w3 25 g3 (k + 1 + (N.length - k)) c3 (rv (N.take k ++ [x] ++ N.drop k)) → Below W2.heap.size W2 w3 → W2.heap.size ≤ g3 → M1 w w.heap.size nodes (i + 1) (w3.setCell ⟨w.heap.size, 0, none⟩ (.slice (some ⟨g3, 0, none⟩) (k + 1 + (N.length - k)) c3))) := fun g3 c3 w3 ho hb hg => by
            have hno' : x ∉ nodes.take i := fun h => hno (hxN.2 h)
            have hsn : Sp.srt (nodes.take (i + 1)) = (N.take k ++ [x] ++ N.drop k) := by
              have := HSN.out hno'
              exact this
            have hlen : (N.take k ++ [x] ++ N.drop k).length = (k + 1 + (N.length - k)) := by simp; omega
            refine ⟨some g3, c3, ?_, ?_, ?_⟩
            · rw [hsn, ← hlen]
              exact HM2.out.step (by rw [hlen]; exact ho) hb hg
            · rw [htk, List.mem_append, List.mem_singleton]
              rintro (h | h)
              · exact hn0 h
              · exact hx00 h.symm
            · rw [htk, List.nodup_append]
              exact ⟨hnd, by simp, fun a ha b hb => by simp at hb; subst hb; exact fun e => hno' (e ▸ ha)⟩
          have HXW : Hid (∀ W, Below W2.heap.size W2 W → W.cell? ⟨b, o + i, none⟩ = some (.int .u64 x)) := fun W hW => HX.out W (HM2.out.bel.trans (hW.mono HM2.out.bel.size))
          clear HM2 HSN hxN HX hnd hn0 htk hno
          go_wp2_with (first
            | (at_builtin; have hq := HO2.out; have hB2 := HB2.out.1; refine wpList_appS _ rfl _ _ 22 22 rfl 25 i0 (.int .u64 0) 8 Try.undRs hi hz0 hz1 hz2 rfl g2 _ c2 _ rfl HO2.out _ (N.length - k) (rv (N.drop k)) rfl (HS3.out w2 HB2.out.1) (by omega) (by decide) ?_; intro g3 c3 w3 ho3 hg3 hor3; have HB3 : Hid (Below W2.heap.size W2 w3 ∧ W2.heap.size ≤ g3) := ⟨HB2.out.1.grown hg3 HB2.out.1.size (fun m hm => by have := HB2.out.2; simp at hm; omega), (by have := HB2.out.2; have := HB2.out.1.size; rcases hor3 with h | h <;> omega)⟩; have n0 := (HG2.out w3 (HB3.out.1.block _ hgl2)).1; have nf := (HG2.out w3 (HB3.out.1.block _ hgl2)).2.2; have HFz := HF.out g3 c3 w3 (by simpa [rv] using ho3) HB3.out.1 HB3.out.2; have HFi : Hid _ := HFz; clear ho3 hg3 hor3 HFz)
            | (at_builtin; have hq := HO1.out; have hx1 := HXW.out w1 HB1.out.1; refine wpList_appS _ rfl _ _ 22 22 rfl 25 i0 (.int .u64 0) 8 Try.undRs hi hz0 hz1 hz2 rfl g1 _ c1 _ rfl (HO1.out.keep (Below.heap_alloc _ _ _ HO1.out.lt)) _ 1 [.int .u64 x] rfl (Src.ofSlice _ Try.undRs ⟨_, 0, none⟩ 1 1 [.int .u64 x] rfl (cell_one_new _ _ _) (fun u hu => by simp at hu; subst hu; rfl)) (by omega) (by decide) ?_; intro g2 c2 w2 ho2 hg2 hor2; have HO2 : Hid (OwnR w2 25 g2 (k + 1) c2 (rv (N.take k) ++ [.int .u64 x])) := ho2; have HB2 : Hid (Below W2.heap.size W2 w2 ∧ W2.heap.size ≤ g2) := ⟨(HB1.out.1.alloc HB1.out.1.size _).grown hg2 (HB1.out.1.alloc HB1.out.1.size _).size (fun m hm => by have := HB1.out.2; simp at hm; omega), (by have := HB1.out.2; have := (HB1.out.1.alloc HB1.out.1.size (.cells #[.int .u64 x] 25)).size; rcases hor2 with h | h <;> omega)⟩; have p0 := (HG2.out w2 (HB2.out.1.block _ hgl2)).1; clear ho2 hg2 hor2 hx1)
            | (at_builtin; refine wpList_appS _ rfl _ _ 22 22 rfl 25 i0 (.int .u64 0) 8 Try.undRs hi hz0 hz1 hz2 rfl W2.heap.size 0 0 [] rfl (OwnR.alloc0 W2 _) _ k (rv (N.take k)) rfl HS1.out (by omega) (by decide) ?_; intro g1 c1 w1 ho1 hg1 hor1; have HO1 : Hid (OwnR w1 25 g1 k c1 (rv (N.take k))) := (by rw [Nat.zero_add, List.nil_append] at ho1; exact ho1); have HB1 : Hid (Below W2.heap.size W2 w1 ∧ W2.heap.size ≤ g1) := ⟨((Below.refl _ _).alloc (Nat.le_refl _) _).grown hg1 (by simp) (fun m hm => by simp at hm; omega), (by rw [al_size] at hor1; omega)⟩; have hx1 := HXW.out w1 HB1.out.1; clear ho1 hg1 hor1))
          go_roundw
          case rel => exact ⟨i + 1, by go_num, by omega, HFi.out⟩
          case measure => simp [intOf]; omega
      · have hkn1 : N.length ≤ k := by omega
        have hknz : ¬ (k : Int) < (N.length : Int) := by omega
        have hno : x ∉ N := by
          rcases hNk with h | h
          · exact h
          · have := (List.getElem?_eq_some_iff.1 h).1; omega
        clear hNk HBD HDU
        cases gs with
        | none =>
          have hNn := HMq.out.nds.1 rfl
          have hc0 := HMq.out.c0 rfl
          subst hc0
          have ea : adr none = none := rfl
          subst hNn
          obtain rfl : k = 0 := by simpa using hkl
          go_quiet (fail)
          obtain ⟨W2, hW2⟩ : ∃ W2, W1.drewN nq = W2 := ⟨_, rfl⟩
          have hxq2 : W2.cell? ⟨b, o + i, none⟩ = some (.int .u64 x) := by rw [← hW2]; exact hxq
          have HM2 : Hid (M1x w w.heap.size [] none 0 W2) := by rw [← hW2]; exact ⟨HMq.out.cells, HMq.out.nds.keep (fun _ _ => rfl), HMq.out.c0, HMq.out.lo, HBq.out nq⟩
          have HG2 : Hid (∀ W : World, W.heap[w.heap.size]? = W2.heap[w.heap.size]? → W.cell? ⟨w.heap.size, 0, none⟩ = some (.slice (adr none) 0 0) ∧ W.cell? ⟨w.heap.size, 2, none⟩ = some (.slice none 0 0) ∧ ∀ o, W.frozen? ⟨w.heap.size, o, none⟩ = false) := by rw [← hW2]; exact HGq.out
          have hgl2 : w.heap.size < W2.heap.size := by rw [← hW2]; exact hglq
          rw [hW2]
          clear hW2 hxq g0q HMq HGq hglq hbelq HBq
          have e0 : ∀ o : Obj, (W2.alloc o).cell? ⟨w.heap.size, 0, none⟩ = some (.slice (adr none) 0 0) := fun o => (HG2.out _ (Below.heap_alloc W2 o _ hgl2)).1
          have HF : Hid (∀ g3 c3 w3, OwnR w3 25 g3 1 c3 (rv [x]) → Below W2.heap.size W2 w3 → W2.heap.size ≤ g3 → M1 w w.heap.size nodes (i + 1) (w3.setCell ⟨w.heap.size, 0, none⟩ (.slice (some ⟨g3, 0, none⟩) 1 c3))) := fun g3 c3 w3 ho hb hg => by
            have hno' : x ∉ nodes.take i := fun h => hno (hxN.2 h)
            have hsn : Sp.srt (nodes.take (i + 1)) = [x] := by
              have := HSN.out hno'
              simpa using this
            have hlen : [x].length = 1 := by simp
            refine ⟨some g3, c3, ?_, ?_, ?_⟩
            · rw [hsn, ← hlen]
              exact HM2.out.step (by rw [hlen]; exact ho) hb hg
            · rw [htk, List.mem_append, List.mem_singleton]
              rintro (h | h)
              · exact hn0 h
              · exact hx00 h.symm
            · rw [htk, List.nodup_append]
              exact ⟨hnd, by simp, fun a ha b hb => by simp at hb; subst hb; exact fun e => hno' (e ▸ ha)⟩
          have HXW : Hid (∀ W, Below W2.heap.size W2 W → W.cell? ⟨b, o + i, none⟩ = some (.int .u64 x)) := fun W hW => HX.out W (HM2.out.bel.trans (hW.mono HM2.out.bel.size))
          clear HM2 HSN hxN HX hnd hn0 htk hno
          go_wp2_with (first
            | (at_builtin; have hq := HO2.out; have hB2 := HB2.out.1; refine wpList_appS _ rfl _ _ 22 22 rfl 25 i0 (.int .u64 0) 8 Try.undRs hi hz0 hz1 hz2 rfl g2 _ c2 _ rfl HO2.out _ 0 [] rfl (Src.ofNil _ Try.undRs 0) (by omega) (by decide) ?_; intro g3 c3 w3 ho3 hg3 hor3; have HB3 : Hid (Below W2.heap.size W2 w3 ∧ W2.heap.size ≤ g3) := ⟨HB2.out.1.grown hg3 HB2.out.1.size (fun m hm => by have := HB2.out.2; simp at hm; omega), (by have := HB2.out.2; have := HB2.out.1.size; rcases hor3 with h | h <;> omega)⟩; have n0 := (HG2.out w3 (HB3.out.1.block _ hgl2)).1; have nf := (HG2.out w3 (HB3.out.1.block _ hgl2)).2.2; have HFz := HF.out g3 c3 w3 (by simpa [rv] using ho3) HB3.out.1 HB3.out.2; have HFi : Hid _ := HFz; clear ho3 hg3 hor3 HFz)
            | (at_builtin; have hq := HO1.out; have hx1 := HXW.out w1 HB1.out.1; refine wpList_appS _ rfl _ _ 22 22 rfl 25 i0 (.int .u64 0) 8 Try.undRs hi hz0 hz1 hz2 rfl g1 _ c1 _ rfl (HO1.out.keep (Below.heap_alloc _ _ _ HO1.out.lt)) _ 1 [.int .u64 x] rfl (Src.ofSlice _ Try.undRs ⟨_, 0, none⟩ 1 1 [.int .u64 x] rfl (cell_one_new _ _ _) (fun u hu => by simp at hu; subst hu; rfl)) (by omega) (by decide) ?_; intro g2 c2 w2 ho2 hg2 hor2; have HO2 : Hid (OwnR w2 25 g2 1 c2 [.int .u64 x]) := ho2; have HB2 : Hid (Below W2.heap.size W2 w2 ∧ W2.heap.size ≤ g2) := ⟨(HB1.out.1.alloc HB1.out.1.size _).grown hg2 (HB1.out.1.alloc HB1.out.1.size _).size (fun m hm => by have := HB1.out.2; simp at hm; omega), (by have := HB1.out.2; have := (HB1.out.1.alloc HB1.out.1.size (.cells #[.int .u64 x] 25)).size; rcases hor2 with h | h <;> omega)⟩; have p0 := (HG2.out w2 (HB2.out.1.block _ hgl2)).1; clear ho2 hg2 hor2 hx1)
            | (at_builtin; refine wpList_appS _ rfl _ _ 22 22 rfl 25 i0 (.int .u64 0) 8 Try.undRs hi hz0 hz1 hz2 rfl W2.heap.size 0 0 [] rfl (OwnR.alloc0 W2 _) _ 0 [] rfl (Src.ofNil _ Try.undRs 0) (by omega) (by decide) ?_; intro g1 c1 w1 ho1 hg1 hor1; have HO1 : Hid (OwnR w1 25 g1 0 c1 []) := (by rw [Nat.zero_add, List.nil_append] at ho1; exact ho1); have HB1 : Hid (Below W2.heap.size W2 w1 ∧ W2.heap.size ≤ g1) := ⟨((Below.refl _ _).alloc (Nat.le_refl _) _).grown hg1 (by simp) (fun m hm => by simp at hm; omega), (by rw [al_size] at hor1; omega)⟩; have hx1 := HXW.out w1 HB1.out.1; clear ho1 hg1 hor1))
          go_roundw
          case rel => exact ⟨i + 1, by go_num, by omega, HFi.out⟩
          case measure => simp [intOf]; omega
        | some g =>
          have ea : adr (some g) = some ⟨g, 0, none⟩ := rfl
          go_quiet (fail)
          by_cases hck : k < c
          · clear hkn hkn1
            obtain ⟨W2, hW2⟩ : ∃ W2, W1.drewN nq = W2 := ⟨_, rfl⟩
            have hxq2 : W2.cell? ⟨b, o + i, none⟩ = some (.int .u64 x) := by rw [← hW2]; exact hxq
            have HM2 : Hid (M1x w w.heap.size N (some g) c W2) := by rw [← hW2]; exact ⟨HMq.out.cells, HMq.out.nds.keep (fun _ _ => rfl), HMq.out.c0, HMq.out.lo, HBq.out nq⟩
            have HG2 : Hid (∀ W : World, W.heap[w.heap.size]? = W2.heap[w.heap.size]? → W.cell? ⟨w.heap.size, 0, none⟩ = some (.slice (adr (some g)) N.length c) ∧ W.cell? ⟨w.heap.size, 2, none⟩ = some (.slice none 0 0) ∧ ∀ o, W.frozen? ⟨w.heap.size, o, none⟩ = false) := by rw [← hW2]; exact HGq.out
            have hgl2 : w.heap.size < W2.heap.size := by rw [← hW2]; exact hglq
            rw [hW2]
            clear hW2 hxq g0q HMq HGq hglq hbelq HBq
            have e0 : ∀ o : Obj, (W2.alloc o).cell? ⟨w.heap.size, 0, none⟩ = some (.slice (adr (some g)) N.length c) := fun o => (HG2.out _ (Below.heap_alloc W2 o _ hgl2)).1
            have HOW : Hid (OwnR W2 25 g N.length c (rv N)) := HM2.out.nds.2 g rfl
            have hggl := HOW.out.lt
            have HS1 : Hid (Src Try.prog 1 22 (.slice (some ⟨g, 0, none⟩) k c) k (rv (N.take k)) (W2.alloc (.cells #[] 25))) := by
              refine Src.ofSlice _ Try.undRs ⟨g, 0, none⟩ k c (rv (N.take k)) (by simp [rv]; omega) (fun j u hj => ?_) (rv_one _)
              rw [addN, Nat.zero_add]
              obtain ⟨z, hz, rfl⟩ : ∃ z, N[j]? = some z ∧ u = .int .u64 z := by
                simp only [rv, List.getElem?_map, List.getElem?_take] at hj
                split at hj
                · obtain ⟨z, h1, h2⟩ := Option.map_eq_some_iff.1 hj; exact ⟨z, h1, h2.symm⟩
                · simp at hj
              exact (HOW.out.keep (Below.heap_alloc W2 (.cells #[] 25) g hggl)).cell (by simp [rv, hz])
            have HS3 : Hid (∀ W : World, Below W2.heap.size W2 W → Src Try.prog 1 22 (.slice (some ⟨g, k, none⟩) (N.length - k) (c - k)) (N.length - k) (rv (N.drop k)) W) := fun W hW => by
              refine Src.ofSlice _ Try.undRs ⟨g, k, none⟩ (N.length - k) (c - k) (rv (N.drop k)) (by simp [rv]) (fun j u hj => ?_) (rv_one _)
              rw [addN]
              obtain ⟨z, hz, rfl⟩ : ∃ z, N[k + j]? = some z ∧ u = .int .u64 z := by
                simp only [rv, List.getElem?_map, List.getElem?_drop] at hj
                obtain ⟨z, h1, h2⟩ := Option.map_eq_some_iff.1 hj; exact ⟨z, h1, h2.symm⟩
              exact (HOW.out.keep (hW.block g hggl)).cell (by simp [rv, hz])
            have HF : Hid (∀ g3 c3 w3, OwnR w3 25 g3 (k + 1 + (N.length - k)) c3 (rv (N.take k ++ [x] ++ N.drop k)) → Below W2.heap.size W2 w3 → W2.heap.size ≤ g3 → M1 w w.heap.size nodes (i + 1) (w3.setCell ⟨w.heap.size, 0, none⟩ (.slice (some ⟨g3, 0, none⟩) (k + 1 + (N.length - k)) c3))) := fun g3 c3 w3 ho hb hg => by
              have hno' : x ∉ nodes.take i := fun h => hno (hxN.2 h)
              have hsn : Sp.srt (nodes.take (i + 1)) = (N.take k ++ [x] ++ N.drop k) := by
                have := HSN.out hno'
                exact this
              have hlen : (N.take k ++ [x] ++ N.drop k).length = (k + 1 + (N.length - k)) := by simp; omega
              refine ⟨some g3, c3, ?_, ?_, ?_⟩
              · rw [hsn, ← hlen]
                exact HM2.out.step (by rw [hlen]; exact ho) hb hg
              · rw [htk, List.mem_append, List.mem_singleton]
                rintro (h | h)
                · exact hn0 h
                · exact hx00 h.symm
              · rw [htk, List.nodup_append]
                exact ⟨hnd, by simp, fun a ha b hb => by simp at hb; subst hb; exact fun e => hno' (e ▸ ha)⟩
            have HXW : Hid (∀ W, Below W2.heap.size W2 W → W.cell? ⟨b, o + i, none⟩ = some (.int .u64 x)) := fun W hW => HX.out W (HM2.out.bel.trans (hW.mono HM2.out.bel.size))
            clear HM2 HSN hxN HX hnd hn0 htk hno
            go_wp2_with (first
              | (at_builtin; have hq := HO2.out; have hB2 := HB2.out.1; refine wpList_appS _ rfl _ _ 22 22 rfl 25 i0 (.int .u64 0) 8 Try.undRs hi hz0 hz1 hz2 rfl g2 _ c2 _ rfl HO2.out _ (N.length - k) (rv (N.drop k)) rfl (HS3.out w2 HB2.out.1) (by omega) (by decide) ?_; intro g3 c3 w3 ho3 hg3 hor3; have HB3 : Hid (Below W2.heap.size W2 w3 ∧ W2.heap.size ≤ g3) := ⟨HB2.out.1.grown hg3 HB2.out.1.size (fun m hm => by have := HB2.out.2; simp at hm; omega), (by have := HB2.out.2; have := HB2.out.1.size; rcases hor3 with h | h <;> omega)⟩; have n0 := (HG2.out w3 (HB3.out.1.block _ hgl2)).1; have nf := (HG2.out w3 (HB3.out.1.block _ hgl2)).2.2; have HFz := HF.out g3 c3 w3 (by simpa [rv] using ho3) HB3.out.1 HB3.out.2; have HFi : Hid _ := HFz; clear ho3 hg3 hor3 HFz)
              | (at_builtin; have hq := HO1.out; have hx1 := HXW.out w1 HB1.out.1; refine wpList_appS _ rfl _ _ 22 22 rfl 25 i0 (.int .u64 0) 8 Try.undRs hi hz0 hz1 hz2 rfl g1 _ c1 _ rfl (HO1.out.keep (Below.heap_alloc _ _ _ HO1.out.lt)) _ 1 [.int .u64 x] rfl (Src.ofSlice _ Try.undRs ⟨_, 0, none⟩ 1 1 [.int .u64 x] rfl (cell_one_new _ _ _) (fun u hu => by simp at hu; subst hu; rfl)) (by omega) (by decide) ?_; intro g2 c2 w2 ho2 hg2 hor2; have HO2 : Hid (OwnR w2 25 g2 (k + 1) c2 (rv (N.take k) ++ [.int .u64 x])) := ho2; have HB2 : Hid (Below W2.heap.size W2 w2 ∧ W2.heap.size ≤ g2) := ⟨(HB1.out.1.alloc HB1.out.1.size _).grown hg2 (HB1.out.1.alloc HB1.out.1.size _).size (fun m hm => by have := HB1.out.2; simp at hm; omega), (by have := HB1.out.2; have := (HB1.out.1.alloc HB1.out.1.size (.cells #[.int .u64 x] 25)).size; rcases hor2 with h | h <;> omega)⟩; have p0 := (HG2.out w2 (HB2.out.1.block _ hgl2)).1; clear ho2 hg2 hor2 hx1)
              | (at_builtin; refine wpList_appS _ rfl _ _ 22 22 rfl 25 i0 (.int .u64 0) 8 Try.undRs hi hz0 hz1 hz2 rfl W2.heap.size 0 0 [] rfl (OwnR.alloc0 W2 _) _ k (rv (N.take k)) rfl HS1.out (by omega) (by decide) ?_; intro g1 c1 w1 ho1 hg1 hor1; have HO1 : Hid (OwnR w1 25 g1 k c1 (rv (N.take k))) := (by rw [Nat.zero_add, List.nil_append] at ho1; exact ho1); have HB1 : Hid (Below W2.heap.size W2 w1 ∧ W2.heap.size ≤ g1) := ⟨((Below.refl _ _).alloc (Nat.le_refl _) _).grown hg1 (by simp) (fun m hm => by simp at hm; omega), (by rw [al_size] at hor1; omega)⟩; have hx1 := HXW.out w1 HB1.out.1; clear ho1 hg1 hor1))
            go_roundw
            case rel => exact ⟨i + 1, by go_num, by omega, HFi.out⟩
            case measure => simp [intOf]; omega
          · obtain rfl : c = k := by obtain ⟨cur, _, h2, _⟩ := (HMq.out.nds.2 g rfl).blk; omega
            obtain ⟨W2, hW2⟩ : ∃ W2, W1.drewN nq = W2 := ⟨_, rfl⟩
            have hxq2 : W2.cell? ⟨b, o + i, none⟩ = some (.int .u64 x) := by rw [← hW2]; exact hxq
            have HM2 : Hid (M1x w w.heap.size N (some g) c W2) := by rw [← hW2]; exact ⟨HMq.out.cells, HMq.out.nds.keep (fun _ _ => rfl), HMq.out.c0, HMq.out.lo, HBq.out nq⟩
            have HG2 : Hid (∀ W : World, W.heap[w.heap.size]? = W2.heap[w.heap.size]? → W.cell? ⟨w.heap.size, 0, none⟩ = some (.slice (adr (some g)) N.length c) ∧ W.cell? ⟨w.heap.size, 2, none⟩ = some (.slice none 0 0) ∧ ∀ o, W.frozen? ⟨w.heap.size, o, none⟩ = false) := by rw [← hW2]; exact HGq.out
            have hgl2 : w.heap.size < W2.heap.size := by rw [← hW2]; exact hglq
            rw [hW2]
            clear hW2 hxq g0q HMq HGq hglq hbelq HBq
            have e0 : ∀ o : Obj, (W2.alloc o).cell? ⟨w.heap.size, 0, none⟩ = some (.slice (adr (some g)) N.length c) := fun o => (HG2.out _ (Below.heap_alloc W2 o _ hgl2)).1
            have HOW : Hid (OwnR W2 25 g N.length c (rv N)) := HM2.out.nds.2 g rfl
            have hggl := HOW.out.lt
            have HS1 : Hid (Src Try.prog 1 22 (.slice (some ⟨g, 0, none⟩) c c) c (rv (N.take c)) (W2.alloc (.cells #[] 25))) := by
              refine Src.ofSlice _ Try.undRs ⟨g, 0, none⟩ c c (rv (N.take c)) (by simp [rv]; omega) (fun j u hj => ?_) (rv_one _)
              rw [addN, Nat.zero_add]
              obtain ⟨z, hz, rfl⟩ : ∃ z, N[j]? = some z ∧ u = .int .u64 z := by
                simp only [rv, List.getElem?_map, List.getElem?_take] at hj
                split at hj
                · obtain ⟨z, h1, h2⟩ := Option.map_eq_some_iff.1 hj; exact ⟨z, h1, h2.symm⟩
                · simp at hj
              exact (HOW.out.keep (Below.heap_alloc W2 (.cells #[] 25) g hggl)).cell (by simp [rv, hz])
            have HS3 : Hid (∀ W : World, Src Try.prog 1 22 (.slice (some ⟨g, 0, none⟩) 0 0) 0 [] W) := fun W => Src.ofSlice _ Try.undRs ⟨g, 0, none⟩ 0 0 [] rfl (fun j u hj => by simp at hj) (fun u hu => by simp at hu)
            have HF : Hid (∀ g3 c3 w3, OwnR w3 25 g3 (c + 1) c3 (rv (N.take c ++ [x] ++ N.drop c)) → Below W2.heap.size W2 w3 → W2.heap.size ≤ g3 → M1 w w.heap.size nodes (i + 1) (w3.setCell ⟨w.heap.size, 0, none⟩ (.slice (some ⟨g3, 0, none⟩) (c + 1) c3))) := fun g3 c3 w3 ho hb hg => by
              have hno' : x ∉ nodes.take i := fun h => hno (hxN.2 h)
              have hsn : Sp.srt (nodes.take (i + 1)) = (N.take c ++ [x] ++ N.drop c) := by
                have := HSN.out hno'
                exact this
              have hlen : (N.take c ++ [x] ++ N.drop c).length = (c + 1) := by simp; omega
              refine ⟨some g3, c3, ?_, ?_, ?_⟩
              · rw [hsn, ← hlen]
                exact HM2.out.step (by rw [hlen]; exact ho) hb hg
              · rw [htk, List.mem_append, List.mem_singleton]
                rintro (h | h)
                · exact hn0 h
                · exact hx00 h.symm
              · rw [htk, List.nodup_append]
                exact ⟨hnd, by simp, fun a ha b hb => by simp at hb; subst hb; exact fun e => hno' (e ▸ ha)⟩
            have HXW : Hid (∀ W, Below W2.heap.size W2 W → W.cell? ⟨b, o + i, none⟩ = some (.int .u64 x)) := fun W hW => HX.out W (HM2.out.bel.trans (hW.mono HM2.out.bel.size))
            clear HM2 HSN hxN HX hnd hn0 htk hno
            have HDR : Hid (N.drop c = []) := List.drop_of_length_le (by omega)
            go_wp2_with (first
              | (at_builtin; have hq := HO2.out; have hB2 := HB2.out.1; refine wpList_appS _ rfl _ _ 22 22 rfl 25 i0 (.int .u64 0) 8 Try.undRs hi hz0 hz1 hz2 rfl g2 _ c2 _ rfl HO2.out _ 0 [] rfl (HS3.out w2) (by omega) (by decide) ?_; intro g3 c3 w3 ho3 hg3 hor3; have HB3 : Hid (Below W2.heap.size W2 w3 ∧ W2.heap.size ≤ g3) := ⟨HB2.out.1.grown hg3 HB2.out.1.size (fun m hm => by have := HB2.out.2; simp at hm; omega), (by have := HB2.out.2; have := HB2.out.1.size; rcases hor3 with h | h <;> omega)⟩; have n0 := (HG2.out w3 (HB3.out.1.block _ hgl2)).1; have nf := (HG2.out w3 (HB3.out.1.block _ hgl2)).2.2; have HFz := HF.out g3 c3 w3 (by have hdr := HDR.out; simpa [rv, hdr] using ho3) HB3.out.1 HB3.out.2; have HFi : Hid _ := HFz; clear ho3 hg3 hor3 HFz)
              | (at_builtin; have hq := HO1.out; have hx1 := HXW.out w1 HB1.out.1; refine wpList_appS _ rfl _ _ 22 22 rfl 25 i0 (.int .u64 0) 8 Try.undRs hi hz0 hz1 hz2 rfl g1 _ c1 _ rfl (HO1.out.keep (Below.heap_alloc _ _ _ HO1.out.lt)) _ 1 [.int .u64 x] rfl (Src.ofSlice _ Try.undRs ⟨_, 0, none⟩ 1 1 [.int .u64 x] rfl (cell_one_new _ _ _) (fun u hu => by simp at hu; subst hu; rfl)) (by omega) (by decide) ?_; intro g2 c2 w2 ho2 hg2 hor2; have HO2 : Hid (OwnR w2 25 g2 (c + 1) c2 (rv (N.take c) ++ [.int .u64 x])) := ho2; have HB2 : Hid (Below W2.heap.size W2 w2 ∧ W2.heap.size ≤ g2) := ⟨(HB1.out.1.alloc HB1.out.1.size _).grown hg2 (HB1.out.1.alloc HB1.out.1.size _).size (fun m hm => by have := HB1.out.2; simp at hm; omega), (by have := HB1.out.2; have := (HB1.out.1.alloc HB1.out.1.size (.cells #[.int .u64 x] 25)).size; rcases hor2 with h | h <;> omega)⟩; have p0 := (HG2.out w2 (HB2.out.1.block _ hgl2)).1; clear ho2 hg2 hor2 hx1)
              | (at_builtin; refine wpList_appS _ rfl _ _ 22 22 rfl 25 i0 (.int .u64 0) 8 Try.undRs hi hz0 hz1 hz2 rfl W2.heap.size 0 0 [] rfl (OwnR.alloc0 W2 _) _ c (rv (N.take c)) rfl HS1.out (by omega) (by decide) ?_; intro g1 c1 w1 ho1 hg1 hor1; have HO1 : Hid (OwnR w1 25 g1 c c1 (rv (N.take c))) := (by rw [Nat.zero_add, List.nil_append] at ho1; exact ho1); have HB1 : Hid (Below W2.heap.size W2 w1 ∧ W2.heap.size ≤ g1) := ⟨((Below.refl _ _).alloc (Nat.le_refl _) _).grown hg1 (by simp) (fun m hm => by simp at hm; omega), (by rw [al_size] at hor1; omega)⟩; have hx1 := HXW.out w1 HB1.out.1; clear ho1 hg1 hor1))
            go_roundw
            case rel => exact ⟨i + 1, by go_num, by omega, HFi.out⟩
            case measure => simp [intOf]; omega
    · obtain rfl : i = nodes.length := by omega
      have htk : nodes.take nodes.length = nodes := List.take_of_length_le (Nat.le_refl _)
      rw [htk] at hN hn0 hnd
      subst hN
      have hslen : (Sp.srt nodes).length = nodes.length := srt_len nodes
      obtain ⟨Z, hmk, hZ1, hZ2⟩ := mk_rows (Sp.srt nodes).length (by omega)
      have hpw : (Sp.srt nodes).Pairwise (· < ·) := srt_lt hnd
      have HPW : Hid ((Sp.srt nodes).Pairwise (· < ·)) := hpw
      have HK0 : Hid (Sp.mkE nodes E = if ∃ e ∈ E, e.1 ∉ nodes ∨ e.2 ∉ nodes then 140 else 0) := HKE.out.2 hn0 hnd
      have HMEM : Hid (∀ x, x ∈ Sp.srt nodes ↔ x ∈ nodes) := fun x => srt_mem
      obtain ⟨W2, hW2⟩ : ∃ W2, (wr.alloc (.cells Z 46)).setCell ⟨w.heap.size, 2, none⟩ (.slice (some ⟨wr.heap.size, 0, none⟩) (Sp.srt nodes).length (Sp.srt nodes).length) = W2 := ⟨_, rfl⟩
      have e0 : ∀ o : Obj, (wr.alloc o).cell? ⟨w.heap.size, 2, none⟩ = some (.slice none 0 0) := fun o => (HGC.out _ (Below.heap_alloc wr o _ hgl)).2.1
      have ef : ∀ (o : Obj) t, (wr.alloc o).frozen? ⟨w.heap.size, t, none⟩ = false := fun o t => (HGC.out _ (Below.heap_alloc wr o _ hgl)).2.2 t
      have H2 : Hid (M2 w w.heap.size (Sp.srt nodes) E 0 W2) := by
        have hne : wr.heap.size ≠ w.heap.size := by omega
        have e1 : ∀ k, k ≠ w.heap.size → W2.heap[k]? = (wr.alloc (.cells Z 46)).heap[k]? := fun k hk => by rw [← hW2]; exact Below.heap_setCell _ _ _ k hk
        have hnew : W2.heap[wr.heap.size]? = some (.cells Z 46 (0, 0)) := (e1 _ hne).trans (heap_alloc_new wr _)
        have hall : ∀ t, Sp.nx (Sp.srt nodes) [] t = [] := fun t => by simp [Sp.nx]
        refine ⟨gs, c, wr.heap.size, fun _ => none, fun _ => 0, ⟨?_, ?_, ⟨⟨Z, hnew, hZ1, fun t ht => ?_⟩, fun t ht => ⟨fun _ => ⟨?_, rfl⟩, (fun g hg => by cases hg)⟩, (fun t g ht hg => by cases hg), (fun t t' g _ _ hg => by cases hg)⟩, ⟨Nat.le_refl _, hgl, fun g hg => ⟨(HM.out.lo.2 g hg).1, (HM.out.lo.2 g hg).2, (HM.out.nds.2 g hg).lt⟩⟩, ?_⟩, by simp⟩
        · rw [← hW2, Sort.setCell_eq]; show ((wr.alloc (.cells Z 46)).heap.modify w.heap.size _)[w.heap.size]? = _
          rw [Array.getElem?_modify, if_pos rfl, Below.heap_alloc wr _ _ hgl, HM.out.cells]; rfl
        · exact HM.out.nds.keep fun g hg => (e1 g (HM.out.lo.2 g hg).2).trans (Below.heap_alloc wr _ g (HM.out.nds.2 g hg).lt)
        · rw [hZ2 t ht]
          simp [hall, adr]
        · simp [hall]
        · have h2 := hbel.alloc hbel.size (.cells Z 46)
          rw [← hW2]
          exact ⟨h2.os, h2.tape, h2.output, by simpa [World.setCell] using h2.size, fun k hk => (Below.heap_setCell (wr.alloc (.cells Z 46)) _ _ k (show k ≠ w.heap.size by omega)).trans (h2.block k hk)⟩
      clear HM hZ1 hZ2 htk hn0 hnd hpw HKE HGC
      have hNL : (Sp.srt nodes).length ≤ 4096 := by omega
      clear hslen HLZ
      obtain ⟨N, hN⟩ : ∃ N, Sp.srt nodes = N := ⟨_, rfl⟩
      rw [hN] at HPW HMEM hmk hW2 H2 hNL g0 hNl
      have HNN : Hid (Sp.srt nodes = N) := hN
      clear hN
      go_wp2_with fail
      clear g0 g2 gf e0 ef hmk hgl hbel
      go_loopw [10] (fun v10 wr2 => ∃ i : Nat, v10 = .int .i64 i ∧ i ≤ E.length ∧ Hid (M2 w w.heap.size N E i wr2)) (fun v10 _ => E.length - (intOf v10).toNat)
      case atStart => exact ⟨0, rfl, Nat.zero_le _, H2.out⟩
      case round =>
        obtain ⟨i, rfl, hie, HR⟩ := hrel
        obtain ⟨gs, c, xb, bl, cp, hm, hall⟩ := HR.out
        have HM : Hid (M2x w w.heap.size N gs c xb (E.take i) bl cp wr) := hm
        have HA : Hid (∀ e ∈ E.take i, e.1 ∈ N ∧ e.2 ∈ N) := hall
        obtain ⟨hgl, hrg, hto⟩ := hm.cell
        have hbel := hm.bel
        clear hm hall HR
        by_cases hlt : i < E.length
        · have hltz : (i : Int) < (E.length : Int) := by omega
          obtain ⟨e, he⟩ : ∃ e, E[i]? = some e := ⟨_, List.getElem?_eq_getElem hlt⟩
          have hem : e ∈ E := List.mem_of_getElem? he
          obtain ⟨b, o, rfl, hb, hc1, hc2⟩ := (HE.out.keep (fun k hk => hbel.block k (by omega))).row i e he
          have htk : E.take (i + 1) = E.take i ++ [e] := by rw [List.take_add_one, he]; rfl
          have HTK : Hid (E.take (i + 1) = E.take i ++ [e]) := htk
          have HP1 : Hid (∀ W : World, W.heap = wr.heap → Calls Try.prog 27 #[.pointer (some ⟨w.heap.size, 0, none⟩), .int .u64 e.1] W fun e' w' => e' = .returned (.int .i64 (Sp.plc N e.1)) ∧ w' = W) := fun W hW => place_any w.heap.size gs c N e.1 W ⟨by simp only [World.cell?, hW]; exact hrg.1, hrg.2.keep (fun g _ => by rw [hW])⟩ HPW.out hNL
          have HP2 : Hid (∀ W : World, W.heap = wr.heap → Calls Try.prog 27 #[.pointer (some ⟨w.heap.size, 0, none⟩), .int .u64 e.2] W fun e' w' => e' = .returned (.int .i64 (Sp.plc N e.2)) ∧ w' = W) := fun W hW => place_any w.heap.size gs c N e.2 W ⟨by simp only [World.cell?, hW]; exact hrg.1, hrg.2.keep (fun g _ => by rw [hW])⟩ HPW.out hNL
          have HEM : Hid (e ∈ E) := hem
          obtain ⟨x, y⟩ := e
          simp only at hc1 hc2 HP1 HP2
          obtain ⟨pa, hpa⟩ : ∃ pa, Sp.plc N x = pa := ⟨_, rfl⟩
          obtain ⟨pb, hpb⟩ : ∃ pb, Sp.plc N y = pb := ⟨_, rfl⟩
          rw [hpa] at HP1
          rw [hpb] at HP2
          have HPA : Hid (Sp.plc N x = pa ∧ Sp.plc N y = pb) := ⟨hpa, hpb⟩
          have hpr : -1 ≤ pa ∧ pa < 5000 ∧ -1 ≤ pb ∧ pb < 5000 := by
            have : ∀ z, -1 ≤ Sp.plc N z ∧ Sp.plc N z < 5000 := fun z => by
              unfold Sp.plc
              split
              · rename_i hz; have := List.idxOf_lt_length_of_mem hz; omega
              · omega
            rw [← hpa, ← hpb]
            exact ⟨(this x).1, (this x).2, (this y).1, (this y).2⟩
          have hcd : wr.drew.cell? ⟨w.heap.size, 2, none⟩ = some (.slice (some ⟨xb, 0, none⟩) N.length N.length) := hto
          have HMd : Hid (M2x w w.heap.size N gs c xb (E.take i) bl cp wr.drew) := ⟨HM.out.cells, HM.out.nds.keep (fun _ _ => rfl), HM.out.nxt.keep rfl (fun _ _ _ _ => rfl), HM.out.lo, ⟨hbel.os, hbel.tape, hbel.output, hbel.size, hbel.block⟩⟩
          have HBW : Hid (Below w.heap.size w wr.drew) := HMd.out.bel
          clear hpa hpb htk he hem hrg hto HM hbel
          go_wp2_with fail
          refine wp_region_mark (fun X => X.cell? ⟨b, o + i * 2, none⟩ = some (.int .u64 x) ∧ X.cell? ⟨b, o + i * 2 + 1, none⟩ = some (.int .u64 y)) 13 (by kernel_rfl) ?_
          have hHeld : wr.drew.cell? ⟨b, o + i * 2, none⟩ = some (.int .u64 x) ∧ wr.drew.cell? ⟨b, o + i * 2 + 1, none⟩ = some (.int .u64 y) := ⟨hc1, hc2⟩
          refine tkF (i := 0) (v := ?_) rfl (by kernel_rfl) (by rfl) ?_ (.inr (by assumption)) ?_
          rotate_left
          · intro W hSw; go_simp; try (with_reducible rfl)
          simp only [Act.put, lsA, lsB, lsC]
          refine tkF (i := 1) (v := ?_) rfl (by kernel_rfl) (by rfl) ?_ (.inr (by assumption)) ?_
          rotate_left
          · intro W hSw; go_simp; try (with_reducible rfl)
          simp only [Act.put, lsA, lsB, lsC]
          refine tkF (i := 2) (v := ?_) rfl (by kernel_rfl) (by rfl) ?_ (.inr (by assumption)) ?_
          rotate_left
          · intro W hSw; go_simp; try (with_reducible rfl)
          simp only [Act.put, lsA, lsB, lsC]
          refine tkF (i := 3) (v := ?_) rfl (by kernel_rfl) (by rfl) ?_ (.inr (by assumption)) ?_
          rotate_left
          · intro W hSw; go_simp; try (with_reducible rfl)
          simp only [Act.put, lsA, lsB, lsC]
          refine tkF (i := 4) (v := ?_) rfl (by kernel_rfl) (by rfl) ?_ (.inr (by assumption)) ?_
          rotate_left
          · intro W hSw; go_simp; try (with_reducible rfl)
          simp only [Act.put, lsA, lsB, lsC]
          refine tkM (i := 5) (v := ?_) [6] rfl (by kernel_rfl) (by rfl) ?_ (by assumption) ?_
          rotate_left
          · intro W hSw; (try dsimp only at hSw); go_simp; try (with_reducible rfl)
          simp only [Act.put, lsA, lsB, lsC]
          refine tkF (i := 7) (v := ?_) rfl (by kernel_rfl) (by rfl) ?_ (.inr (by assumption)) ?_
          rotate_left
          · intro W hSw; go_simp; try (with_reducible rfl)
          simp only [Act.put, lsA, lsB, lsC]
          refine tkF (i := 8) (v := ?_) rfl (by kernel_rfl) (by rfl) ?_ (.inr (by assumption)) ?_
          rotate_left
          · intro W hSw; go_simp; try (with_reducible rfl)
          simp only [Act.put, lsA, lsB, lsC]
          refine tkF (i := 9) (v := ?_) rfl (by kernel_rfl) (by rfl) ?_ (.inr (by assumption)) ?_
          rotate_left
          · intro W hSw; go_simp; try (with_reducible rfl)
          simp only [Act.put, lsA, lsB, lsC]
          refine tkF (i := 10) (v := ?_) rfl (by kernel_rfl) (by rfl) ?_ (.inr (by assumption)) ?_
          rotate_left
          · intro W hSw; go_simp; try (with_reducible rfl)
          simp only [Act.put, lsA, lsB, lsC]
          refine tkF (i := 11) (v := ?_) rfl (by kernel_rfl) (by rfl) ?_ (.inr (by assumption)) ?_
          rotate_left
          · intro W hSw; go_simp; try (with_reducible rfl)
          simp only [Act.put, lsA, lsB, lsC]
          refine tkM (i := 12) (v := ?_) [] rfl (by kernel_rfl) (by rfl) ?_ (by assumption) ?_
          rotate_left
          · intro W hSw; (try dsimp only at hSw); go_simp; try (with_reducible rfl)
          simp only [Act.put, lsA, lsB, lsC]
          refine tkO (i := 6) (by kernel_rfl) rfl (fun K hK => ?_)
          go_simp
          refine (HP1.out wr.drew rfl).mono ?_
          rintro e' wz ⟨rfl, rfl⟩
          go_wp2_with fail
          refine hK.out _ _ (.inr hHeld) ?_
          clear hK K
          try simp only [Act.put, lsA, lsB, lsC]
          refine tkO (i := 13) (by kernel_rfl) rfl (fun K hK => ?_)
          go_simp
          refine (HP2.out wr.drew rfl).mono ?_
          rintro e' wz ⟨rfl, rfl⟩
          go_wp2_with fail
          refine hK.out _ _ (.inl (by kernel_rfl)) ?_
          clear hK K
          try simp only [Act.put, lsA, lsB, lsC]
          refine tkF (i := 14) (v := ?_) rfl (by kernel_rfl) (by rfl) ?_ (.inl (by kernel_rfl)) ?_
          rotate_left
          · intro W hSw; go_simp; try (with_reducible rfl)
          simp only [Act.put, lsA, lsB, lsC]
          refine tkF (i := 15) (v := ?_) rfl (by kernel_rfl) (by rfl) ?_ (.inl (by kernel_rfl)) ?_
          rotate_left
          · intro W hSw; go_simp; try (with_reducible rfl)
          simp only [Act.put, lsA, lsB, lsC]
          refine wpAnyM_done (by kernel_rfl) ?_ _
          clear hHeld
          clear hc1 hc2 HP1 HP2
          generalize wr.drew = W3 at hcd HMd HBW ⊢
          by_cases hbad : pa < 0 ∨ pb < 0
          · have HP : Hid (MkR w nodes E none W3 ∧ Sp.mkE nodes E = 140) := by
              have hex : ∃ e ∈ E, e.1 ∉ nodes ∨ e.2 ∉ nodes := by
                refine ⟨(x, y), HEM.out, ?_⟩
                have hcase : ∀ z, Sp.plc N z < 0 → z ∉ nodes := fun z hz hin => by
                  unfold Sp.plc at hz
                  rw [if_pos ((HMEM.out z).2 hin)] at hz
                  omega
                rcases hbad with h | h
                · exact .inl (hcase x (by rw [HPA.out.1]; exact h))
                · exact .inr (hcase y (by rw [HPA.out.2]; exact h))
              have hk : Sp.mkE nodes E = 140 := by rw [HK0.out, if_pos hex]
              exact ⟨⟨HBW.out, (fun h => by rw [hk] at h; cases h), fun _ => rfl⟩, hk⟩
            clear HMd HEM HPA
            by_cases h1 : pa < 0
            · clear hbad
              go_wp2_with fail
              go_ret2
              exact ⟨none, by rw [HP.out.2]; rfl, HP.out.1⟩
            · have h2 : pb < 0 := by omega
              clear hbad
              go_wp2_with fail
              go_ret2
              exact ⟨none, by rw [HP.out.2]; rfl, HP.out.1⟩
          · have h1 : ¬ pa < 0 := by omega
            have h2 : ¬ pb < 0 := by omega
            clear hbad
            have hcase : ∀ z q, Sp.plc N z = q → ¬ q < 0 → ∃ t : Nat, q = t ∧ N[t]? = some z ∧ z ∈ N := fun z q hz hq => by
              unfold Sp.plc at hz
              by_cases hin : z ∈ N
              · rw [if_pos hin] at hz
                have hlt := List.idxOf_lt_length_of_mem hin
                exact ⟨N.idxOf z, hz.symm, by rw [List.getElem?_eq_getElem hlt, List.getElem_idxOf hlt], hin⟩
              · rw [if_neg hin] at hz; omega
            obtain ⟨f, rfl, hf, hfin⟩ := hcase x pa HPA.out.1 h1
            obtain ⟨p, rfl, hp, hpin⟩ := hcase y pb HPA.out.2 h2
            have hfn : f < N.length := (List.getElem?_eq_some_iff.1 hf).1
            have hfz : (f : Int) < (N.length : Int) := by omega
            have HALL : Hid (∀ e ∈ E.take (i + 1), e.1 ∈ N ∧ e.2 ∈ N) := fun e he => by
              rw [HTK.out, List.mem_append, List.mem_singleton] at he
              rcases he with he | rfl
              · exact HA.out e he
              · exact ⟨hfin, hpin⟩
            clear hcase HPA HA hfin hpin
            obtain ⟨R, hR⟩ : ∃ R, (Sp.nx N (E.take i) f).map (fun j : Nat => (j : Int)) = R := ⟨_, rfl⟩
            have hrow := HMd.out.nxt.row f hfn
            have hxc := (HMd.out.nxt.cell hfn).1
            have hxlt := HMd.out.nxt.lt.1
            have hglt := HMd.out.cell.1
            have hup : R.Pairwise (· < ·) := by rw [← hR, List.pairwise_map]; exact (nx_lt _ _ _).imp (by intro a b h; omega)
            have hRl : R.length ≤ 100000 := by
              rw [← hR, List.length_map]
              have : (Sp.nx N (E.take i) f).length ≤ N.length := by unfold Sp.nx; exact Nat.le_trans (List.length_filter_le _ _) (by simp)
              omega
            rw [hR] at hrow hxc
            have hW := with_any (bl f) (cp f) R (p : Int) W3.drew (hrow.keep (fun _ _ => rfl)) hup hRl
            have HST : Hid (∀ (w1 : World) gs' c', NdI w1 gs' c' (Sp.ins R (p : Int)) → Below W3.heap.size W3 w1 → ((gs' = bl f ∧ c' = cp f) ∨ ∃ g, gs' = some g ∧ W3.heap.size ≤ g) → M2 w w.heap.size N E (i + 1) (w1.setCell ⟨xb, f, none⟩ (.slice (adr gs') (Sp.ins R (p : Int)).length c'))) := fun w1 gs' c' hn hb ho => by
              have hne : gs' ≠ none := fun e => by
                have h1 := (hn.1 e).1
                have h2 : (p : Int) ∈ Sp.ins R (p : Int) := ins_mem.2 (.inr rfl)
                rw [h1] at h2; cases h2
              obtain ⟨g', rfl⟩ := Option.ne_none_iff_exists'.1 hne
              have hn' : NdI w1 (some g') c' (Sp.ins ((Sp.nx N (E.take i) f).map fun j : Nat => (j : Int)) (p : Int)) := by rw [hR]; exact hn
              obtain ⟨bl', cp', hs⟩ := HMd.out.step HPW.out (e := (x, y)) hf hp hn' hb (by
                rcases ho with ⟨h, _⟩ | ⟨g, h, h2⟩
                · exact .inl h.symm
                · injection h with h; subst h; exact .inr h2)
              rw [hR, ← HTK.out] at hs
              exact ⟨gs, c, xb, bl', cp', hs, HALL.out⟩
            have hxf : ∀ w1 : World, Below W3.heap.size W3 w1 → w1.cell? ⟨xb, f, none⟩ = some (.slice (adr (bl f)) R.length (cp f)) ∧ w1.frozen? ⟨xb, f, none⟩ = false ∧ w1.cell? ⟨w.heap.size, 2, none⟩ = some (.slice (some ⟨xb, 0, none⟩) N.length N.length) := fun w1 hb => ⟨by rw [World.cell?_of_block (w := W3) (hb.block xb hxlt)]; exact hxc, by rw [World.frozen?_of_block (w := W3) (hb.block xb hxlt)]; exact (HMd.out.nxt.cell hfn).2, by rw [World.cell?_of_block (w := W3) (hb.block _ hglt)]; exact hcd⟩
            have HXF : Hid (∀ w1 : World, Below W3.heap.size W3 w1 → w1.cell? ⟨xb, f, none⟩ = some (.slice (adr (bl f)) R.length (cp f)) ∧ w1.frozen? ⟨xb, f, none⟩ = false ∧ w1.cell? ⟨w.heap.size, 2, none⟩ = some (.slice (some ⟨xb, 0, none⟩) N.length N.length)) := hxf
            clear hxf hR hrow hup HMd hf hp
            go_wp2_with fail
            refine wp_region_mark (fun X => X.cell? ⟨w.heap.size, 2, none⟩ = some (.slice (some ⟨xb, 0, none⟩) N.length N.length) ∧ X.cell? ⟨xb, f, none⟩ = some (.slice (adr (bl f)) R.length (cp f))) 15 (by kernel_rfl) ?_
            have hHeld : W3.drew.cell? ⟨w.heap.size, 2, none⟩ = some (.slice (some ⟨xb, 0, none⟩) N.length N.length) ∧ W3.drew.cell? ⟨xb, f, none⟩ = some (.slice (adr (bl f)) R.length (cp f)) := ⟨hcd, hxc⟩
            refine tkF (i := 0) (v := ?_) rfl (by kernel_rfl) (by rfl) ?_ (.inr (by assumption)) ?_
            rotate_left
            · intro W hSw; go_simp; try (with_reducible rfl)
            simp only [Act.put, lsA, lsB, lsC]
            refine tkF (i := 1) (v := ?_) rfl (by kernel_rfl) (by rfl) ?_ (.inr (by assumption)) ?_
            rotate_left
            · intro W hSw; go_simp; try (with_reducible rfl)
            simp only [Act.put, lsA, lsB, lsC]
            refine tkF (i := 2) (v := ?_) rfl (by kernel_rfl) (by rfl) ?_ (.inr (by assumption)) ?_
            rotate_left
            · intro W hSw; go_simp; try (with_reducible rfl)
            simp only [Act.put, lsA, lsB, lsC]
            refine tkM (i := 3) (v := ?_) [14] rfl (by kernel_rfl) (by rfl) ?_ (by assumption) ?_
            rotate_left
            · intro W hSw; (try dsimp only at hSw); go_simp; try (with_reducible rfl)
            simp only [Act.put, lsA, lsB, lsC]
            refine tkF (i := 4) (v := ?_) rfl (by kernel_rfl) (by rfl) ?_ (.inr (by assumption)) ?_
            rotate_left
            · intro W hSw; go_simp; try (with_reducible rfl)
            simp only [Act.put, lsA, lsB, lsC]
            refine tkF (i := 5) (v := ?_) rfl (by kernel_rfl) (by rfl) ?_ (.inr (by assumption)) ?_
            rotate_left
            · intro W hSw; go_simp; try (with_reducible rfl)
            simp only [Act.put, lsA, lsB, lsC]
            refine tkF (i := 6) (v := ?_) rfl (by kernel_rfl) (by rfl) ?_ (.inr (by assumption)) ?_
            rotate_left
            · intro W hSw; go_simp; try (with_reducible rfl)
            simp only [Act.put, lsA, lsB, lsC]
            refine tkF (i := 7) (v := ?_) rfl (by kernel_rfl) (by rfl) ?_ (.inr (by assumption)) ?_
            rotate_left
            · intro W hSw; go_simp; try (with_reducible rfl)
            simp only [Act.put, lsA, lsB, lsC]
            refine tkM (i := 8) (v := ?_) [13, 11, 10] rfl (by kernel_rfl) (by rfl) ?_ (by assumption) ?_
            rotate_left
            · intro W hSw; (try dsimp only at hSw); go_simp; try (with_reducible rfl)
            simp only [Act.put, lsA, lsB, lsC]
            refine tkF (i := 9) (v := ?_) rfl (by kernel_rfl) (by rfl) ?_ (.inr (by assumption)) ?_
            rotate_left
            · intro W hSw; go_simp; try (with_reducible rfl)
            simp only [Act.put, lsA, lsB, lsC]
            refine tkF (i := 10) (v := ?_) rfl (by kernel_rfl) (by rfl) ?_ (.inr (by assumption)) ?_
            rotate_left
            · intro W hSw; go_simp; try (with_reducible rfl)
            simp only [Act.put, lsA, lsB, lsC]
            refine tkM (i := 11) (v := ?_) [13] rfl (by kernel_rfl) (by rfl) ?_ (by assumption) ?_
            rotate_left
            · intro W hSw; (try dsimp only at hSw); go_simp; try (with_reducible rfl)
            simp only [Act.put, lsA, lsB, lsC]
            refine tkF (i := 12) (v := ?_) rfl (by kernel_rfl) (by rfl) ?_ (.inr (by assumption)) ?_
            rotate_left
            · intro W hSw; go_simp; try (with_reducible rfl)
            simp only [Act.put, lsA, lsB, lsC]
            refine tkO (i := 13) (by kernel_rfl) rfl (fun K hK => ?_)
            go_simp
            refine hW.mono ?_
            rintro e' w5 ⟨gs', c', rfl, hn5, hb5, ho5⟩
            have hb5' : Below W3.heap.size W3 w5 := ⟨hb5.os, hb5.tape, hb5.output, hb5.size, hb5.block⟩
            obtain ⟨m1, m2, m3⟩ := HXF.out w5 hb5'
            have HEND : Hid (M2 w w.heap.size N E (i + 1) (w5.setCell ⟨xb, f, none⟩ (.slice (adr gs') (Sp.ins R (p : Int)).length c'))) := HST.out w5 gs' c' hn5 hb5' ho5
            clear hn5 hb5 ho5 hb5' hHeld
            go_wp2_with fail
            have hHeld := And.intro m3 m1
            refine hK.out _ _ (.inr hHeld) ?_
            clear hK K
            try simp only [Act.put, lsA, lsB, lsC]
            refine tkF (i := 14) (v := ?_) rfl (by kernel_rfl) (by rfl) ?_ (.inr (by assumption)) ?_
            rotate_left
            · intro W hSw; go_simp; try (with_reducible rfl)
            simp only [Act.put, lsA, lsB, lsC]
            refine tkO (i := 15) (by kernel_rfl) rfl (fun K hK => ?_)
            go_simp
            refine hK.out _ _ (.inl (by kernel_rfl)) ?_
            clear hK K
            refine wpAnyM_done (by kernel_rfl) ?_ _
            go_wp2_with fail
            go_roundw
            case rel => exact ⟨i + 1, by go_num, by omega, HEND.out⟩
            case measure => simp [intOf]; omega
        · obtain rfl : i = E.length := by omega
          have htk : E.take E.length = E := List.take_of_length_le (Nat.le_refl _)
          rw [htk] at HM HA
          have HK1 : Hid (Sp.mkE nodes E = 0) := by
            show _ = _
            rw [HK0.out, if_neg]
            rintro ⟨e, he, h⟩
            have := HA.out e he
            rw [HMEM.out, HMEM.out] at this
            rcases h with h | h
            · exact h this.1
            · exact h this.2
          have hN2 := HNN.out
          subst hN2
          have hed := edges_any w.heap.size (Sp.srt nodes) (Sp.nx (Sp.srt nodes) E) gs c (xb + 1) xb bl cp wr (by simpa [adr] using HM.out.cells) HM.out.nds HM.out.nxt ⟨fun g hg => (HM.out.lo.2.2 g hg).2.1, by have := HM.out.lo; omega, fun t g ht hg => by have := HM.out.nxt.lo t g ht hg; have := HM.out.lo; omega⟩ hNL (fun t _ => Nat.le_trans (by unfold Sp.nx; exact List.length_filter_le _ _) (by simp; omega)) (fun t _ j hj => (nx_mem.1 hj).1)
          have HMM : Hid (∀ w', EdI wr w.heap.size (Sp.srt nodes) (Sp.nx (Sp.srt nodes) E) gs c xb (Sp.srt nodes).length 0 w' → MkR w nodes E (some ⟨w.heap.size, 0, none⟩) w') := fun w' h => MkR.of HM.out HK1.out h
          clear HM HA htk hbel hrg hto
          go_wp2_with fail
          refine hed.mono ?_
          rintro e w4 ⟨rfl, h4⟩
          have H4 : Hid (MkR w nodes E (some ⟨w.heap.size, 0, none⟩) w4) := HMM.out w4 h4
          clear h4 hed HMM
          go_wp2_with fail
          go_ret2
          exact ⟨some ⟨w.heap.size, 0, none⟩, by rw [HK1.out]; rfl, H4.out⟩
end Go.Proofs.Ytilhheianbbbjaa

