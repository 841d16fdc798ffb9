/- graph.bare: the first statement. -/
import Derived.Test.YtghfikeakfiopaaK11
import Derived.Deep.Cut
namespace Go.Proofs.Ytghfikeakfiopaa
open Go.RowKit Go.ChangeMaps

set_option maxRecDepth 100000 in
set_option maxHeartbeats 8000000 in
theorem bare_any (a : Option Addr) (cap : Nat) (l : List Int) (B : Nat) (w : World) (h : RefsAt w B a l) (hB : B ≤ w.heap.size) (hl : l.length ≤ 4096) :
    Calls Try.prog 27 #[.slice a l.length cap] w fun e w' =>
      ∃ gb gs c mb xb G, e = .returned (.tuple #[.pointer (some ⟨gb, 0, none⟩), .bool (decide ((0 : Int) ∉ l ∧ l.Nodup))]) ∧ Bar w w' gb gs c mb xb l.length G (Sp.srt l) := by
  have hmap := mk_mapI
  obtain ⟨i0, hi, hz0, hz1, hz2⟩ := info_parts Try.infoSl
  obtain ⟨M, hM⟩ : ∃ M, M = madeCells (Value.slice none 0 0).cells (((l.length : Nat) : Int).toNat * i0.size) := ⟨_, rfl⟩
  have hMs : M.size = l.length := by rw [hM, size_madeCells, hz1]; simp
  have hMt : ∀ t, t < l.length → M[t]? = some (.slice none 0 0) := fun t ht => by rw [hM]; simp [madeCells, hz1, ht, Value.cells, Nat.mod_one]
  have hmake : ∀ W : World, (Instr.makeSlice 55 (.int .i64 (l.length : Int)) (.int .i64 (l.length : Int))).run Try.prog W = .ok (.slice (some ⟨W.heap.size, 0, none⟩) l.length l.length) (W.alloc (.cells M 52)) := fun W => by
    have h := run_make (P := Try.prog) W 55 52 i0 (.slice none 0 0) Try.undSS hi hz0 .i64 .i64 (l.length : Int) (l.length : Int) (by omega) (by omega) (by rw [hz2]; omega) (by omega)
    rw [← hM] at h; simpa using h
  have HC : Hid (∀ W, Below w.heap.size w W → Calls Try.prog 35 #[.slice a l.length cap] W fun e w' => ∃ gs c, e = .returned (.slice (adr gs) l.length c) ∧ Nds w' gs c l ∧ (∀ g, gs = some g → W.heap.size ≤ g ∧ g < w'.heap.size) ∧ Below W.heap.size W w') := fun W hW => cloneN a cap l B W (h.keep (hW.mono hB)) (Nat.le_trans hB hW.size) (by omega)
  have HM : Hid (M.size = l.length ∧ ∀ t, t < l.length → M[t]? = some (.slice none 0 0)) := ⟨hMs, hMt⟩
  have HBD : Hid (∀ x ∈ l, 0 ≤ x ∧ x < 18446744073709551616) := h.bd
  clear hM hMs hMt h
  go_enter Try.func27, Try.ntmps27
  go_wp2_with fail
  go_upto_region 1 with fail
  go_cut [4] from 9 (fun s4 wc => ∃ gb gs c mb xb, s4 = .pointer (some ⟨gb, 0, none⟩) ∧ Hid (BrI w l.length gb gs c mb xb l wc))
  case first =>
    go_region_with (first | (go_at_call 35; refine (HC.out _ (by first | exact (Below.refl _ _).drew | exact ((Below.refl _ _).drew.alloc (Nat.le_refl _) _) | exact (((Below.refl _ _).drew.alloc (Nat.le_refl _) _).alloc (show w.heap.size ≤ (w.drew.alloc _).heap.size by rw [al_size]; exact Nat.le_succ _) _))).mono ?_; rintro e w1 ⟨gs, c, rfl, hn1, hn2, hn3⟩))
    all_goals go_wp2_with fail
    all_goals go_meet
    all_goals
      refine ⟨_, gs, c, _, _, rfl, show BrI _ _ _ _ _ _ _ _ _ from brI_mk ?_ ?_ ?_ ?_ HM.out ?_ ?_ ?_ ?_ ?_ (by first | rfl | (rw [al_size]; done) | (rw [al_size, al_size]; done))⟩
      · first
          | exact ⟨hn3.os, hn3.tape, hn3.output, hn3.size, hn3.block⟩
          | exact (((⟨hn3.os, hn3.tape, hn3.output, hn3.size, hn3.block⟩ : Below w.heap.size w w1).alloc hn3.size _).alloc (by have hq := hn3.size; (try simp only [dr_heap, al_size] at *); omega) _)
          | exact (((((Below.refl w.heap.size w).alloc (Nat.le_refl _) _).drew).trans (hn3.mono (by have hq := hn3.size; (try simp only [dr_heap, al_size] at *); omega))).alloc (by have hq := hn3.size; (try simp only [dr_heap, al_size] at *); omega) _)
          | exact (((((Below.refl w.heap.size w).alloc (Nat.le_refl _) _).alloc (by simp only [al_size]; omega) _).drew).trans (hn3.mono (by have hq := hn3.size; (try simp only [dr_heap, al_size] at *); omega)))
      · first
          | exact hn1
          | exact hn1.keep (fun g hg => Below.heap_alloc _ _ _ (hn2 g hg).2)
          | exact hn1.keep (fun g hg => (Below.heap_alloc _ _ _ (by have hq := (hn2 g hg).2; simp only [al_size]; omega)).trans (Below.heap_alloc _ _ _ (hn2 g hg).2))
      iterate 2
        first
          | exact heap_alloc_new _ _
          | rw [al_get, if_pos (show _ = _ by first | (rw [al_size]; done) | fail)]
          | rw [hn3.block _ (by have hq := hn3.size; (try simp only [dr_heap, al_size] at *); omega), dr_heap, al_get, if_pos (show _ = _ by first | (rw [al_size]; done) | fail)]
          | (rw [al_get, if_neg (by have hq := hn3.size; (try simp only [dr_heap, al_size] at *); omega)]; exact heap_alloc_new _ _)
          | (rw [al_get, if_neg (by have hq := hn3.size; (try simp only [dr_heap, al_size] at *); omega), hn3.block _ (by have hq := hn3.size; (try simp only [dr_heap, al_size] at *); omega)]; exact heap_alloc_new _ _)
          | (rw [hn3.block _ (by have hq := hn3.size; (try simp only [dr_heap, al_size] at *); omega)]; exact heap_alloc_new _ _)
          | (rw [hn3.block _ (by have hq := hn3.size; (try simp only [dr_heap, al_size] at *); omega), dr_heap, al_get, if_neg (by have hq := hn3.size; (try simp only [dr_heap, al_size] at *); omega)]; exact heap_alloc_new _ _)
      · exact (by have hq := hn3.size; (try simp only [dr_heap, al_size] at *); omega)
      · exact (by have hq := hn3.size; (try simp only [dr_heap, al_size] at *); omega)
      · intro g hg; have hk := hn2 g hg; (try simp only [dr_heap, al_size] at *); omega
      · exact (by have hq := hn3.size; (try simp only [dr_heap, al_size] at *); omega)
      · intro g hg; have hk := hn2 g hg; have hq := hn3.size; (try simp only [dr_heap, al_size] at *); omega
  case rest =>
    obtain ⟨gb, gs, c, mb, xb, rfl, HI⟩ := hcut
    clear hmap hmake HC HM
    have hcl : ∀ W : World, W.heap[gb]? = wc.heap[gb]? → W.cell? ⟨gb, 0, none⟩ = some (.slice (adr gs) l.length c) ∧ W.cell? ⟨gb, 1, none⟩ = some (.map (some mb)) := fun W hW => by
      have e := hW.trans HI.out.cells
      exact ⟨by simp [World.cell?, e], by simp [World.cell?, e]⟩
    have HCL : Hid (∀ W : World, W.heap[gb]? = wc.heap[gb]? → W.cell? ⟨gb, 0, none⟩ = some (.slice (adr gs) l.length c) ∧ W.cell? ⟨gb, 1, none⟩ = some (.map (some mb))) := hcl
    clear hcl
    obtain ⟨hc0, hc1⟩ := HCL.out wc rfl
    have HSo := sortN gs c l wc HI.out.nds (by omega)
    go_wp2_with (go_at_call 36; refine HSo.mono ?_; rintro e w2 ⟨rfl, hn2, hs2⟩; have hgb2 : w2.heap[gb]? = wc.heap[gb]? := (hs2.2.2.2.2 gb (Array.getElem?_eq_some_iff.1 HI.out.cells).1 (fun e => (HI.out.ne.2.2.2 gb e).1 rfl)); obtain ⟨hd0, hd1⟩ := HCL.out w2 hgb2; have HN2 : Hid (Nds w2 gs c (Sp.srt l) ∧ Srt wc gs w2 ∧ w2.heap[gb]? = wc.heap[gb]?) := ⟨hn2, hs2, hgb2⟩; clear hn2 hs2 hgb2 hc0 hc1)
    go_loopw [27] (fun v27 wr => ∃ (i : Nat) (G : List (Int × Int)) (es : Array MapEntry) (ck : Nat), v27 = .int .i64 i ∧ i ≤ l.length ∧ Hid (BrQ w2 mb (Sp.srt l) i G es ck wr)) (fun v27 _ => l.length - (intOf v27).toNat)
    case atStart =>
      have hm : w2.heap[mb]? = some (.map #[] 0) := (HN2.out.2.1.2.2.2.2 mb (Array.getElem?_eq_some_iff.1 HI.out.map).1 (fun e => (HI.out.ne.2.2.2 mb e).2.1 rfl)).trans HI.out.map
      exact ⟨0, [], #[], 0, rfl, Nat.zero_le _, ⟨hm, rfl, fun j x g h => by simp at h, List.nodup_nil⟩, rfl, rfl, rfl, rfl, fun _ _ => rfl, fun k v h => by simp at h, fun k h => by simp at h, fun _ => rfl, fun h => absurd (by simp) h⟩
    case round =>
      obtain ⟨i, G, es, ck, rfl, hi, HQ⟩ := hrel
      have hgw : wr.heap[gb]? = wc.heap[gb]? := (HQ.out.block gb HI.out.ne.1).trans HN2.out.2.2
      obtain ⟨he0, he1⟩ := HCL.out wr hgw
      clear hgw hd0 hd1
      by_cases hlt : i < l.length
      · obtain ⟨g, rfl⟩ : ∃ g, gs = some g := by
          cases gs with
          | some g => exact ⟨g, rfl⟩
          | none => have := HN2.out.1.1 rfl; rw [← srt_len, this] at hlt; simp at hlt
        obtain ⟨x, hx⟩ : ∃ x, (Sp.srt l)[i]? = some x := ⟨_, List.getElem?_eq_getElem (by rw [srt_len]; exact hlt)⟩
        have hbx : 0 ≤ x ∧ x < 18446744073709551616 := HBD.out x (srt_mem.1 (List.mem_of_getElem? hx))
        have hcx : wr.cell? ⟨g, i, none⟩ = some (.int .u64 x) := by
          have ho := HN2.out.1.2 g rfl
          rw [World.cell?_of_block (w := w2) (HQ.out.block g (HI.out.ne.2.2.2 g rfl).2.1)]
          exact ho.cell (by simp [rv, hx])
        have ea : adr (some g) = some ⟨g, 0, none⟩ := rfl
        obtain ⟨G', es', ck', hup, hm', hg', hl'⟩ := HQ.out.mp.update hbx.1 hbx.2 (i : Int)
        have HQ' : Hid (BrQ w2 mb (Sp.srt l) (i + 1) G' es' ck' (setBlock wr mb (.map es' ck'))) := HQ.out.step hx hm' hg' hl'
        clear hm' hg' hl' hx
        go_wp2
        go_roundw
        case rel => exact ⟨i + 1, G', es', ck', by go_num, by omega, HQ'.out⟩
        case measure => simp [intOf]; omega
      · obtain rfl : i = l.length := by omega
        have hlen := fun ty => len_mapI HQ.out.mp ty
        have htk : (Sp.srt l).take l.length = Sp.srt l := List.take_of_length_le (by rw [srt_len]; exact Nat.le_refl _)
        have HB : Hid (Bar w wr gb gs c mb xb l.length G (Sp.srt l)) := by
          have ho : ∀ k, k < wc.heap.size → gs ≠ some k → k ≠ mb → wr.heap[k]? = wc.heap[k]? := fun k h1 h2 h3 => (HQ.out.block k h3).trans (HN2.out.2.1.2.2.2.2 k h1 h2)
          have hI := HI.out
          have s1 := hI.bel.size
          have s2 := HN2.out.2.1.2.2.2.1
          have s3 := HQ.out.size
          refine ⟨⟨HQ.out.os.trans (HN2.out.2.1.1.trans hI.bel.os), HQ.out.tape.trans (HN2.out.2.1.2.1.trans hI.bel.tape), HQ.out.output.trans (HN2.out.2.1.2.2.1.trans hI.bel.output), by omega, fun k hk => ?_⟩, ?_, ?_, ⟨es, ck, HQ.out.mp⟩, fun k v hm => ?_, fun k hm => ?_, ?_, hI.lo, hI.ne⟩
          · exact (ho k (by omega) (fun e => by have := hI.lo.2.2.2 k e; omega) (by have := hI.lo.2.1; omega)).trans (hI.bel.block k hk)
          · exact ((HQ.out.block gb hI.ne.1).trans HN2.out.2.2).trans hI.cells
          · exact HN2.out.1.keep (fun g hg => HQ.out.block g (hI.ne.2.2.2 g hg).2.1)
          · obtain ⟨t, e, _, h4⟩ := HQ.out.fro k v hm
            exact ⟨t, e, h4⟩
          · exact HQ.out.to k (by rw [htk]; exact hm)
          · obtain ⟨cur, h4, h5⟩ := hI.nxt
            exact ⟨cur, (ho xb (Array.getElem?_eq_some_iff.1 h4).1 (fun e => (hI.ne.2.2.2 xb e).2.2 rfl) (fun e => hI.ne.2.2.1 e.symm)).trans h4, h5⟩
        have hnd : l.Nodup ↔ (Sp.srt l).Nodup := (srt_perm l).nodup_iff.symm
        rcases HQ.out.mp.lookup (x := 0) (by decide) (by decide) with ⟨hlk, h0⟩ | ⟨v, hlk, h0⟩
        · have hz : (0 : Int) ∉ l := fun hm => by
            obtain ⟨v, hv⟩ := HQ.out.to 0 (by rw [htk]; exact srt_mem.2 hm)
            exact h0 _ hv rfl
          have HG : Hid ((G.length : Int) = (l.length : Int) ↔ l.Nodup) := by
            show _ ↔ _
            constructor
            · intro e
              apply Classical.byContradiction
              intro hno
              have := HQ.out.dup (by rw [htk]; exact fun h => hno (hnd.2 h))
              omega
            · intro h
              have := HQ.out.nd (by rw [htk]; exact hnd.1 h)
              omega
          obtain ⟨b, hb⟩ : ∃ b : Bool, b = ((G.length : Int) == (l.length : Int)) := ⟨_, rfl⟩
          have HB2 : Hid (b = decide ((0 : Int) ∉ l ∧ l.Nodup)) := by
            show _ = _
            rw [hb, Bool.eq_iff_iff]
            simp only [beq_iff_eq, decide_eq_true_eq]
            rw [HG.out]
            exact ⟨fun h => ⟨hz, h⟩, fun h => h.2⟩
          clear h0 HQ htk hnd HG hz
          go_wp2
          go_ret2
          refine ⟨gb, gs, c, mb, xb, G, ?_, HB.out⟩
          rw [← HB2.out, hb]; rfl
        · have hz : (0 : Int) ∈ l := by
            obtain ⟨t, _, _, h4⟩ := HQ.out.fro 0 v h0
            exact srt_mem.1 (List.mem_of_getElem? h4)
          clear h0 HQ htk hnd
          go_wp2
          go_ret2
          refine ⟨gb, gs, c, mb, xb, G, ?_, HB.out⟩
          rw [decide_eq_false (fun h => h.1 hz)]; rfl
end Go.Proofs.Ytghfikeakfiopaa

