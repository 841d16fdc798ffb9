/- tenonref14.(*Graph).Walk: a walk of the document's, whatever was handed in. -/
import Derived.Test.YtghfikeakfiopaaK30
import Derived.Test.YtghfikeakfiopaaK31
namespace Go.Proofs.Ytghfikeakfiopaa
open Go.RowKit Go.ChangeMaps

theorem mk_bools (n : Nat) (hn : n ≤ 4096) : ∃ Z : Array Value, (∀ W : World, (Instr.makeSlice 24 (.int .i64 (n : Int)) (.int .i64 (n : Int))).run Try.prog W = .ok (.slice (some ⟨W.heap.size, 0, none⟩) n n) (W.alloc (.cells Z 4))) ∧ ∀ W : World, OwnR (W.alloc (.cells Z 4)) 4 W.heap.size n n (bv (List.replicate n false)) := by
  obtain ⟨i0, hi, hz0, hz1, hz2⟩ := info_parts Try.infoBo
  obtain ⟨Z, hM⟩ : ∃ Z, Z = madeCells (Value.bool false).cells (((n : Nat) : Int).toNat * i0.size) := ⟨_, rfl⟩
  have hMs : Z.size = n := by rw [hM, size_madeCells, hz1]; simp
  have hMt : ∀ t, t < n → Z[t]? = some (.bool false) := fun t ht => by rw [hM]; simp [madeCells, hz1, ht, Value.cells, Nat.mod_one]
  refine ⟨Z, fun W => ?_, fun W => ?_⟩
  · have h := run_make (P := Try.prog) W 24 4 i0 (.bool false) Try.undBs hi hz0 .i64 .i64 (n : Int) (n : Int) (by omega) (by omega) (by rw [hz2]; omega) (by omega)
    rw [← hM] at h; simpa using h
  · refine ⟨by simp [bv], Z, heap_alloc_new _ _, Nat.le_refl _, by simp [maxLen]; omega, hMs, ?_⟩
    apply List.ext_getElem?
    intro t
    by_cases ht : t < n
    · rw [List.getElem?_take, if_pos ht]
      have := hMt t ht
      simp [bv, ht]
      simpa using this.symm
    · rw [List.getElem?_eq_none (by simp [bv]; omega), List.getElem?_eq_none (by simp; omega)]
theorem BlsAt.keep {w w' : World} {vb : Nat} {a : Option Addr} {l : List Bool} (h : BlsAt w vb a l) (hb : Below w.heap.size w w') : BlsAt w' vb a l := fun t b ht => by
  obtain ⟨g, o, e, h1, h2, h3⟩ := h t b ht
  exact ⟨g, o, e, Nat.lt_of_lt_of_le h1 hb.size, h2, by rw [hb.cell (p := ⟨g, o + t, none⟩) h1]; exact h3⟩
theorem VSt.keep {w w' : World} {vb gb : Nat} {N : List Int} {gn : Option Nat} {cn : Nat} {nx : Nat → List Nat} {lo xb : Nat} {bl : Nat → Option Nat} {cp : Nat → Nat} {aE : Option Addr} {En : List Bool} {aL : Option Addr} {Le : List Bool} (h : VSt w vb gb N gn cn nx lo xb bl cp aE En aL Le) (hb : Below w.heap.size w w') : VSt w' vb gb N gn cn nx lo xb bl cp aE En aL Le :=
  ⟨h.nds.keepR h.gl.1 hb, by rw [hb.cell (p := ⟨gb, 2, none⟩) h.gl.1]; exact h.to, h.nxt.keep (hb.block xb h.nxt.lt.1) (fun t g ht hg => hb.block g (h.nxt.lt.2 t g ht hg)), ⟨Nat.lt_of_lt_of_le h.gl.1 hb.size, Nat.lt_of_lt_of_le h.gl.2 hb.size⟩, h.ne, h.ent.keep hb, h.lev.keep hb, h.nb, h.nl⟩

def WrE (w : World) (vb : Nat) (eE eL : Value) (P : Int) (N : List Int) (nx : Nat → List Nat) (En Le : List Bool) (l : List Int) (w' : World) : Prop :=
  ∃ gs c e4 e5 e6 ov cs er, w'.heap[vb]? = some (.cells (vcC eE eL P gs cs.length c e4 e5 e6 ov er) 33 (0, 0)) ∧ NdC w' gs c cs ∧ (∀ g, gs = some g → w.heap.size ≤ g) ∧ Kw (fun k => k = vb) w w' ∧ cs.length ≤ 8192 ∧
    (Sp.pls N l = none → cs = [] ∧ er = 140) ∧ ∀ ps, Sp.pls N l = some ps → cs = (wAll (wOne (Sp.vis N En Le P) nx N.length) ps (List.replicate N.length false, ⟨[], 0, 0⟩)).2.2.calls ∧ er = if (wAll (wOne (Sp.vis N En Le P) nx N.length) ps (List.replicate N.length false, ⟨[], 0, 0⟩)).1 = none then 9 else 0
theorem WrE.of {w w1 w' : World} {vb inb : Nat} {eE eL : Value} {P : Int} {N : List Int} {nx : Nat → List Nat} {En Le : List Bool} {l : List Int} {K : Nat} {Q : Option Bool × Wst VS} {ps : List Nat} (hb : Below w.heap.size w w1) (hp : Sp.pls N l = some ps) (hQ : wAll (wOne (Sp.vis N En Le P) nx N.length) ps (List.replicate N.length false, ⟨[], 0, 0⟩) = Q) (hK : K ≤ 8192) (h : VIr w1 vb inb N.length eE eL P K Q w') : WrE w vb eE eL P N nx En Le l w' := by
  obtain ⟨gs, c, h⟩ := h
  refine ⟨gs, c, _, _, _, _, Q.2.2.calls, _, h.vis, h.cal, fun g hg => Nat.le_trans hb.size (h.cne g hg).1, ?_, ?_, (fun h1 => by rw [hp] at h1; cases h1), fun ps' h1 => ?_⟩
  · exact ⟨h.fr.os.trans hb.os, h.fr.tape.trans hb.tape, h.fr.output.trans hb.output, Nat.le_trans hb.size h.fr.size, fun k k1 k2 => (h.fr.block k (Nat.lt_of_lt_of_le k1 hb.size) k2).trans (hb.block k k1)⟩
  · have := h.bd; omega
  · rw [hp] at h1
    cases h1
    rw [hQ]
    exact ⟨rfl, rfl⟩
theorem VLi.exit {w0 : World} {vb inb n : Nat} {eE eL : Value} {P : Int} {K : Nat} {all : List Nat → Wst VS → Option Bool × Wst VS} {l : List Nat} {Q : Option Bool × Wst VS} {i : Nat} {wr : World} {s1 : Wst VS} {ov : Bool} {er : Int} {gs : Option Nat} {c : Nat}
    (h : VIx w0 vb inb n eE eL P K gs c s1 ov er wr) (h3 : (ov = false ∧ er = 0 ∧ all (l.drop i) s1 = Q) ∨ (ov = true ∧ Q.2 = s1 ∧ ¬ Q.1 = some true ∧ er = if Q.1 = none then 9 else 0)) (hx : ov = false → i = l.length) (ha : ∀ s, all [] s = (some true, s)) : VIr w0 vb inb n eE eL P K Q wr := by
  rcases h3 with ⟨h1, h2, h4⟩ | ⟨h1, h2, h4, h5⟩
  · rw [hx h1, List.drop_of_length_le (Nat.le_refl _), ha] at h4
    subst h4
    exact VIr.of h rfl (by simp [h1]) (by simp [h2])
  · exact VIr.of h h2 (by simp [h1, h4]) h5.symm

set_option maxRecDepth 100000 in
set_option maxHeartbeats 8000000 in
theorem Walk_ref (vb gb : Nat) (N : List Int) (gn : Option Nat) (cn : Nat) (nx : Nat → List Nat) (lo xb : Nat) (bl : Nat → Option Nat) (cp : Nat → Nat) (aE : Option Addr) (En : List Bool) (cE : Nat) (aL : Option Addr) (Le : List Bool) (cL : Nat) (P : Int) (a : Option Addr) (cap : Nat) (l : List Int) (w : World)
    (hS : VSt w vb gb N gn cn nx lo xb bl cp aE En aL Le) (hp : N.Pairwise (· < ·)) (hv : w.heap[vb]? = some (.cells (vcC (.slice aE En.length cE) (.slice aL Le.length cL) P none 0 0 (.slice none 0 0) (.int .i64 0) (.int .i64 0) false 0) 33 (0, 0))) (hr : RefsAt w w.heap.size a l) (hl : l.length * 8 ≤ 140737488355328) :
    Calls Try.prog 5 #[.pointer (some ⟨gb, 0, none⟩), .slice a l.length cap, .pointer (some ⟨vb, 0, none⟩)] w fun e w' => e = .returned (.tuple #[]) ∧ WrE w vb (.slice aE En.length cE) (.slice aL Le.length cL) P N nx En Le l w' := by
  obtain ⟨Z, hmk, hZ⟩ := mk_bools N.length hS.nl.1
  have HZ : Hid (∀ W : World, OwnR (W.alloc (.cells Z 4)) 4 W.heap.size N.length N.length (bv (List.replicate N.length false))) := hZ
  have hpl := places_any gb gn cn N a cap l w.heap.size w hS.nds hS.gl.1 hp hS.nl.1 hr (Nat.le_refl _) hl
  have HS : Hid (VSt w vb gb N gn cn nx lo xb bl cp aE En aL Le) := hS
  have HV : Hid (w.heap[vb]? = some (.cells (vcC (.slice aE En.length cE) (.slice aL Le.length cL) P none 0 0 (.slice none 0 0) (.int .i64 0) (.int .i64 0) false 0) 33 (0, 0))) := hv
  clear hS hv hr hZ
  go_enter Try.func5, Try.ntmps5
  go_wp2_with fail
  refine hpl.mono ?_
  rintro e w1 ⟨hb, ho⟩
  have HB : Hid (Below w.heap.size w w1) := hb
  have hv1 : w1.heap[vb]? = some (.cells (vcC (.slice aE En.length cE) (.slice aL Le.length cL) P none 0 0 (.slice none 0 0) (.int .i64 0) (.int .i64 0) false 0) 33 (0, 0)) := (hb.block vb HS.out.gl.2).trans HV.out
  have hvl : vb < w1.heap.size := Nat.lt_of_lt_of_le HS.out.gl.2 hb.size
  clear hb hpl
  rcases ho with ⟨hn, rfl⟩ | ⟨ps, gs, c, hps, rfl, hnd, hge⟩
  · have c8 : w1.cell? ⟨vb, 8, none⟩ = some (.int .i64 0) := by simp [World.cell?, hv1, vcC]
    have f8 : w1.frozen? ⟨vb, 8, none⟩ = false := by simp [World.frozen?, hv1]
    have HF : Hid (WrE w vb (.slice aE En.length cE) (.slice aL Le.length cL) P N nx En Le l (w1.setCell ⟨vb, 8, none⟩ (.int .i64 140))) := by
      refine ⟨none, 0, .slice none 0 0, .int .i64 0, .int .i64 0, false, [], 140, ?_, ⟨(fun _ => ⟨rfl, rfl⟩), (fun g hg => by cases hg)⟩, (fun g hg => by cases hg), ?_, (by simp), (fun _ => ⟨rfl, rfl⟩), (fun ps h => by rw [hn] at h; cases h)⟩
      · rw [Sort.setCell_eq]; show (w1.heap.modify vb _)[vb]? = _
        rw [Array.getElem?_modify, if_pos rfl, hv1]; rfl
      · refine Kw.set (M := fun k => k = vb) ?_ (.inl rfl) _
        exact ⟨HB.out.os, HB.out.tape, HB.out.output, HB.out.size, fun k k1 _ => HB.out.block k k1⟩
    clear hv1 hn hvl
    go_wp2_with fail
    ((try simp only [Exit.inBlock, Exit.then]); refine bodyPost_ret (results_none rfl _ _ _) rfl ?_)
    exact ⟨rfl, HF.out⟩
  · have hS1 : VSt w1 vb gb N gn cn nx lo xb bl cp aE En aL Le := HS.out.keep HB.out
    have HS1 : Hid (VSt w1 vb gb N gn cn nx lo xb bl cp aE En aL Le) := hS1
    have c0 : w1.cell? ⟨gb, 0, none⟩ = some (.slice (adr gn) N.length cn) := hS1.nds.1
    obtain ⟨W2, hW2⟩ : ∃ W2, (w1.alloc (.cells Z 4)).setCell ⟨vb, 4, none⟩ (.slice (some ⟨w1.heap.size, 0, none⟩) N.length N.length) = W2 := ⟨_, rfl⟩
    have d4 : ∀ o, (w1.alloc o).cell? ⟨vb, 4, none⟩ = some (.slice none 0 0) := fun o => by rw [World.cell?_of_block (w := w1) (Below.heap_alloc w1 o vb hvl)]; simp [World.cell?, hv1, vcC]
    have f4 : ∀ o, (w1.alloc o).frozen? ⟨vb, 4, none⟩ = false := fun o => by simp only [World.frozen?]; rw [Below.heap_alloc w1 o vb hvl, hv1]; rfl
    have hI : VIx w1 vb w1.heap.size N.length (.slice aE En.length cE) (.slice aL Le.length cL) P (2 * N.length) none 0 (List.replicate N.length false, ⟨[], 0, 0⟩) false 0 W2 := by
      rw [← hW2]
      have hne : w1.heap.size ≠ vb := by omega
      refine ⟨?_, ⟨fun _ => ⟨rfl, rfl⟩, fun g hg => by cases hg⟩, (fun g hg => by cases hg), ?_, ⟨hvl, Nat.le_refl _⟩, ?_, ?_, ⟨Nat.le_refl _, Nat.le_refl _⟩⟩
      · rw [Sort.setCell_eq]; show ((w1.alloc (.cells Z 4)).heap.modify vb _)[vb]? = _
        rw [Array.getElem?_modify, if_pos rfl, Below.heap_alloc w1 _ vb hvl, hv1]; rfl
      · exact (HZ.out w1).keep (Below.heap_setCell _ ⟨vb, 4, none⟩ _ _ hne)
      · exact Kw.set (M := fun k => k = vb) ((Kw.refl _ _).alloc _) (.inl rfl) _
      · simp [Sp.cf]
    have HI : Hid (VIx w1 vb w1.heap.size N.length (.slice aE En.length cE) (.slice aL Le.length cL) P (2 * N.length) none 0 (List.replicate N.length false, ⟨[], 0, 0⟩) false 0 W2) := hI
    obtain ⟨Q, hQ⟩ : ∃ Q, wAll (wOne (Sp.vis N En Le P) nx N.length) ps (List.replicate N.length false, ⟨[], 0, 0⟩) = Q := ⟨_, rfl⟩
    have HQ : Hid (wAll (wOne (Sp.vis N En Le P) nx N.length) ps (List.replicate N.length false, ⟨[], 0, 0⟩) = Q) := hQ
    have HP : Hid (Sp.pls N l = some ps) := hps
    have hlp := (show ps.length = l.length ∧ ∀ j ∈ ps, j < N.length from by
      by_cases hx : ∃ x ∈ l, x ∉ N
      · rw [pls_none hx] at hps; cases hps
      · have hy : ∀ x ∈ l, x ∈ N := fun x h1 => Classical.byContradiction fun h2 => hx ⟨x, h1, h2⟩
        rw [pls_all hy] at hps
        cases hps
        refine ⟨by simp, fun j hj => ?_⟩
        obtain ⟨x, h1, rfl⟩ := List.mem_map.1 hj
        exact List.idxOf_lt_length_of_mem (hy x h1))
    have HLP : Hid (∀ j ∈ ps, j < N.length) := hlp.2
    have hpl : ps.length * 8 ≤ 140737488355328 := by rw [hlp.1]; exact hl
    have HN : Hid (NdI w1 gs c (ps.map fun j : Nat => (j : Int))) := hnd
    have HG : Hid (∀ g, gs = some g → w.heap.size ≤ g) := hge
    have HVW : Hid (vb < w.heap.size) := HS.out.gl.2
    clear hS1 hv1 hI hps hlp hnd hge hl hQ
    go_wp2_with fail
    go_loopw [8] (fun v8 wr => ∃ i : Nat, v8 = .int .i64 i ∧ i ≤ ps.length ∧ Hid (VLi w1 vb w1.heap.size N.length (.slice aE En.length cE) (.slice aL Le.length cL) P (2 * N.length) N.length true (wAll (wOne (Sp.vis N En Le P) nx N.length)) ps Q i wr)) (fun v8 _ => ps.length - (intOf v8).toNat)
    case atStart => exact ⟨0, rfl, Nat.zero_le _, _, false, 0, _, _, HI.out, by simp [Sp.cf], .inl ⟨rfl, rfl, by rw [if_pos rfl]; exact HQ.out⟩⟩
    case round =>
      obtain ⟨i, rfl, hi, HI0⟩ := hrel
      obtain ⟨s1, ov, er, gs1, c1, hI1, hI2, hI3⟩ := HI0.out
      have HI : Hid (VIx w1 vb w1.heap.size N.length (.slice aE En.length cE) (.slice aL Le.length cL) P (2 * N.length) gs1 c1 s1 ov er wr ∧ Sp.cf s1.1 ≤ N.length ∧ ((ov = false ∧ er = 0 ∧ wAll (wOne (Sp.vis N En Le P) nx N.length) (ps.drop i) s1 = Q) ∨ (ov = true ∧ Q.2 = s1 ∧ ¬ Q.1 = some true ∧ er = if Q.1 = none then 9 else 0))) := ⟨hI1, hI2, by simpa using hI3⟩
      have k7 := hI1.cells.2.2.2.2.2.1
      clear hI1 hI2 hI3 HI0 c0 d4 f4
      by_cases hgo : i < ps.length ∧ ov = false
      · obtain ⟨hlt, rfl⟩ := hgo
        have hltz : (i : Int) < (ps.length : Int) := by omega
        obtain ⟨k, hk⟩ : ∃ k, ps[i]? = some k := ⟨_, List.getElem?_eq_getElem hlt⟩
        have hkn : k < N.length := HLP.out k (List.mem_of_getElem? hk)
        obtain ⟨g, rfl⟩ : ∃ g, gs = some g := by
          cases gs with
          | some g => exact ⟨g, rfl⟩
          | none => have := (HN.out.1 rfl).1; rw [List.map_eq_nil_iff] at this; rw [this] at hlt; simp at hlt
        have kr : wr.cell? ⟨g, i, none⟩ = some (.int .i64 (k : Nat)) := by
          have hgl := (HN.out.2 g rfl).lt
          rw [HI.out.1.stc hgl (by have := HG.out g rfl; have := HVW.out; omega)]
          exact (HN.out.2 g rfl).cell (by simp [iv, hk])
        have ea : adr (some g) = some ⟨g, 0, none⟩ := rfl
        have hdr : ps.drop i = k :: ps.drop (i + 1) := by
          rw [List.getElem?_eq_getElem hlt] at hk
          injection hk with hk
          rw [← hk]; exact List.drop_eq_getElem_cons hlt
        obtain ⟨rfl, hQi⟩ : er = 0 ∧ wAll (wOne (Sp.vis N En Le P) nx N.length) (ps.drop i) s1 = Q := by
          rcases HI.out.2.2 with h | h
          · exact h.2
          · cases h.1
        rw [hdr, wAll_cons] at hQi
        have hcl1 := visit_all (inb := w1.heap.size) (cE := cE) (cL := cL) (P := P) HS1.out N.length (2 * N.length) k s1 wr gs1 c1 HI.out.1 (by have := HS1.out.nl.1; omega) hkn HI.out.2.1
        have HM : Hid (Mor s1.1 (wVis (wOne (Sp.vis N En Le P) nx N.length) k s1).2.1) := by
          show Mor _ _
          unfold wVis
          split
          · exact Mor.refl _
          · exact wOne_mor _ nx N.length k s1
        have hcfi := HI.out.2.1
        obtain ⟨r, hr⟩ : ∃ r, wVis (wOne (Sp.vis N En Le P) nx N.length) k s1 = r := ⟨_, rfl⟩
        rw [hr] at hcl1 HM hQi
        have HQi : Hid ((if r.1 = some true then wAll (wOne (Sp.vis N En Le P) nx N.length) (ps.drop (i + 1)) r.2 else r) = Q) := hQi
        have HCF : Hid (Sp.cf r.2.1 ≤ N.length) := Nat.le_trans HM.out.cf hcfi
        clear hk hdr hQi hr HM hcfi HI
        go_wp2_with fail
        refine hcl1.mono ?_
        rintro e w4 ⟨rfl, gs4, c4, h4⟩
        have H4 : Hid (VIx w1 vb w1.heap.size N.length (.slice aE En.length cE) (.slice aL Le.length cL) P (2 * N.length) gs4 c4 r.2 (!decide (r.1 = some true)) (if r.1 = none then 9 else 0) w4) := h4
        clear h4 hcl1
        go_wp2_with fail
        go_roundw
        case rel =>
          refine ⟨_, _, _, _, _, _, _, _, _, _, _, _, _, _, _, _, _, _, _, _, _, ?_, rfl⟩
          refine ⟨i + 1, by go_num, by omega, r.2, _, _, gs4, c4, H4.out, HCF.out, ?_⟩
          rw [if_pos rfl]
          by_cases hr1 : r.1 = some true
          · have := HQi.out
            rw [if_pos hr1] at this
            exact .inl ⟨by simp [hr1], by simp [hr1], this⟩
          · have := HQi.out
            rw [if_neg hr1] at this
            rw [← this]
            exact .inr ⟨by simp [hr1], rfl, hr1, rfl⟩
        case measure => simp [intOf]; omega
      · have HF : Hid (WrE w vb (.slice aE En.length cE) (.slice aL Le.length cL) P N nx En Le l wr) := WrE.of HB.out HP.out HQ.out (by have := HS1.out.nl.1; omega) (VLi.exit HI.out.1 HI.out.2.2 (fun h => by simp [h] at hgo; omega) (fun s => rfl))
        clear HI
        by_cases hlt : i < ps.length
        · have hltz : (i : Int) < (ps.length : Int) := by omega
          obtain rfl : ov = true := by simpa [hlt] using hgo
          clear hgo
          go_wp2_with fail
          go_end0
          exact ⟨rfl, HF.out⟩
        · have hltz : ¬ (i : Int) < (ps.length : Int) := by omega
          clear hgo
          go_wp2_with fail
          go_end0
          exact ⟨rfl, HF.out⟩
end Go.Proofs.Ytghfikeakfiopaa

