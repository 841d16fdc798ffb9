/- tenonref14.(*Graph).edges: the document's graph lists its edges. -/
import Derived.Test.YtilhheianbbbjaaK15
import Derived.Test.YtilhheianbbbjaaK16
import Derived.Deep.AppendLies
namespace Go.Proofs.Ytilhheianbbbjaa
open Go.RowKit Go.ChangeMaps

theorem Try.infoEd : (Try.prog.info? 41).map (fun i => (i.zero, i.size, i.bytes)) = some (some (.agg #[.int .u64 0, .int .u64 0]), 2, 16) := by kernel_rfl
theorem Try.undEd : Try.prog.underlying 23 = some (.slice 41) := by kernel_rfl
def ev : List (Int × Int) → List Value
  | [] => []
  | p :: l => .int .u64 p.1 :: .int .u64 p.2 :: ev l
theorem ev_app : ∀ (l m : List (Int × Int)), ev (l ++ m) = ev l ++ ev m
  | [], _ => rfl
  | q :: l, m => by simp [ev, ev_app l m]
theorem ev_len : ∀ l : List (Int × Int), (ev l).length = l.length * 2
  | [] => rfl
  | q :: l => by simp [ev, ev_len l]; omega
theorem ev_get : ∀ (l : List (Int × Int)) (t : Nat) (e : Int × Int), l[t]? = some e → (ev l)[t * 2]? = some (.int .u64 e.1) ∧ (ev l)[t * 2 + 1]? = some (.int .u64 e.2)
  | q :: l, 0, e, h => by simp at h; subst h; simp [ev]
  | q :: l, t + 1, e, h => by
    have := ev_get l t e (by simpa using h)
    rw [show (t + 1) * 2 = t * 2 + 1 + 1 by omega]
    simpa [ev] using this
def NdE (w : World) (gs : Option Nat) (c : Nat) (l : List (Int × Int)) : Prop := (gs = none → l = [] ∧ c = 0) ∧ ∀ g, gs = some g → OwnK w 41 2 g l.length c (ev l)
theorem NdE.keep {w w' : World} {gs : Option Nat} {c : Nat} {l : List (Int × Int)} (h : NdE w gs c l) (hb : ∀ g, gs = some g → w'.heap[g]? = w.heap[g]?) : NdE w' gs c l := ⟨h.1, fun g hg => (h.2 g hg).keep (hb g hg)⟩
theorem appE (gs : Option Nat) (c : Nat) (l : List (Int × Int)) (w : World) (h : NdE w gs c l) (x y : Int) (hl : l.length * 8 ≤ 140737488355328 / 4) (ty : TypeId) :
    ∃ g' c' w', (Builtin.append_ #[23, 23] ty #[.slice (adr gs) l.length c, .slice (some ⟨w.heap.size, 0, none⟩) 1 1]).run Try.prog (w.alloc (.cells #[.int .u64 x, .int .u64 y] 41)) = .ok (.slice (some ⟨g', 0, none⟩) (l.length + 1) c') w' ∧
      OwnK w' 41 2 g' (l.length + 1) c' (ev (l ++ [(x, y)])) ∧ (w.alloc (.cells #[.int .u64 x, .int .u64 y] 41)).grownBy w' gs ∧ (gs = some g' ∨ w.heap.size < g') := by
  obtain ⟨i0, hi, hz0, hz1, hz2⟩ := info_parts Try.infoEd
  have hlx := cell_two_new w 41 (.int .u64 x) (.int .u64 y)
  rw [ev_app]
  cases gs with
  | some g =>
    have ho := (h.2 g rfl).keep (Below.heap_alloc w (.cells #[.int .u64 x, .int .u64 y] 41) g (h.2 g rfl).lt)
    obtain ⟨g', c', w', h1, h2, h3, h4⟩ := run_appK (P := Try.prog) (w.alloc (.cells #[.int .u64 x, .int .u64 y] 41)) 23 23 ty 41 i0 (.agg #[.int .u64 0, .int .u64 0]) 2 16 Try.undEd hi hz0 hz1 hz2 rfl g l.length c (ev l) ho _ 1 [.int .u64 x, .int .u64 y] (Src.ofSlice _ Try.undEd ⟨w.heap.size, 0, none⟩ 1 1 [.int .u64 x, .int .u64 y] rfl hlx (fun u hu => by simp at hu; rcases hu with rfl | rfl <;> rfl)) (by omega) (by decide)
    exact ⟨g', c', w', h1, h2, h3, h4.imp (fun e => by rw [e]) (fun e => by rw [e, al_size]; omega)⟩
  | none =>
    obtain ⟨rfl, rfl⟩ := h.1 rfl
    have hr := run_append_nil (P := Try.prog) (w.alloc (.cells #[.int .u64 x, .int .u64 y] 41)) 23 ty 41 i0 (.agg #[.int .u64 0, .int .u64 0]) Try.undEd hi hz0 ⟨w.heap.size, 0, none⟩ 1 1 [.int .u64 x, .int .u64 y] (by rw [hz1]; rfl) hlx (by decide) (by decide) (by rw [hz2]; decide)
    have hge := grownCap_ge (w.alloc (.cells #[.int .u64 x, .int .u64 y] 41)) 1 0 41
    have hcm := grownCap_le_maxLen (w.alloc (.cells #[.int .u64 x, .int .u64 y] 41)) 1 0 41 (by simp [maxLen])
    refine ⟨_, _, _, hr, ⟨by simp [ev], _, heap_alloc_new _ _, by simpa using hge, hcm, ?_, ?_⟩, ⟨rfl, rfl, rfl, by simp, fun k hk _ => heap_alloc_old (w.alloc (.cells #[.int .u64 x, .int .u64 y] 41)).drew _ hk⟩, .inr (by rw [al_size]; omega)⟩
    · simp only [Array.size_append, List.size_toArray, size_zeroCells, List.length_cons, List.length_nil]
      have : (Value.agg #[.int .u64 0, .int .u64 0]).cells.size = 2 := rfl
      rw [this]; omega
    · simp [ev]

def Sp.eds (N : List Int) (nx : Nat → List Nat) (i k : Nat) : List (Int × Int) := ((List.range i).map fun t => (nx t).map fun j => (N.getD t 0, N.getD j 0)).flatten ++ ((nx i).take k).map fun j => (N.getD i 0, N.getD j 0)
theorem eds_snoc {N : List Int} {nx : Nat → List Nat} {i k j : Nat} (h : (nx i)[k]? = some j) : Sp.eds N nx i (k + 1) = Sp.eds N nx i k ++ [(N.getD i 0, N.getD j 0)] := by
  unfold Sp.eds
  rw [List.take_add_one, h, List.map_append, List.append_assoc]
  rfl
theorem eds_next (N : List Int) (nx : Nat → List Nat) (i : Nat) : Sp.eds N nx i (nx i).length = Sp.eds N nx (i + 1) 0 := by
  unfold Sp.eds
  rw [List.take_of_length_le (Nat.le_refl _), List.range_succ, List.map_append, List.flatten_append]
  simp
theorem eds_len (N : List Int) (nx : Nat → List Nat) (hn : ∀ t, t < N.length → (nx t).length ≤ 4096) : ∀ i k, i ≤ N.length → k ≤ 4096 → (Sp.eds N nx i k).length ≤ i * 4096 + k
  | 0, k, _, hk => by simp [Sp.eds]; omega
  | i + 1, k, hi, hk => by
    have ih := eds_len N nx hn i (nx i).length (by omega) (hn i (by omega))
    rw [eds_next] at ih
    have h1 : (Sp.eds N nx (i + 1) k).length ≤ (Sp.eds N nx (i + 1) 0).length + k := by
      unfold Sp.eds; simp; omega
    have := hn i (by omega)
    omega

structure RgP (w : World) (D : Nat → Prop) (gb : Nat) (N : List Int) (nx : Nat → List Nat) (es : List (Int × Int)) (gn : Option Nat) (cn : Nat) (ge : Option Nat) (ce lo xb : Nat) (bl : Nat → Option Nat) (cp : Nat → Nat) : Prop where
  cells : w.heap[gb]? = some (.cells #[.slice (adr gn) N.length cn, .slice (adr ge) es.length ce, .slice (some ⟨xb, 0, none⟩) N.length N.length] 70 (0, 0))
  nds : Nds w gn cn N
  eds : NdE w ge ce es
  nxt : NxR w lo xb N.length bl cp (fun t => (nx t).map (fun j : Nat => (j : Int)))
  ins : D gb ∧ D xb ∧ (∀ g, gn = some g → D g) ∧ (∀ g, ge = some g → D g) ∧ ∀ t g, t < N.length → bl t = some g → D g
theorem RgP.keep {w w' : World} {D : Nat → Prop} {gb : Nat} {N : List Int} {nx : Nat → List Nat} {es : List (Int × Int)} {gn : Option Nat} {cn : Nat} {ge : Option Nat} {ce lo xb : Nat} {bl : Nat → Option Nat} {cp : Nat → Nat} (h : RgP w D gb N nx es gn cn ge ce lo xb bl cp) (hs : ∀ k, D k → w'.heap[k]? = w.heap[k]?) : RgP w' D gb N nx es gn cn ge ce lo xb bl cp :=
  ⟨(hs gb h.ins.1).trans h.cells, h.nds.keep (fun g hg => hs g (h.ins.2.2.1 g hg)), h.eds.keep (fun g hg => hs g (h.ins.2.2.2.1 g hg)), h.nxt.keep (hs xb h.ins.2.1) (fun t g ht hg => hs g (h.ins.2.2.2.2 t g ht hg)), h.ins⟩

def EdI (w : World) (gb : Nat) (N : List Int) (nx : Nat → List Nat) (gn : Option Nat) (cn xb : Nat) (i k : Nat) (wr : World) : Prop := ∃ ge ce, wr.heap[gb]? = some (.cells #[.slice (adr gn) N.length cn, .slice (adr ge) (Sp.eds N nx i k).length ce, .slice (some ⟨xb, 0, none⟩) N.length N.length] 70 (0, 0)) ∧ NdE wr ge ce (Sp.eds N nx i k) ∧ (∀ g, ge = some g → w.heap.size ≤ g) ∧ Kw (fun k => k = gb) w wr
set_option maxRecDepth 100000 in
set_option maxHeartbeats 8000000 in
theorem edges_any (gb : Nat) (N : List Int) (nx : Nat → List Nat) (gn : Option Nat) (cn lo xb : Nat) (bl : Nat → Option Nat) (cp : Nat → Nat) (w : World) (hc : w.heap[gb]? = some (.cells #[.slice (adr gn) N.length cn, .slice none 0 0, .slice (some ⟨xb, 0, none⟩) N.length N.length] 70 (0, 0))) (hN : Nds w gn cn N) (hX : NxR w lo xb N.length bl cp (fun t => (nx t).map (fun j : Nat => (j : Int))))
    (hne : (∀ g, gn = some g → g ≠ gb) ∧ xb ≠ gb ∧ ∀ t g, t < N.length → bl t = some g → g ≠ gb) (hn : N.length ≤ 4096) (hnl : ∀ t, t < N.length → (nx t).length ≤ 4096) (hnb : ∀ t, t < N.length → ∀ j ∈ nx t, j < N.length) :
    Calls Try.prog 37 #[.pointer (some ⟨gb, 0, none⟩)] w fun e w' => e = .returned (.tuple #[]) ∧ EdI w gb N nx gn cn xb N.length 0 w' := by
  have H0 : Hid (EdI w gb N nx gn cn xb 0 0 w) := ⟨none, 0, by simpa [Sp.eds, adr] using hc, ⟨fun _ => ⟨by simp [Sp.eds], rfl⟩, fun g hg => by cases hg⟩, (fun g hg => by cases hg), Kw.refl _ _⟩
  have HN : Hid (Nds w gn cn N ∧ (∀ g, gn = some g → g ≠ gb)) := ⟨hN, hne.1⟩
  have HX : Hid (NxR w lo xb N.length bl cp (fun t => (nx t).map (fun j : Nat => (j : Int))) ∧ xb ≠ gb ∧ ∀ t g, t < N.length → bl t = some g → g ≠ gb) := ⟨hX, hne.2⟩
  have HNL : Hid (∀ t, t < N.length → (nx t).length ≤ 4096) := hnl
  have HNB : Hid (∀ t, t < N.length → ∀ j ∈ nx t, j < N.length) := hnb
  have HGL : Hid (gb < w.heap.size) := (Array.getElem?_eq_some_iff.1 hc).1
  have HCE : Hid (∀ i k wr, EdI w gb N nx gn cn xb i k wr → ∃ ge ce, wr.cell? ⟨gb, 0, none⟩ = some (.slice (adr gn) N.length cn) ∧ wr.cell? ⟨gb, 1, none⟩ = some (.slice (adr ge) (Sp.eds N nx i k).length ce) ∧ wr.cell? ⟨gb, 2, none⟩ = some (.slice (some ⟨xb, 0, none⟩) N.length N.length) ∧ NdE wr ge ce (Sp.eds N nx i k) ∧ (∀ g, ge = some g → w.heap.size ≤ g)) := fun i k wr ⟨ge, ce, h1, h2, h3, _⟩ => ⟨ge, ce, by simp [World.cell?, h1], by simp [World.cell?, h1], by simp [World.cell?, h1], h2, h3⟩
  clear hc hN hX hne hnl hnb
  go_enter Try.func37, Try.ntmps37
  go_wp2_with fail
  go_loopw [2] (fun v2 wr => ∃ i : Nat, v2 = .int .i64 i ∧ i ≤ N.length ∧ Hid (EdI w gb N nx gn cn xb i 0 wr)) (fun v2 _ => N.length - (intOf v2).toNat)
  case atStart => exact ⟨0, rfl, Nat.zero_le _, H0.out⟩
  case round =>
    obtain ⟨i, rfl, hi, HR⟩ := hrel
    obtain ⟨ge, ce, _, _, k2, _⟩ := HCE.out i 0 wr HR.out
    by_cases hlt : i < N.length
    · have hltz : (i : Int) < (N.length : Int) := by omega
      have hnl1 := HNL.out i hlt
      go_wp2_with fail
      clear k2
      go_loopw [3] (fun v3 wr2 => ∃ k : Nat, v3 = .int .i64 k ∧ k ≤ (nx i).length ∧ Hid (EdI w gb N nx gn cn xb i k wr2)) (fun v3 _ => (nx i).length - (intOf v3).toNat)
      case atStart => exact ⟨0, rfl, Nat.zero_le _, HR.out⟩
      case round =>
        obtain ⟨k, rfl, hk, HS⟩ := hrel
        obtain ⟨ge, ce, k0, k1, k2, hE, hge⟩ := HCE.out i k wr HS.out
        have hfr : Kw (fun k => k = gb) w wr := by obtain ⟨_, _, _, _, _, h⟩ := HS.out; exact h
        have hxl := HX.out.1.lt
        have kx : wr.cell? ⟨xb, i, none⟩ = some (.slice (adr (bl i)) (nx i).length (cp i)) := by
          rw [World.cell?_of_block (w := w) (hfr.block xb hxl.1 HX.out.2.1)]; have := (HX.out.1.cell hlt).1; rwa [List.length_map] at this
        by_cases hkl : k < (nx i).length
        · have hkz : (k : Int) < ((nx i).length : Int) := by omega
          obtain ⟨j, hj⟩ : ∃ j, (nx i)[k]? = some j := ⟨_, List.getElem?_eq_getElem hkl⟩
          have hjn : j < N.length := HNB.out i hlt j (List.mem_of_getElem? hj)
          have hjz : (j : Int) < (N.length : Int) := by omega
          obtain ⟨g, hg⟩ : ∃ g, bl i = some g := by
            cases hb : bl i with
            | some g => exact ⟨g, rfl⟩
            | none => have := ((HX.out.1.row i hlt).1 hb).1; rw [List.map_eq_nil_iff] at this; rw [this] at hkl; simp at hkl
          have kr : wr.cell? ⟨g, k, none⟩ = some (.int .i64 (j : Nat)) := by
            rw [World.cell?_of_block (w := w) (hfr.block g (hxl.2 i g hlt hg) (HX.out.2.2 i g hlt hg))]
            exact ((HX.out.1.row i hlt).2 g hg).cell (by simp [iv, hj])
          obtain ⟨gN, rfl⟩ : ∃ g, gn = some g := by
            cases gn with
            | some g => exact ⟨g, rfl⟩
            | none => have := HN.out.1.1 rfl; subst this; simp at hlt
          obtain ⟨x, hx⟩ : ∃ x, N[i]? = some x := ⟨_, List.getElem?_eq_getElem hlt⟩
          obtain ⟨y, hy⟩ : ∃ y, N[j]? = some y := ⟨_, List.getElem?_eq_getElem hjn⟩
          have hgN := (HN.out.1.2 gN rfl)
          have kN : wr.heap[gN]? = w.heap[gN]? := hfr.block gN hgN.lt (HN.out.2 gN rfl)
          have kn1 : wr.cell? ⟨gN, i, none⟩ = some (.int .u64 x) := (hgN.keep kN).cell (by simp [rv, hx])
          have kn2 : wr.cell? ⟨gN, j, none⟩ = some (.int .u64 y) := (hgN.keep kN).cell (by simp [rv, hy])
          have hsn : Sp.eds N nx i (k + 1) = Sp.eds N nx i k ++ [(x, y)] := by
            rw [eds_snoc hj]; simp [List.getD_eq_getElem?_getD, hx, hy]
          have hel := eds_len N nx HNL.out i k hi (by have := HNL.out i hlt; omega)
          obtain ⟨L, hL⟩ : ∃ L, Sp.eds N nx i k = L := ⟨_, rfl⟩
          rw [hL] at k1 hE hsn hel
          have hLL := hL
          have hl8 : L.length * 8 ≤ 140737488355328 / 4 := by
            have : i * 4096 ≤ 4096 * 4096 := Nat.mul_le_mul_right _ (by omega)
            have := HNL.out i hlt
            omega
          obtain ⟨g', c', w4, hap, ho4, hgr4, hor4⟩ := appE ge ce L wr.drew (hE.keep (fun _ _ => rfl)) x y hl8 23
          have hap' : (Builtin.append_ #[23, 23] 23 #[.slice (adr ge) L.length ce, .slice (some ⟨wr.heap.size, 0, none⟩) 1 1]).run Try.prog (wr.alloc (.cells #[.int .u64 x, .int .u64 y] 41)).drew = .ok (.slice (some ⟨g', 0, none⟩) (L.length + 1) c') w4 := hap
          have hgl : gb < wr.heap.size := Nat.lt_of_lt_of_le HGL.out hfr.size
          have hgeb : ge ≠ some gb := fun e => by have := hge gb e; have := HGL.out; omega
          obtain ⟨_, _, hcells, _⟩ := HS.out
          have hc4 : w4.heap[gb]? = wr.heap[gb]? := (hgr4.block gb (by rw [al_size]; exact Nat.lt_succ_of_lt hgl) (fun e => hgeb e.symm)).trans (Below.heap_alloc wr.drew _ gb hgl)
          have n1 : w4.cell? ⟨gb, 1, none⟩ = some (.slice (adr ge) L.length ce) := by rw [World.cell?_of_block (w := wr) hc4]; exact k1
          have nf : w4.frozen? ⟨gb, 1, none⟩ = false := by rw [World.frozen?_of_block (w := wr) hc4]; simp [World.frozen?, hcells]
          have HF : Hid (EdI w gb N nx (some gN) cn xb i (k + 1) (w4.setCell ⟨gb, 1, none⟩ (.slice (some ⟨g', 0, none⟩) (L.length + 1) c'))) := by
            have hg'w : w.heap.size ≤ g' := by
              rcases hor4 with h | h
              · exact hge g' h
              · have := hfr.size; have : wr.drew.heap.size = wr.heap.size := rfl; omega
            have hg'b : g' ≠ gb := by have := HGL.out; omega
            refine ⟨some g', c', ?_, ⟨(fun h => by cases h), fun g2 hg2 => ?_⟩, fun g2 hg2 => ?_, ?_⟩
            · rw [hsn, Sort.setCell_eq]; show (w4.heap.modify gb _)[gb]? = _
              obtain ⟨ge0, ce0, hc0, _⟩ := HS.out
              rw [Array.getElem?_modify, if_pos rfl, hc4, hc0, List.length_append]
              rfl
            · injection hg2 with hg2; subst hg2
              rw [hsn]
              have := ho4.keep (Below.heap_setCell w4 ⟨gb, 1, none⟩ (.slice (some ⟨g', 0, none⟩) (L.length + 1) c') g' hg'b)
              simpa using this
            · injection hg2 with hg2; subst hg2; exact hg'w
            · refine Kw.set (M := fun k => k = gb) ?_ (.inl rfl) _
              refine ⟨hgr4.os.trans hfr.os, hgr4.tape.trans hfr.tape, hgr4.output.trans hfr.output, ?_, fun m h1 h2 => ?_⟩
              · have := hgr4.size; rw [al_size] at this; have e : wr.drew.heap.size = wr.heap.size := rfl; have := hfr.size; omega
              · have h3 : m < wr.heap.size := Nat.lt_of_lt_of_le h1 hfr.size
                exact ((hgr4.block m (by rw [al_size]; exact Nat.lt_succ_of_lt h3) (fun e => by have := hge m e.symm; omega)).trans (Below.heap_alloc wr.drew _ m h3)).trans (hfr.block m h1 h2)
          have ea : adr (bl i) = some ⟨g, 0, none⟩ := by rw [hg]; rfl
          have ea2 : adr (some gN) = some ⟨gN, 0, none⟩ := rfl
          have kal : ∀ b o o', b < wr.heap.size → (wr.alloc o).cell? ⟨b, o', none⟩ = wr.cell? ⟨b, o', none⟩ := fun b o o' hb => World.cell?_of_block (Below.heap_alloc wr o b hb)
          have a0 : ∀ o, (wr.alloc o).cell? ⟨gb, 0, none⟩ = some (.slice (adr (some gN)) N.length cn) := fun o => by rw [kal gb o 0 hgl]; exact k0
          have a1 : ∀ o, (wr.alloc o).cell? ⟨gb, 1, none⟩ = some (.slice (adr ge) L.length ce) := fun o => by rw [kal gb o 1 hgl]; exact k1
          have HSW : Hid (wr.drew.cell? ⟨gb, 0, none⟩ = some (.slice (adr (some gN)) N.length cn) ∧ wr.drew.cell? ⟨gb, 1, none⟩ = some (.slice (adr ge) L.length ce) ∧ wr.drew.cell? ⟨gb, 2, none⟩ = some (.slice (some ⟨xb, 0, none⟩) N.length N.length) ∧ wr.drew.cell? ⟨xb, i, none⟩ = some (.slice (some ⟨g, 0, none⟩) (nx i).length (cp i)) ∧ wr.drew.cell? ⟨gN, i, none⟩ = some (.int .u64 x) ∧ wr.drew.cell? ⟨gN, j, none⟩ = some (.int .u64 y) ∧ wr.drew.cell? ⟨g, k, none⟩ = some (.int .i64 (j : Nat))) := ⟨k0, k1, k2, by rw [← ea]; exact kx, kn1, kn2, kr⟩
          have HSA : Hid ((wr.drew.alloc (.cells #[.int .u64 x, .int .u64 y] 41)).cell? ⟨gb, 0, none⟩ = some (.slice (adr (some gN)) N.length cn) ∧ (wr.drew.alloc (.cells #[.int .u64 x, .int .u64 y] 41)).cell? ⟨gb, 1, none⟩ = some (.slice (adr ge) L.length ce) ∧ (wr.drew.alloc (.cells #[.int .u64 x, .int .u64 y] 41)).cell? ⟨gb, 2, none⟩ = some (.slice (some ⟨xb, 0, none⟩) N.length N.length) ∧ (wr.drew.alloc (.cells #[.int .u64 x, .int .u64 y] 41)).cell? ⟨xb, i, none⟩ = some (.slice (some ⟨g, 0, none⟩) (nx i).length (cp i)) ∧ (wr.drew.alloc (.cells #[.int .u64 x, .int .u64 y] 41)).cell? ⟨gN, i, none⟩ = some (.int .u64 x) ∧ (wr.drew.alloc (.cells #[.int .u64 x, .int .u64 y] 41)).cell? ⟨gN, j, none⟩ = some (.int .u64 y) ∧ (wr.drew.alloc (.cells #[.int .u64 x, .int .u64 y] 41)).cell? ⟨g, k, none⟩ = some (.int .i64 (j : Nat))) := by
            obtain ⟨s0, s1, s2, s3, s4, s5, s6⟩ := HSW.out
            refine ⟨?_, ?_, ?_, ?_, ?_, ?_, ?_⟩ <;> rw [World.cell?_alloc_some _ _ _ (by simp only [s0, s1, s2, s3, s4, s5, s6]; rfl)] <;> assumption
          clear hap ho4 hgr4 hor4 hc4 hj hx hy hg hgN kN hE hge hfr hel hl8 hcells
          go_wp2_with fail
          refine wp_region_mark (fun X => X.cell? ⟨gb, 0, none⟩ = some (.slice (adr (some gN)) N.length cn) ∧ X.cell? ⟨gb, 1, none⟩ = some (.slice (adr ge) L.length ce) ∧ X.cell? ⟨gb, 2, none⟩ = some (.slice (some ⟨xb, 0, none⟩) N.length N.length) ∧ X.cell? ⟨xb, i, none⟩ = some (.slice (some ⟨g, 0, none⟩) (nx i).length (cp i)) ∧ X.cell? ⟨gN, i, none⟩ = some (.int .u64 x) ∧ X.cell? ⟨gN, j, none⟩ = some (.int .u64 y) ∧ X.cell? ⟨g, k, none⟩ = some (.int .i64 (j : Nat))) 30 (by kernel_rfl) ?_
          have hHeld := HSW.out
          refine tkF (i := 0) (v := ?_) rfl (by kernel_rfl) (by rfl) ?_ (.inr (by assumption)) ?_
          rotate_left
          · intro W hSw; go_simp; try (with_reducible rfl)
          simp only [Act.put, lsA, lsB, lsC]
          refine tkF (i := 1) (v := ?_) rfl (by kernel_rfl) (by rfl) ?_ (.inr (by assumption)) ?_
          rotate_left
          · intro W hSw; go_simp; try (with_reducible rfl)
          simp only [Act.put, lsA, lsB, lsC]
          refine tkF (i := 2) (v := ?_) rfl (by kernel_rfl) (by rfl) ?_ (.inr (by assumption)) ?_
          rotate_left
          · intro W hSw; go_simp; try (with_reducible rfl)
          simp only [Act.put, lsA, lsB, lsC]
          refine tkF (i := 3) (v := ?_) rfl (by kernel_rfl) (by rfl) ?_ (.inr (by assumption)) ?_
          rotate_left
          · intro W hSw; go_simp; try (with_reducible rfl)
          simp only [Act.put, lsA, lsB, lsC]
          refine tkM (i := 4) (v := ?_) [] rfl (by kernel_rfl) (by rfl) ?_ (by assumption) ?_
          rotate_left
          · intro W hSw; (try dsimp only at hSw); go_simp; try (with_reducible rfl)
          simp only [Act.put, lsA, lsB, lsC]
          refine tkF (i := 5) (v := ?_) rfl (by kernel_rfl) (by rfl) ?_ (.inr (by assumption)) ?_
          rotate_left
          · intro W hSw; go_simp; try (with_reducible rfl)
          simp only [Act.put, lsA, lsB, lsC]
          refine tkF (i := 6) (v := ?_) rfl (by kernel_rfl) (by rfl) ?_ (.inr (by assumption)) ?_
          rotate_left
          · intro W hSw; go_simp; try (with_reducible rfl)
          simp only [Act.put, lsA, lsB, lsC]
          refine tkF (i := 7) (v := ?_) rfl (by kernel_rfl) (by rfl) ?_ (.inr (by assumption)) ?_
          rotate_left
          · intro W hSw; go_simp; try (with_reducible rfl)
          simp only [Act.put, lsA, lsB, lsC]
          refine tkM (i := 8) (v := ?_) [29, 28, 11, 10] rfl (by kernel_rfl) (by rfl) ?_ (by assumption) ?_
          rotate_left
          · intro W hSw; (try dsimp only at hSw); go_simp; try (with_reducible rfl)
          simp only [Act.put, lsA, lsB, lsC]
          refine tkF (i := 9) (v := ?_) rfl (by kernel_rfl) (by rfl) ?_ (.inr (by assumption)) ?_
          rotate_left
          · intro W hSw; go_simp; try (with_reducible rfl)
          simp only [Act.put, lsA, lsB, lsC]
          refine tkF (i := 10) (v := ?_) rfl (by kernel_rfl) (by rfl) ?_ (.inr (by assumption)) ?_
          rotate_left
          · intro W hSw; go_simp; try (with_reducible rfl)
          simp only [Act.put, lsA, lsB, lsC]
          refine tkM (i := 11) (v := ?_) [29, 28] rfl (by kernel_rfl) (by rfl) ?_ (by assumption) ?_
          rotate_left
          · intro W hSw; (try dsimp only at hSw); go_simp; try (with_reducible rfl)
          simp only [Act.put, lsA, lsB, lsC]
          refine tkF (i := 12) (v := ?_) rfl (by kernel_rfl) (by rfl) ?_ (.inr (by assumption)) ?_
          rotate_left
          · intro W hSw; go_simp; try (with_reducible rfl)
          simp only [Act.put, lsA, lsB, lsC]
          refine tkF (i := 13) (v := ?_) rfl (by kernel_rfl) (by rfl) ?_ (.inr (by assumption)) ?_
          rotate_left
          · intro W hSw; go_simp; try (with_reducible rfl)
          simp only [Act.put, lsA, lsB, lsC]
          refine tkF (i := 14) (v := ?_) rfl (by kernel_rfl) (by rfl) ?_ (.inr (by assumption)) ?_
          rotate_left
          · intro W hSw; go_simp; try (with_reducible rfl)
          simp only [Act.put, lsA, lsB, lsC]
          refine tkM (i := 15) (v := ?_) [29, 28, 27, 26] rfl (by kernel_rfl) (by rfl) ?_ (by assumption) ?_
          rotate_left
          · intro W hSw; (try dsimp only at hSw); go_simp; try (with_reducible rfl)
          simp only [Act.put, lsA, lsB, lsC]
          refine tkF (i := 16) (v := ?_) rfl (by kernel_rfl) (by rfl) ?_ (.inr (by assumption)) ?_
          rotate_left
          · intro W hSw; go_simp; try (with_reducible rfl)
          simp only [Act.put, lsA, lsB, lsC]
          refine tkF (i := 17) (v := ?_) rfl (by kernel_rfl) (by rfl) ?_ (.inr (by assumption)) ?_
          rotate_left
          · intro W hSw; go_simp; try (with_reducible rfl)
          simp only [Act.put, lsA, lsB, lsC]
          refine tkF (i := 18) (v := ?_) rfl (by kernel_rfl) (by rfl) ?_ (.inr (by assumption)) ?_
          rotate_left
          · intro W hSw; go_simp; try (with_reducible rfl)
          simp only [Act.put, lsA, lsB, lsC]
          refine tkM (i := 19) (v := ?_) [29, 28, 27, 26, 25, 24, 22, 21] rfl (by kernel_rfl) (by rfl) ?_ (by assumption) ?_
          rotate_left
          · intro W hSw; (try dsimp only at hSw); go_simp; try (with_reducible rfl)
          simp only [Act.put, lsA, lsB, lsC]
          refine tkF (i := 20) (v := ?_) rfl (by kernel_rfl) (by rfl) ?_ (.inr (by assumption)) ?_
          rotate_left
          · intro W hSw; go_simp; try (with_reducible rfl)
          simp only [Act.put, lsA, lsB, lsC]
          refine tkF (i := 21) (v := ?_) rfl (by kernel_rfl) (by rfl) ?_ (.inr (by assumption)) ?_
          rotate_left
          · intro W hSw; go_simp; try (with_reducible rfl)
          simp only [Act.put, lsA, lsB, lsC]
          refine tkM (i := 22) (v := ?_) [29, 28, 27, 26, 25, 24] rfl (by kernel_rfl) (by rfl) ?_ (by assumption) ?_
          rotate_left
          · intro W hSw; (try dsimp only at hSw); go_simp; try (with_reducible rfl)
          simp only [Act.put, lsA, lsB, lsC]
          refine tkF (i := 23) (v := ?_) rfl (by kernel_rfl) (by rfl) ?_ (.inr (by assumption)) ?_
          rotate_left
          · intro W hSw; go_simp; try (with_reducible rfl)
          simp only [Act.put, lsA, lsB, lsC]
          refine tkF (i := 24) (v := ?_) rfl (by kernel_rfl) (by rfl) ?_ (.inr (by assumption)) ?_
          rotate_left
          · intro W hSw; go_simp; try (with_reducible rfl)
          simp only [Act.put, lsA, lsB, lsC]
          refine tkM (i := 25) (v := ?_) [29, 28, 27, 26] rfl (by kernel_rfl) (by rfl) ?_ (by assumption) ?_
          rotate_left
          · intro W hSw; (try dsimp only at hSw); go_simp; try (with_reducible rfl)
          simp only [Act.put, lsA, lsB, lsC]
          refine tkF (i := 26) (v := ?_) rfl (by kernel_rfl) (by rfl) ?_ (.inr (by assumption)) ?_
          rotate_left
          · intro W hSw; go_simp; try (with_reducible rfl)
          simp only [Act.put, lsA, lsB, lsC]
          refine tkM (i := 27) (v := ?_) [29, 28] rfl (by kernel_rfl) (by rfl) ?_ (by assumption) ?_
          rotate_left
          · intro W hSw; (try dsimp only at hSw); go_simp; try (with_reducible rfl)
          simp only [Act.put, lsA, lsB, lsC]
          refine tkF (i := 28) (v := ?_) rfl (by kernel_rfl) (by rfl) ?_ (.inr (by assumption)) ?_
          rotate_left
          · intro W hSw; go_simp; try (with_reducible rfl)
          simp only [Act.put, lsA, lsB, lsC]
          refine tkO (i := 29) (by kernel_rfl) rfl (fun K hK => ?_)
          go_simp
          clear hHeld
          have hHeld := HSA.out
          refine hK.out _ _ (.inr hHeld) ?_
          clear hK K
          refine tkO (i := 30) (by kernel_rfl) rfl (fun K hK => ?_)
          refine step_ran (by rfl) _ _ 23 23 (by rfl) _ _ _ (by rfl) (by rfl) hap' ?_
          refine hK.out _ _ (.inl (by kernel_rfl)) ?_
          clear hK K
          try simp only [Act.put, lsA, lsB, lsC]
          refine tkF (i := 31) (v := ?_) rfl (by kernel_rfl) (by rfl) ?_ (.inl (by kernel_rfl)) ?_
          rotate_left
          · intro W hSw; go_simp; try (with_reducible rfl)
          simp only [Act.put, lsA, lsB, lsC]
          refine tkF (i := 32) (v := ?_) rfl (by kernel_rfl) (by rfl) ?_ (.inl (by kernel_rfl)) ?_
          rotate_left
          · intro W hSw; go_simp; try (with_reducible rfl)
          simp only [Act.put, lsA, lsB, lsC]
          refine tkO (i := 33) (by kernel_rfl) rfl (fun K hK => ?_)
          go_simp
          refine hK.out _ _ (.inl (by kernel_rfl)) ?_
          clear hK K
          refine wpAnyM_done (by kernel_rfl) ?_ _
          go_wp2_with fail
          go_roundw
          case rel => exact ⟨k + 1, by go_num, by omega, HF.out⟩
          case measure => simp [intOf]; omega
        · obtain rfl : k = (nx i).length := by omega
          have HE : Hid (EdI w gb N nx gn cn xb (i + 1) 0 wr) := by
            have := HS.out
            unfold EdI at this
            rw [eds_next] at this
            exact this
          have hkz : ¬ (((nx i).length : Int) < ((nx i).length : Int)) := by omega
          clear HS hE hge hfr k1
          go_wp2_with fail
          go_roundw
          case rel => exact ⟨i + 1, by go_num, by omega, HE.out⟩
          case measure => simp [intOf]; omega
    · obtain rfl : i = N.length := by omega
      clear k2
      obtain ⟨ge, ce, _, _, k2, _⟩ := HCE.out N.length 0 wr HR.out
      go_wp2_with fail
      go_end0
      exact ⟨rfl, HR.out⟩
end Go.Proofs.Ytilhheianbbbjaa

