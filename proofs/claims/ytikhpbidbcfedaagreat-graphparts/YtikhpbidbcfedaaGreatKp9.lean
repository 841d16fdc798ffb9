/- graph.bare: what its parts are, ahead of the walk. -/
import Derived.Test.YtikhpbidbcfedaaGreatKp2
import Derived.Test.YtikhpbidbcfedaaGreatKp3
import Derived.Test.YtikhpbidbcfedaaGreatKp8
import Derived.Deep.RegionWith
import Derived.Laws.MakeOwn
import Derived.Deep.Cut
namespace Go.Proofs.YtikhpbidbcfedaaGreat
open Go.RowKit Go.ChangeMaps

theorem al_get (w : World) (o : Obj) (k : Nat) : (w.alloc o).heap[k]? = if k = w.heap.size then some o else w.heap[k]? := by
  show (w.heap.push o)[k]? = _
  rw [Array.getElem?_push]
theorem al_size (w : World) (o : Obj) : (w.alloc o).heap.size = w.heap.size + 1 := by simp
def Nds (w : World) (gs : Option Nat) (c : Nat) (l : List Int) : Prop := (gs = none → l = []) ∧ ∀ g, gs = some g → OwnR w 25 g l.length c (rv l)
def adr (gs : Option Nat) : Option Addr := gs.map fun g => ⟨g, 0, none⟩
theorem Nds.keep {w w' : World} {gs : Option Nat} {c : Nat} {l : List Int} (h : Nds w gs c l) (hb : ∀ g, gs = some g → w'.heap[g]? = w.heap[g]?) : Nds w' gs c l := ⟨h.1, fun g hg => (h.2 g hg).keep (hb g hg)⟩
theorem OwnR.sorted {w w' : World} {e : TypeId} {g n c : Nat} {l : List Int} {d' : Array Int} (h : OwnR w e g n c (rv l)) (hs : SR w g 0 l.toArray d' w') : OwnR w' e g n c (rv d'.toList) := by
  have hl : l.length = n := by simpa using h.len
  have hz : d'.size = n := by rw [hs.sz]; simpa using hl
  obtain ⟨cur, h1, h2, h3, h4, h5⟩ := h.blk
  obtain ⟨cur', k1, k2, k3⟩ := hs.row cur e (0, 0) h1
  refine ⟨by simp [hz], cur', k1, h2, h3, by omega, ?_⟩
  apply List.ext_getElem?
  intro t
  by_cases ht : t < n
  · have := (hs.holds t (by omega)).1
    rw [Nat.zero_add] at this
    simp only [World.cell?, k1] at this
    rw [List.getElem?_take, if_pos ht]
    have ht2 : t < d'.size := by omega
    simp [rv, ht2] at this ⊢
    exact this.symm
  · rw [List.getElem?_eq_none (by simp; omega), List.getElem?_eq_none (by simp; omega)]

def Srt (w : World) (gs : Option Nat) (w' : World) : Prop := w'.os = w.os ∧ w'.tape = w.tape ∧ w'.output = w.output ∧ w.heap.size ≤ w'.heap.size ∧ ∀ j, j < w.heap.size → gs ≠ some j → w'.heap[j]? = w.heap[j]?
theorem sortN (gs : Option Nat) (c : Nat) (l : List Int) (w : World) (h : Nds w gs c l) (hl : l.length < 4611686018427387904) :
    Calls Tryz.prog 48 #[.slice (adr gs) l.length c] w fun e w' => e = .returned (.tuple #[]) ∧ Nds w' gs c (Sp.srt l) ∧ Srt w gs w' := by
  cases gs with
  | none =>
    have hn := h.1 rfl
    subst hn
    refine (sort_none _ c w).mono ?_
    rintro e w' ⟨rfl, rfl⟩
    exact ⟨rfl, ⟨fun _ => by simp [Sp.srt], fun g hg => by cases hg⟩, rfl, rfl, rfl, Nat.le_refl _, fun _ _ _ => rfl⟩
  | some g =>
    have ho := h.2 g rfl
    have hc := sort_ref g 0 c l.toArray w ho.holds ho.lt (by simpa using hl)
    refine (show Calls Tryz.prog 48 #[.slice (adr (some g)) l.length c] w _ from by simpa [adr] using hc).mono ?_
    rintro e w' ⟨rfl, hs⟩
    refine ⟨rfl, ⟨(fun h => by cases h), fun g' hg => ?_⟩, hs.os, hs.tape, hs.output, hs.size, fun j h1 h2 => hs.block j h1 (fun e => h2 (by rw [e]))⟩
    injection hg with hg
    subst hg
    have := ho.sorted hs
    rw [show (Sp.srt l).length = l.length from srt_len l]
    simpa [Sp.srt] using this

structure BrI (w0 : World) (n : Nat) (gb : Nat) (gs : Option Nat) (c mb xb : Nat) (l : List Int) (w : World) : Prop where
  bel : Below w0.heap.size w0 w
  cells : w.heap[gb]? = some (.cells #[.slice (adr gs) n c, .map (some mb), .slice (some ⟨xb, 0, none⟩) n n] 72 (0, 0))
  nds : Nds w gs c l
  map : w.heap[mb]? = some (.map #[] 0)
  nxt : ∃ cur : Array Value, w.heap[xb]? = some (.cells cur 60 (0, 0)) ∧ cur.size = n ∧ ∀ t, t < n → cur[t]? = some (.slice none 0 0)
  lo : w0.heap.size ≤ gb ∧ w0.heap.size ≤ mb ∧ w0.heap.size ≤ xb ∧ ∀ g, gs = some g → w0.heap.size ≤ g
  ne : gb ≠ mb ∧ gb ≠ xb ∧ mb ≠ xb ∧ ∀ g, gs = some g → g ≠ gb ∧ g ≠ mb ∧ g ≠ xb
theorem cloneN (a : Option Addr) (cap : Nat) (l : List Int) (B : Nat) (w : World) (h : RefsAt w B a l) (hB : B ≤ w.heap.size) (hl : l.length * 8 ≤ 140737488355328) :
    Calls Tryz.prog 47 #[.slice a l.length cap] w fun e w' => ∃ gs c, e = .returned (.slice (adr gs) l.length c) ∧ Nds w' gs c l ∧ (∀ g, gs = some g → w.heap.size ≤ g ∧ g < w'.heap.size) ∧ Below w.heap.size w w' := by
  refine (clone_any a cap l B w h hB hl).mono ?_
  rintro e w' ⟨a', c, rfl, h1 | ⟨g, rfl, h2, h3⟩, hb⟩
  · obtain ⟨rfl, rfl, rfl⟩ := h1
    exact ⟨none, c, rfl, ⟨fun _ => rfl, fun g hg => by cases hg⟩, (fun g hg => by cases hg), hb⟩
  · refine ⟨some g, c, rfl, ⟨(fun h => by cases h), fun g' hg => ?_⟩, fun g' hg => ?_, hb⟩
    · injection hg with hg; subst hg; exact h3
    · injection hg with hg; subst hg; exact ⟨h2, h3.lt⟩
structure Bar (w0 w : World) (gb : Nat) (gs : Option Nat) (c mb xb n : Nat) (G : List (Int × Int)) (N : List Int) : Prop where
  bel : Below w0.heap.size w0 w
  cells : w.heap[gb]? = some (.cells #[.slice (adr gs) n c, .map (some mb), .slice (some ⟨xb, 0, none⟩) n n] 72 (0, 0))
  nds : Nds w gs c N
  map : ∃ es ck, MpI w mb G es ck
  fro : ∀ k v, (k, v) ∈ G → ∃ t : Nat, v = t ∧ N[t]? = some k
  to : ∀ k, k ∈ N → ∃ v, (k, v) ∈ G
  nxt : ∃ cur : Array Value, w.heap[xb]? = some (.cells cur 60 (0, 0)) ∧ cur.size = n ∧ ∀ t, t < n → cur[t]? = some (.slice none 0 0)
  lo : w0.heap.size ≤ gb ∧ w0.heap.size ≤ mb ∧ w0.heap.size ≤ xb ∧ ∀ g, gs = some g → w0.heap.size ≤ g
  ne : gb ≠ mb ∧ gb ≠ xb ∧ mb ≠ xb ∧ ∀ g, gs = some g → g ≠ gb ∧ g ≠ mb ∧ g ≠ xb
structure BrQ (w2 : World) (mb : Nat) (N : List Int) (i : Nat) (G : List (Int × Int)) (es : Array MapEntry) (ck : Nat) (wr : World) : Prop where
  mp : MpI wr mb G es ck
  os : wr.os = w2.os
  tape : wr.tape = w2.tape
  output : wr.output = w2.output
  size : wr.heap.size = w2.heap.size
  block : ∀ k, k ≠ mb → wr.heap[k]? = w2.heap[k]?
  fro : ∀ k v, (k, v) ∈ G → ∃ t : Nat, v = t ∧ t < i ∧ N[t]? = some k
  to : ∀ k, k ∈ N.take i → ∃ v, (k, v) ∈ G
  nd : (N.take i).Nodup → G.length = i
  dup : ¬ (N.take i).Nodup → G.length < i
theorem BrQ.step {w2 wr : World} {mb i : Nat} {N : List Int} {G G' : List (Int × Int)} {es es' : Array MapEntry} {ck ck' : Nat} (h : BrQ w2 mb N i G es ck wr) {x : Int} (hx : N[i]? = some x)
    (h1 : MpI (setBlock wr mb (.map es' ck')) mb G' es' ck') (h2 : ∀ k v, (k, v) ∈ G' ↔ (k = x ∧ v = (i : Int)) ∨ (k ≠ x ∧ (k, v) ∈ G)) (h3 : G'.length = G.length + (if x ∈ G.map (·.1) then 0 else 1)) : BrQ w2 mb N (i + 1) G' es' ck' (setBlock wr mb (.map es' ck')) := by
  have ht : N.take (i + 1) = N.take i ++ [x] := by rw [List.take_add_one, hx]; rfl
  have hk : x ∈ G.map (·.1) ↔ x ∈ N.take i := by
    constructor
    · intro h4
      obtain ⟨⟨k, v⟩, h5, h6⟩ := List.mem_map.1 h4
      obtain ⟨t, _, h7, h8⟩ := h.fro k v h5
      simp at h6
      subst h6
      exact List.mem_of_getElem? (i := t) (by rw [List.getElem?_take, if_pos h7]; exact h8)
    · intro h4
      obtain ⟨v, h5⟩ := h.to x h4
      exact List.mem_map.2 ⟨_, h5, rfl⟩
  refine ⟨h1, h.os, h.tape, h.output, (setG_size _ _ _).trans h.size, fun k hk => (setG_other hk).trans (h.block k hk), fun k v hm => ?_, fun k hm => ?_, fun hn => ?_, fun hn => ?_⟩
  · rcases (h2 k v).1 hm with ⟨rfl, rfl⟩ | ⟨_, h5⟩
    · exact ⟨i, rfl, by omega, hx⟩
    · obtain ⟨t, e, h6, h7⟩ := h.fro k v h5
      exact ⟨t, e, by omega, h7⟩
  · by_cases e : k = x
    · exact ⟨i, (h2 k i).2 (.inl ⟨e, rfl⟩)⟩
    · rw [ht, List.mem_append, List.mem_singleton] at hm
      obtain ⟨v, hv⟩ := h.to k (hm.resolve_right e)
      exact ⟨v, (h2 k v).2 (.inr ⟨e, hv⟩)⟩
  · rw [ht, List.nodup_append] at hn
    have hno : x ∉ N.take i := fun hm => hn.2.2 x hm x (by simp) rfl
    rw [h3, if_neg (fun hm => hno (hk.1 hm)), h.nd hn.1]
  · rw [h3]
    by_cases hn0 : (N.take i).Nodup
    · have hyes : x ∈ N.take i := by
        apply Classical.byContradiction
        intro hno
        apply hn
        rw [ht, List.nodup_append]
        exact ⟨hn0, by simp, fun a ha b hb => by simp at hb; subst hb; exact fun e => hno (e ▸ ha)⟩
      rw [if_pos (hk.2 hyes), h.nd hn0]; omega
    · have := h.dup hn0
      split <;> omega
theorem Tryz.infoSl : (Tryz.prog.info? 60).map (fun i => (i.zero, i.size, i.bytes)) = some (some (.slice none 0 0), 1, 24) := by kernel_rfl
theorem Tryz.undSS : Tryz.prog.underlying 70 = some (.slice 60) := by kernel_rfl
theorem dr_heap (w : World) : w.drew.heap = w.heap := rfl
theorem brI_mk {w W3 : World} {n gb : Nat} {gs : Option Nat} {c mb xb : Nat} {l : List Int} {M : Array Value} (bel : Below w.heap.size w W3) (hn : Nds W3 gs c l) (hm : W3.heap[mb]? = some (.map #[] 0)) (hx : W3.heap[xb]? = some (.cells M 60 (0, 0)))
    (hM : M.size = n ∧ ∀ t, t < n → M[t]? = some (.slice none 0 0)) (l1 : w.heap.size ≤ mb) (l2 : w.heap.size ≤ xb) (l3 : ∀ g, gs = some g → w.heap.size ≤ g) (n1 : mb ≠ xb) (n2 : ∀ g, gs = some g → g ≠ mb ∧ g ≠ xb) (hgb : gb = W3.heap.size) :
    BrI w n gb gs c mb xb l (W3.alloc (.cells #[.slice (adr gs) n c, .map (some mb), .slice (some ⟨xb, 0, none⟩) n n] 72)) := by
  subst hgb
  have hm1 : mb < W3.heap.size := (Array.getElem?_eq_some_iff.1 hm).1
  have hx1 : xb < W3.heap.size := (Array.getElem?_eq_some_iff.1 hx).1
  have hg1 : ∀ g, gs = some g → g < W3.heap.size := fun g hg => (hn.2 g hg).lt
  have old : ∀ o k, k < W3.heap.size → (W3.alloc o).heap[k]? = W3.heap[k]? := fun o k hk => Below.heap_alloc W3 o k hk
  exact ⟨bel.alloc bel.size _, heap_alloc_new _ _, hn.keep (fun g hg => old _ g (hg1 g hg)), (old _ _ hm1).trans hm, ⟨M, (old _ _ hx1).trans hx, hM.1, hM.2⟩, ⟨bel.size, l1, l2, l3⟩, ⟨by omega, by omega, n1, fun g hg => ⟨by have := hg1 g hg; omega, (n2 g hg).1, (n2 g hg).2⟩⟩⟩
end Go.Proofs.YtikhpbidbcfedaaGreat

/- graph.bare: the first statement. -/
namespace Go.Proofs.YtikhpbidbcfedaaGreat
open Go.RowKit Go.ChangeMaps

set_option maxRecDepth 100000 in
set_option maxHeartbeats 8000000 in
theorem bare_any (a : Option Addr) (cap : Nat) (l : List Int) (B : Nat) (w : World) (h : RefsAt w B a l) (hB : B ≤ w.heap.size) (hl : l.length ≤ 4096) :
    Calls Tryz.prog 26 #[.slice a l.length cap] w fun e w' =>
      ∃ gb gs c mb xb G, e = .returned (.tuple #[.pointer (some ⟨gb, 0, none⟩), .bool (decide ((0 : Int) ∉ l ∧ l.Nodup))]) ∧ Bar w w' gb gs c mb xb l.length G (Sp.srt l) := by
  have hmap := mk_mapI
  obtain ⟨i0, hi, hz0, hz1, hz2⟩ := info_parts Tryz.infoSl
  obtain ⟨M, hM⟩ : ∃ M, M = madeCells (Value.slice none 0 0).cells (((l.length : Nat) : Int).toNat * i0.size) := ⟨_, rfl⟩
  have hMs : M.size = l.length := by rw [hM, size_madeCells, hz1]; simp
  have hMt : ∀ t, t < l.length → M[t]? = some (.slice none 0 0) := fun t ht => by rw [hM]; simp [madeCells, hz1, ht, Value.cells, Nat.mod_one]
  have hmake : ∀ W : World, (Instr.makeSlice 70 (.int .i64 (l.length : Int)) (.int .i64 (l.length : Int))).run Tryz.prog W = .ok (.slice (some ⟨W.heap.size, 0, none⟩) l.length l.length) (W.alloc (.cells M 60)) := fun W => by
    have h := run_make (P := Tryz.prog) W 70 60 i0 (.slice none 0 0) Tryz.undSS hi hz0 .i64 .i64 (l.length : Int) (l.length : Int) (by omega) (by omega) (by rw [hz2]; omega) (by omega)
    rw [← hM] at h; simpa using h
  have HC : Hid (∀ W, Below w.heap.size w W → Calls Tryz.prog 47 #[.slice a l.length cap] W fun e w' => ∃ gs c, e = .returned (.slice (adr gs) l.length c) ∧ Nds w' gs c l ∧ (∀ g, gs = some g → W.heap.size ≤ g ∧ g < w'.heap.size) ∧ Below W.heap.size W w') := fun W hW => cloneN a cap l B W (h.keep (hW.mono hB)) (Nat.le_trans hB hW.size) (by omega)
  have HM : Hid (M.size = l.length ∧ ∀ t, t < l.length → M[t]? = some (.slice none 0 0)) := ⟨hMs, hMt⟩
  have HBD : Hid (∀ x ∈ l, 0 ≤ x ∧ x < 18446744073709551616) := h.bd
  clear hM hMs hMt h
  go_enter Tryz.func26, Tryz.ntmps26
  go_wp2_with fail
  go_upto_region 1 with fail
  go_cut [4] from 9 (fun s4 wc => ∃ gb gs c mb xb, s4 = .pointer (some ⟨gb, 0, none⟩) ∧ Hid (BrI w l.length gb gs c mb xb l wc))
  case first =>
    go_region_with (first | (go_at_call 47; refine (HC.out _ (by first | exact (Below.refl _ _).drew | exact ((Below.refl _ _).drew.alloc (Nat.le_refl _) _) | exact (((Below.refl _ _).drew.alloc (Nat.le_refl _) _).alloc (show w.heap.size ≤ (w.drew.alloc _).heap.size by rw [al_size]; exact Nat.le_succ _) _))).mono ?_; rintro e w1 ⟨gs, c, rfl, hn1, hn2, hn3⟩))
    all_goals go_wp2_with fail
    all_goals go_meet
    all_goals
      refine ⟨_, gs, c, _, _, rfl, show BrI _ _ _ _ _ _ _ _ _ from brI_mk ?_ ?_ ?_ ?_ HM.out ?_ ?_ ?_ ?_ ?_ (by first | rfl | (rw [al_size]; done) | (rw [al_size, al_size]; done))⟩
      · first
          | exact ⟨hn3.os, hn3.tape, hn3.output, hn3.size, hn3.block⟩
          | exact (((⟨hn3.os, hn3.tape, hn3.output, hn3.size, hn3.block⟩ : Below w.heap.size w w1).alloc hn3.size _).alloc (by have hq := hn3.size; (try simp only [dr_heap, al_size] at *); omega) _)
          | exact (((((Below.refl w.heap.size w).alloc (Nat.le_refl _) _).drew).trans (hn3.mono (by have hq := hn3.size; (try simp only [dr_heap, al_size] at *); omega))).alloc (by have hq := hn3.size; (try simp only [dr_heap, al_size] at *); omega) _)
          | exact (((((Below.refl w.heap.size w).alloc (Nat.le_refl _) _).alloc (by simp only [al_size]; omega) _).drew).trans (hn3.mono (by have hq := hn3.size; (try simp only [dr_heap, al_size] at *); omega)))
      · first
          | exact hn1
          | exact hn1.keep (fun g hg => Below.heap_alloc _ _ _ (hn2 g hg).2)
          | exact hn1.keep (fun g hg => (Below.heap_alloc _ _ _ (by have hq := (hn2 g hg).2; simp only [al_size]; omega)).trans (Below.heap_alloc _ _ _ (hn2 g hg).2))
      iterate 2
        first
          | exact heap_alloc_new _ _
          | rw [al_get, if_pos (show _ = _ by first | (rw [al_size]; done) | fail)]
          | rw [hn3.block _ (by have hq := hn3.size; (try simp only [dr_heap, al_size] at *); omega), dr_heap, al_get, if_pos (show _ = _ by first | (rw [al_size]; done) | fail)]
          | (rw [al_get, if_neg (by have hq := hn3.size; (try simp only [dr_heap, al_size] at *); omega)]; exact heap_alloc_new _ _)
          | (rw [al_get, if_neg (by have hq := hn3.size; (try simp only [dr_heap, al_size] at *); omega), hn3.block _ (by have hq := hn3.size; (try simp only [dr_heap, al_size] at *); omega)]; exact heap_alloc_new _ _)
          | (rw [hn3.block _ (by have hq := hn3.size; (try simp only [dr_heap, al_size] at *); omega)]; exact heap_alloc_new _ _)
          | (rw [hn3.block _ (by have hq := hn3.size; (try simp only [dr_heap, al_size] at *); omega), dr_heap, al_get, if_neg (by have hq := hn3.size; (try simp only [dr_heap, al_size] at *); omega)]; exact heap_alloc_new _ _)
      · exact (by have hq := hn3.size; (try simp only [dr_heap, al_size] at *); omega)
      · exact (by have hq := hn3.size; (try simp only [dr_heap, al_size] at *); omega)
      · intro g hg; have hk := hn2 g hg; (try simp only [dr_heap, al_size] at *); omega
      · exact (by have hq := hn3.size; (try simp only [dr_heap, al_size] at *); omega)
      · intro g hg; have hk := hn2 g hg; have hq := hn3.size; (try simp only [dr_heap, al_size] at *); omega
  case rest =>
    obtain ⟨gb, gs, c, mb, xb, rfl, HI⟩ := hcut
    clear hmap hmake HC HM
    have hcl : ∀ W : World, W.heap[gb]? = wc.heap[gb]? → W.cell? ⟨gb, 0, none⟩ = some (.slice (adr gs) l.length c) ∧ W.cell? ⟨gb, 1, none⟩ = some (.map (some mb)) := fun W hW => by
      have e := hW.trans HI.out.cells
      exact ⟨by simp [World.cell?, e], by simp [World.cell?, e]⟩
    have HCL : Hid (∀ W : World, W.heap[gb]? = wc.heap[gb]? → W.cell? ⟨gb, 0, none⟩ = some (.slice (adr gs) l.length c) ∧ W.cell? ⟨gb, 1, none⟩ = some (.map (some mb))) := hcl
    clear hcl
    obtain ⟨hc0, hc1⟩ := HCL.out wc rfl
    have HSo := sortN gs c l wc HI.out.nds (by omega)
    go_wp2_with (go_at_call 48; refine HSo.mono ?_; rintro e w2 ⟨rfl, hn2, hs2⟩; have hgb2 : w2.heap[gb]? = wc.heap[gb]? := (hs2.2.2.2.2 gb (Array.getElem?_eq_some_iff.1 HI.out.cells).1 (fun e => (HI.out.ne.2.2.2 gb e).1 rfl)); obtain ⟨hd0, hd1⟩ := HCL.out w2 hgb2; have HN2 : Hid (Nds w2 gs c (Sp.srt l) ∧ Srt wc gs w2 ∧ w2.heap[gb]? = wc.heap[gb]?) := ⟨hn2, hs2, hgb2⟩; clear hn2 hs2 hgb2 hc0 hc1)
    go_loopw [27] (fun v27 wr => ∃ (i : Nat) (G : List (Int × Int)) (es : Array MapEntry) (ck : Nat), v27 = .int .i64 i ∧ i ≤ l.length ∧ Hid (BrQ w2 mb (Sp.srt l) i G es ck wr)) (fun v27 _ => l.length - (intOf v27).toNat)
    case atStart =>
      have hm : w2.heap[mb]? = some (.map #[] 0) := (HN2.out.2.1.2.2.2.2 mb (Array.getElem?_eq_some_iff.1 HI.out.map).1 (fun e => (HI.out.ne.2.2.2 mb e).2.1 rfl)).trans HI.out.map
      exact ⟨0, [], #[], 0, rfl, Nat.zero_le _, ⟨hm, rfl, fun j x g h => by simp at h, List.nodup_nil⟩, rfl, rfl, rfl, rfl, fun _ _ => rfl, fun k v h => by simp at h, fun k h => by simp at h, fun _ => rfl, fun h => absurd (by simp) h⟩
    case round =>
      obtain ⟨i, G, es, ck, rfl, hi, HQ⟩ := hrel
      have hgw : wr.heap[gb]? = wc.heap[gb]? := (HQ.out.block gb HI.out.ne.1).trans HN2.out.2.2
      obtain ⟨he0, he1⟩ := HCL.out wr hgw
      clear hgw hd0 hd1
      by_cases hlt : i < l.length
      · obtain ⟨g, rfl⟩ : ∃ g, gs = some g := by
          cases gs with
          | some g => exact ⟨g, rfl⟩
          | none => have := HN2.out.1.1 rfl; rw [← srt_len, this] at hlt; simp at hlt
        obtain ⟨x, hx⟩ : ∃ x, (Sp.srt l)[i]? = some x := ⟨_, List.getElem?_eq_getElem (by rw [srt_len]; exact hlt)⟩
        have hbx : 0 ≤ x ∧ x < 18446744073709551616 := HBD.out x (srt_mem.1 (List.mem_of_getElem? hx))
        have hcx : wr.cell? ⟨g, i, none⟩ = some (.int .u64 x) := by
          have ho := HN2.out.1.2 g rfl
          rw [World.cell?_of_block (w := w2) (HQ.out.block g (HI.out.ne.2.2.2 g rfl).2.1)]
          exact ho.cell (by simp [rv, hx])
        have ea : adr (some g) = some ⟨g, 0, none⟩ := rfl
        obtain ⟨G', es', ck', hup, hm', hg', hl'⟩ := HQ.out.mp.update hbx.1 hbx.2 (i : Int)
        have HQ' : Hid (BrQ w2 mb (Sp.srt l) (i + 1) G' es' ck' (setBlock wr mb (.map es' ck'))) := HQ.out.step hx hm' hg' hl'
        clear hm' hg' hl' hx
        go_wp2
        go_roundw
        case rel => exact ⟨i + 1, G', es', ck', by go_num, by omega, HQ'.out⟩
        case measure => simp [intOf]; omega
      · obtain rfl : i = l.length := by omega
        have hlen := fun ty => len_mapI HQ.out.mp ty
        have htk : (Sp.srt l).take l.length = Sp.srt l := List.take_of_length_le (by rw [srt_len]; exact Nat.le_refl _)
        have HB : Hid (Bar w wr gb gs c mb xb l.length G (Sp.srt l)) := by
          have ho : ∀ k, k < wc.heap.size → gs ≠ some k → k ≠ mb → wr.heap[k]? = wc.heap[k]? := fun k h1 h2 h3 => (HQ.out.block k h3).trans (HN2.out.2.1.2.2.2.2 k h1 h2)
          have hI := HI.out
          have s1 := hI.bel.size
          have s2 := HN2.out.2.1.2.2.2.1
          have s3 := HQ.out.size
          refine ⟨⟨HQ.out.os.trans (HN2.out.2.1.1.trans hI.bel.os), HQ.out.tape.trans (HN2.out.2.1.2.1.trans hI.bel.tape), HQ.out.output.trans (HN2.out.2.1.2.2.1.trans hI.bel.output), by omega, fun k hk => ?_⟩, ?_, ?_, ⟨es, ck, HQ.out.mp⟩, fun k v hm => ?_, fun k hm => ?_, ?_, hI.lo, hI.ne⟩
          · exact (ho k (by omega) (fun e => by have := hI.lo.2.2.2 k e; omega) (by have := hI.lo.2.1; omega)).trans (hI.bel.block k hk)
          · exact ((HQ.out.block gb hI.ne.1).trans HN2.out.2.2).trans hI.cells
          · exact HN2.out.1.keep (fun g hg => HQ.out.block g (hI.ne.2.2.2 g hg).2.1)
          · obtain ⟨t, e, _, h4⟩ := HQ.out.fro k v hm
            exact ⟨t, e, h4⟩
          · exact HQ.out.to k (by rw [htk]; exact hm)
          · obtain ⟨cur, h4, h5⟩ := hI.nxt
            exact ⟨cur, (ho xb (Array.getElem?_eq_some_iff.1 h4).1 (fun e => (hI.ne.2.2.2 xb e).2.2 rfl) (fun e => hI.ne.2.2.1 e.symm)).trans h4, h5⟩
        have hnd : l.Nodup ↔ (Sp.srt l).Nodup := (srt_perm l).nodup_iff.symm
        rcases HQ.out.mp.lookup (x := 0) (by decide) (by decide) with ⟨hlk, h0⟩ | ⟨v, hlk, h0⟩
        · have hz : (0 : Int) ∉ l := fun hm => by
            obtain ⟨v, hv⟩ := HQ.out.to 0 (by rw [htk]; exact srt_mem.2 hm)
            exact h0 _ hv rfl
          have HG : Hid ((G.length : Int) = (l.length : Int) ↔ l.Nodup) := by
            show _ ↔ _
            constructor
            · intro e
              apply Classical.byContradiction
              intro hno
              have := HQ.out.dup (by rw [htk]; exact fun h => hno (hnd.2 h))
              omega
            · intro h
              have := HQ.out.nd (by rw [htk]; exact hnd.1 h)
              omega
          obtain ⟨b, hb⟩ : ∃ b : Bool, b = ((G.length : Int) == (l.length : Int)) := ⟨_, rfl⟩
          have HB2 : Hid (b = decide ((0 : Int) ∉ l ∧ l.Nodup)) := by
            show _ = _
            rw [hb, Bool.eq_iff_iff]
            simp only [beq_iff_eq, decide_eq_true_eq]
            rw [HG.out]
            exact ⟨fun h => ⟨hz, h⟩, fun h => h.2⟩
          clear h0 HQ htk hnd HG hz
          go_wp2
          go_ret2
          refine ⟨gb, gs, c, mb, xb, G, ?_, HB.out⟩
          rw [← HB2.out, hb]; rfl
        · have hz : (0 : Int) ∈ l := by
            obtain ⟨t, _, _, h4⟩ := HQ.out.fro 0 v h0
            exact srt_mem.1 (List.mem_of_getElem? h4)
          clear h0 HQ htk hnd
          go_wp2
          go_ret2
          refine ⟨gb, gs, c, mb, xb, G, ?_, HB.out⟩
          rw [decide_eq_false (fun h => h.1 hz)]; rfl
end Go.Proofs.YtikhpbidbcfedaaGreat

