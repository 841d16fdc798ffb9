/- graph.Parts: the parts, sorted: what they are. -/
import Derived.Test.YtikhpbidbcfedaaGreatKp30
import Derived.Test.YtikhpbidbcfedaaGreatKp38
import Derived.Test.YtikhpbidbcfedaaGreatKp24
import Derived.Test.YtikhpbidbcfedaaGreatKp15
namespace Go.Proofs.YtikhpbidbcfedaaGreat
open Go.RowKit Go.ChangeMaps

theorem take_putC {α : Type} [Inhabited α] (enc : α → Value) (cur : Array Value) (ts : List α) (h : ts.length ≤ cur.size) : (Sort.putCells enc 0 ts.toArray cur).toList.take ts.length = ts.map enc := by
  apply List.ext_getElem?
  intro j
  by_cases hj : j < ts.length
  · rw [List.getElem?_take_of_lt hj, Array.getElem?_toList]
    simp [Sort.putCells, hj, show j < cur.size by omega]
  · rw [List.getElem?_take_eq_none (by omega), List.getElem?_eq_none (by simp; omega)]
theorem sortW_at {α : Type} [Inhabited α] (enc : α → Value) (w : World) (g q : Nat) (d : Array α) (os : Array Obj) {cur : Array Value} {e : TypeId} {fr : Nat × Nat} (hb : w.heap[g]? = some (.cells cur e fr)) : (sortWorld enc w g 0 q d os).heap[g]? = some (.cells (Sort.putCells enc 0 d cur) e fr) := by
  have hg : g < w.heap.size := (Array.getElem?_eq_some_iff.1 hb).1
  show ((w.heap.modify g (Sort.onCells (Sort.putCells enc 0 d))) ++ os)[g]? = _
  rw [Array.getElem?_append_left (by simpa using hg), Array.getElem?_modify, if_pos rfl, hb]
  rfl
def SoT (gs : Option Nat) (c : Nat) (T : List Hd) (w' : World) : Prop := ∃ T' : List Hd, T'.Perm T ∧ T'.Pairwise (fun q r => ¬ r.2.2 < q.2.2) ∧ PtR w' gs c T'
set_option maxRecDepth 100000 in
theorem sortP_full (gs : Option Nat) (c : Nat) (T : List Hd) (w : World) (h : PtR w gs c T) (hl : ∀ q ∈ T, q.2.2.length ≤ 4096) (hT : T.length ≤ 8192) :
    Calls Tryz.prog 35 #[.slice (adr gs) T.length c, .func (.func 36) #[] #[]] w fun e w' => e = .returned (.tuple #[]) ∧ SoT gs c T w' ∧ (∀ k, k < w.heap.size → gs ≠ some k → w'.heap[k]? = w.heap[k]?) ∧ w.heap.size ≤ w'.heap.size ∧ w'.os = w.os ∧ w'.tape = w.tape ∧ w'.output = w.output := by
  cases gs with
  | none =>
    obtain ⟨rfl, rfl⟩ := h.nil rfl
    have := AnyF.slices_SortFunc_none (P := Tryz.prog) (ρ := Tryz.slf_ren) { Tryz.slf with } none 0 (.func (.func 36) #[] #[]) w
    refine (show Calls Tryz.prog 35 _ _ _ from this).mono ?_
    rintro e w' ⟨rfl, rfl⟩
    exact ⟨rfl, ⟨[], .refl _, by simp, h⟩, fun _ _ _ => rfl, Nat.le_refl _, rfl, rfl, rfl⟩
  | some g =>
    have ho := h.own g rfl
    obtain ⟨d, hd⟩ : ∃ d : List (HdS w), d = T.attach.map fun q => ⟨q.1, h.rows q.1 q.2, hl q.1 q.2⟩ := ⟨_, rfl⟩
    have hdl : d.length = T.length := by rw [hd]; simp
    have hdv : d.map (fun q => q.1) = T := by
      rw [hd, List.map_map]
      conv => rhs; rw [← List.attach_map_subtype_val T]
      rfl
    have hdm : d.map (hdE (w := w)) = pv T := by
      rw [hd, List.map_map]
      unfold pv
      conv => rhs; rw [← List.attach_map_subtype_val T]
      rw [List.map_map]
      rfl
    have hH : Sort.Holds (hdE (w := w)) w g 0 d.toArray := fun j hj => by
      have hj' : j < d.length := by simpa using hj
      refine ⟨?_, ho.free _⟩
      rw [Nat.zero_add, ho.cell (t := j) (x := hdE d[j]) (by rw [← hdm]; simp [hj'])]
      simp [hj']
    have eg : ∀ args w, (callFunc 36 args).run Tryz.prog w = .ok (.enter 36 args) w := enters_of Tryz.func36 (by kernel_rfl) rfl
    have hs := Any.slices_SortFunc Tryz.slf (hdE (w := w)) (fun _ => rfl) hdC (hd_swo w) 36 #[] g 0 c d.toArray w eg (hd_reads w g c T.length (pv T) ho _) hH ho.lt (by simp; omega)
    have e1 : d.toArray.size = T.length := by simpa using hdl
    rw [e1] at hs
    refine (show Calls Tryz.prog 35 _ _ _ from hs).mono ?_
    rintro e w' ⟨rfl, d', n, os, hp, hso, rfl⟩
    have hk := sortW_heap (hdE (w := w)) w g n d' os
    refine ⟨rfl, ?_, fun k h1 h2 => hk.1 k h1 (fun e => h2 (by rw [e])), hk.2, rfl, rfl, rfl⟩
    have hds : d'.size = T.length := hp.1.trans e1
    have hperm : d'.toList.Perm d := by
      have := hp.2.2
      rw [← hds] at this
      rw [Array.extract_size] at this
      rw [hds, ← e1, Array.extract_size] at this
      exact this
    have hdl' : d'.toList.length = T.length := by simpa using hds
    have hpv : pv (d'.toList.map fun q => q.1) = d'.toList.map (hdE (w := w)) := by unfold pv; rw [List.map_map]; rfl
    refine ⟨d'.toList.map fun q => q.1, by rw [← hdv]; exact hperm.map _, ?_, ⟨(fun e => by cases e), fun g' hg => ?_, fun q hq => ?_⟩⟩
    · rw [List.pairwise_map, List.pairwise_iff_getElem]
      intro i j hi hj hij
      have := hso i j (Nat.zero_le _) hij (by rw [← hdl']; exact hj)
      have hi' : i < d'.size := by simpa using hi
      have hj' : j < d'.size := by simpa using hj
      rw [getElem!_pos d' i hi', getElem!_pos d' j hj'] at this
      unfold ltOf hdC at this
      rw [decide_eq_false_iff_not, cmpl_lt] at this
      simpa using this
    · injection hg with hg; subst hg
      obtain ⟨cur, c1, c2, c3, c4, c5⟩ := ho.blk
      refine ⟨by simp [pv], _, sortW_at (hdE (w := w)) w g n d' os c1, by simpa [hds] using c2, c3, by simpa [Sort.putCells] using c4, ?_⟩
      rw [hpv]
      have := take_putC (hdE (w := w)) cur d'.toList (by rw [hdl']; omega)
      rw [Array.toArray_toList] at this
      rw [List.length_map, this]
    · obtain ⟨x, _, rfl⟩ := List.mem_map.1 hq
      refine x.2.1.keep fun b hb => hk.1 b (x.2.1.2 b hb).lt fun e => ?_
      subst e
      obtain ⟨c1, h1, _⟩ := ho.blk
      obtain ⟨c2, h2, _⟩ := (x.2.1.2 b hb).blk
      rw [h1] at h2; injection h2 with h2; injection h2 with _ h2
      exact absurd h2 (by decide)
def PaE (w : World) (N : List Int) (nx : Nat → List Nat) (e : Ending) (w' : World) : Prop := ∃ (T : List Hd) (gs : Option Nat) (c : Nat), e = .returned (.slice (adr gs) T.length c) ∧ (T.map fun q : Hd => q.2.2).Perm (Sp.prv N nx) ∧ (T.map fun q : Hd => q.2.2).Pairwise (fun a b => ¬ b < a) ∧ PtR w' gs c T ∧ Below w.heap.size w w'
set_option maxRecDepth 100000 in
set_option maxHeartbeats 4000000 in
theorem Parts_full (gb : Nat) (N : List Int) (nx : Nat → List Nat) (w : World) (hg : GRP w gb N nx) (hb : ∀ i, ∀ x ∈ nx i, x < N.length) (hn : N.length ≤ 4096) (hnl : ∀ p, (nx p).length ≤ 4096) (hlt : ∀ i, (nx i).Pairwise (· < ·)) :
    Calls Tryz.prog 15 #[.pointer (some ⟨gb, 0, none⟩)] w (PaE w N nx) := by
  have HP := parts_any gb N nx w hg hb hn hnl hlt
  have HL : Hid ((Sp.prt nx N.length).length ≤ 8192 ∧ ∀ p : List Nat, (Sp.rfs N (Sp.upn N.length p)).length ≤ 4096) := by
    have h0 := lfo_ok (nx := nx) hb
    have h1 := (pts_ok (bk := Sp.bkn nx N.length) (L := N.length) (fun i y hy => (bkn_mem.1 hy).1) _ (Sp.lfo nx N.length).reverse rfl (fun y hy => h0.2 y (by simpa using hy))).2.1
    have h2 := nd_len h0.1 h0.2
    rw [List.length_reverse] at h1
    refine ⟨by unfold Sp.prt; omega, fun p => ?_⟩
    have h3 : (Sp.upn N.length p).length ≤ N.length := by
      have := List.length_filter_le (fun x => decide (x ∈ p)) (List.range N.length)
      simpa [Sp.upn] using this
    simp [Sp.rfs]; omega
  have HP : Hid (Calls Tryz.prog 34 #[.pointer (some ⟨gb, 0, none⟩)] w (PtE w (Sp.prv N nx))) := HP
  clear hg hb hnl hlt
  go_enter Tryz.func15, Tryz.ntmps15
  go_wp2_with fail
  refine HP.out.mono ?_
  rintro e w1 ⟨T, gs, c, rfl, hT, hR, hlo, hbe⟩
  have hTl : T.length = (Sp.prt nx N.length).length := by have := congrArg List.length hT; simpa [Sp.prv] using this
  have HS : Hid (Calls Tryz.prog 35 #[.slice (adr gs) T.length c, .func (.func 36) #[] #[]] w1 fun e w' => e = .returned (.tuple #[]) ∧ SoT gs c T w' ∧ (∀ k, k < w1.heap.size → gs ≠ some k → w'.heap[k]? = w1.heap[k]?) ∧ w1.heap.size ≤ w'.heap.size ∧ w'.os = w1.os ∧ w'.tape = w1.tape ∧ w'.output = w1.output) := by
    refine sortP_full gs c T w1 hR (fun q hq => ?_) (by rw [hTl]; exact HL.out.1)
    have hm : q.2.2 ∈ T.map (fun q : Hd => q.2.2) := List.mem_map_of_mem hq
    rw [hT] at hm
    obtain ⟨p, _, e⟩ := List.mem_map.1 hm
    rw [← e]; exact HL.out.2 p
  have HE : Hid (T.map (fun q : Hd => q.2.2) = Sp.prv N nx ∧ (∀ g, gs = some g → w.heap.size ≤ g) ∧ Below w.heap.size w w1) := ⟨hT, hlo, hbe⟩
  clear hT hR hlo hbe hTl HP
  go_wp2_with fail
  refine HS.out.mono ?_
  rintro e w2 ⟨rfl, ⟨T', p1, p2, p3⟩, q1, q2, q3, q4, q5⟩
  have HF : Hid (Below w.heap.size w w2) := by
    have h := HE.out.2.2
    exact ⟨q3.trans h.os, q4.trans h.tape, q5.trans h.output, Nat.le_trans h.size q2, fun k hk => (q1 k (Nat.lt_of_lt_of_le hk h.size) (fun e => by have := HE.out.2.1 k e; omega)).trans (h.block k hk)⟩
  have HT : Hid ((T'.map fun q : Hd => q.2.2).Perm (Sp.prv N nx) ∧ (T'.map fun q : Hd => q.2.2).Pairwise (fun a b => ¬ b < a) ∧ PtR w2 gs c T') := ⟨by rw [← HE.out.1]; exact p1.map _, by rw [List.pairwise_map]; exact p2, p3⟩
  have hlen : T'.length = T.length := p1.length_eq
  clear q1 q2 q3 q4 q5 p1 p2 p3
  rw [← hlen]
  clear hlen
  go_wp2_with fail
  go_ret
  exact ⟨T', gs, c, rfl, HT.out.1, HT.out.2.1, HT.out.2.2, HF.out⟩
end Go.Proofs.YtikhpbidbcfedaaGreat

/- tenonref14.Has and tenonlaw14.edge: whether a node, whether an edge is among some. -/
namespace Go.Proofs.YtikhpbidbcfedaaGreat
open Go.RowKit Go.ChangeMaps

def RfV (w : World) (a : Option Addr) (l : List Int) : Prop := ∀ t x, l[t]? = some x → ∃ b o, a = some ⟨b, o, none⟩ ∧ w.cell? ⟨b, o + t, none⟩ = some (.int .u64 x)
theorem RefsAt.rfv {w : World} {B : Nat} {a : Option Addr} {l : List Int} (h : RefsAt w B a l) : RfV w a l := fun t x hx => by
  obtain ⟨b, o, e, _, h2⟩ := h.row t (.int .u64 x) (by simp [hx])
  exact ⟨b, o, e, by simpa using h2⟩
theorem NdR.rfv {w : World} {gs : Option Nat} {c : Nat} {l : List Int} (h : NdR w gs c l) : RfV w (adr gs) l := fun t x hx => by
  obtain ⟨g, rfl, h2⟩ := h.at_ hx
  exact ⟨g, 0, rfl, by simpa using h2⟩
theorem RfV.keep {w w' : World} {a : Option Addr} {l : List Int} (h : RfV w a l) (hb : Below w.heap.size w w') : RfV w' a l := fun t x hx => by
  obtain ⟨b, o, e, h2⟩ := h t x hx
  exact ⟨b, o, e, by rw [World.cell?_of_block (w := w) (hb.block b (World.block_lt_of_cell? _ _ h2))]; exact h2⟩
theorem RfV.take {w : World} {a : Option Addr} {l : List Int} (h : RfV w a l) (k : Nat) : RfV w a (l.take k) := fun t x hx => by
  rw [List.getElem?_take] at hx
  split at hx
  · exact h t x hx
  · cases hx

set_option maxRecDepth 100000 in
set_option maxHeartbeats 8000000 in
theorem rHas_any (a : Option Addr) (cap : Nat) (l : List Int) (x : Int) (w : World) (h : RfV w a l) (hl : l.length ≤ 70368744177664) :
    Calls Tryz.prog 12 #[.slice a l.length cap, .int .u64 x] w fun e w' => e = .returned (.bool (decide (x ∈ l))) ∧ Below w.heap.size w w' := by
  have H : Hid (RfV w a l) := h
  clear h
  go_enter Tryz.func12, Tryz.ntmps12
  go_wp2_with fail
  go_loopw [5] (fun v3 wr => ∃ i : Nat, v3 = .int .i64 i ∧ i ≤ l.length ∧ x ∉ l.take i ∧ Hid (Below w.heap.size w wr)) (fun v3 _ => l.length - (intOf v3).toNat)
  case atStart => exact ⟨0, rfl, Nat.zero_le _, by simp, Below.refl _ _⟩
  case round =>
    obtain ⟨i, rfl, hi, hno, HS⟩ := hrel
    by_cases hlt : i < l.length
    · have hltz : (i : Int) < (l.length : Int) := by omega
      obtain ⟨y, hy⟩ : ∃ e, l[i]? = some e := ⟨_, List.getElem?_eq_getElem hlt⟩
      obtain ⟨b, o, rfl, hc⟩ := H.out i y hy
      have hcr : wr.cell? ⟨b, o + i, none⟩ = some (.int .u64 y) := by rw [World.cell?_of_block (w := w) (HS.out.block b (World.block_lt_of_cell? _ _ hc))]; exact hc
      have hin : y = x → x ∈ l := fun e => e ▸ List.mem_of_getElem? hy
      have hnx : y ≠ x → x ∉ l.take (i + 1) := fun e => by
        rw [List.take_add_one, hy]; simp only [Option.toList, List.mem_append, List.mem_singleton]
        rintro (h | h); exact hno h; exact e h.symm
      clear hy hc hno
      by_cases hxy : y = x
      · have HIN : x ∈ l := hin hxy
        subst hxy
        clear hin hnx
        go_wp2_with fail
        go_ret
        exact ⟨by rw [decide_eq_true HIN]; rfl, HS.out⟩
      · have hnn := hnx hxy
        clear hin hnx
        go_wp2_with fail
        go_roundw
        case rel => exact ⟨i + 1, by go_num, by omega, hnn, HS.out⟩
        case measure => simp [intOf]; omega
    · obtain rfl : l.length = i := by omega
      rw [List.take_length] at hno
      go_wp2_with fail
      go_ret
      exact ⟨by rw [decide_eq_false hno]; rfl, HS.out⟩

def EgV (w : World) (a : Option Addr) (E : List (Int × Int)) : Prop := ∀ t x, E[t]? = some x → ∃ b o, a = some ⟨b, o, none⟩ ∧ w.cell? ⟨b, o + t * 2, none⟩ = some (.int .u64 x.1) ∧ w.cell? ⟨b, o + t * 2 + 1, none⟩ = some (.int .u64 x.2)
theorem EgV.keep {w w' : World} {a : Option Addr} {E : List (Int × Int)} (h : EgV w a E) (hb : Below w.heap.size w w') : EgV w' a E := fun t x hx => by
  obtain ⟨b, o, e, h2, h3⟩ := h t x hx
  exact ⟨b, o, e, by rw [World.cell?_of_block (w := w) (hb.block b (World.block_lt_of_cell? _ _ h2))]; exact h2, by rw [World.cell?_of_block (w := w) (hb.block b (World.block_lt_of_cell? _ _ h2))]; exact h3⟩
theorem EdgesAt.egv {w : World} {B : Nat} {a : Option Addr} {E : List (Int × Int)} (h : EdgesAt w B a E) : EgV w a E := fun t x hx => by
  obtain ⟨b, o, e, _, h2, h3⟩ := h.1 t x hx
  exact ⟨b, o, e, h2, h3⟩
set_option maxRecDepth 100000 in
set_option maxHeartbeats 8000000 in
theorem edge_any (a : Option Addr) (cap : Nat) (E : List (Int × Int)) (x y : Int) (w : World) (h : EgV w a E) (hl : E.length * 16 ≤ 140737488355328) :
    Calls Tryz.prog 13 #[.slice a E.length cap, .int .u64 x, .int .u64 y] w fun e w' => e = .returned (.bool (decide ((x, y) ∈ E))) ∧ Below w.heap.size w w' := by
  have H : Hid (EgV w a E) := h
  clear h
  go_enter Tryz.func13, Tryz.ntmps13
  go_wp2_with fail
  go_loopw [7] (fun v4 wr => ∃ i : Nat, v4 = .int .i64 i ∧ i ≤ E.length ∧ (x, y) ∉ E.take i ∧ Hid (Below w.heap.size w wr)) (fun v4 _ => E.length - (intOf v4).toNat)
  case atStart => exact ⟨0, rfl, Nat.zero_le _, by simp, Below.refl _ _⟩
  case round =>
    obtain ⟨i, rfl, hi, hno, HS⟩ := hrel
    by_cases hlt : i < E.length
    · have hltz : (i : Int) < (E.length : Int) := by omega
      obtain ⟨⟨x', y'⟩, hy⟩ : ∃ e, E[i]? = some e := ⟨_, List.getElem?_eq_getElem hlt⟩
      obtain ⟨b, o, rfl, hc1, hc2⟩ := H.out i (x', y') hy
      have hcr : wr.cell? ⟨b, o + i * 2, none⟩ = some (.int .u64 x') := by rw [World.cell?_of_block (w := w) (HS.out.block b (World.block_lt_of_cell? _ _ hc1))]; exact hc1
      have hcr2 : wr.cell? ⟨b, o + i * 2 + 1, none⟩ = some (.int .u64 y') := by rw [World.cell?_of_block (w := w) (HS.out.block b (World.block_lt_of_cell? _ _ hc1))]; exact hc2
      have hin : x' = x → y' = y → (x, y) ∈ E := fun e e2 => e ▸ e2 ▸ List.mem_of_getElem? hy
      have hnx : ¬ (x' = x ∧ y' = y) → (x, y) ∉ E.take (i + 1) := fun e => by
        rw [List.take_add_one, hy]; simp only [Option.toList, List.mem_append, List.mem_singleton, Prod.mk.injEq]
        rintro (h | h); exact hno h; exact e ⟨h.1.symm, h.2.symm⟩
      clear hy hc1 hc2 hno
      by_cases hxy : x' = x
      · subst hxy
        by_cases hyy : y' = y
        · have HIN := hin rfl hyy
          subst hyy
          clear hin hnx
          go_wp2_with fail
          go_ret
          exact ⟨by rw [decide_eq_true HIN]; rfl, HS.out⟩
        · have hnn := hnx (fun h => hyy h.2)
          clear hin hnx
          go_wp2_with fail
          go_roundw
          case rel => exact ⟨i + 1, by go_num, by omega, hnn, HS.out⟩
          case measure => simp [intOf]; omega
      · have hnn := hnx (fun h => hxy h.1)
        clear hin hnx
        go_wp2_with fail
        go_roundw
        case rel => exact ⟨i + 1, by go_num, by omega, hnn, HS.out⟩
        case measure => simp [intOf]; omega
    · obtain rfl : E.length = i := by omega
      rw [List.take_length] at hno
      go_wp2_with fail
      go_ret
      exact ⟨by rw [decide_eq_false hno]; rfl, HS.out⟩
end Go.Proofs.YtikhpbidbcfedaaGreat

/- tenonlaw14.same: two rows of references that are the same; the one is written over. -/
namespace Go.Proofs.YtikhpbidbcfedaaGreat
open Go.RowKit Go.ChangeMaps

structure SmI (w : World) (B : Nat) (m : Nat) (gs : Option Nat) (c : Nat) (wr : World) : Prop where
  bel : Below B w wr
  row : ∃ l2 : List Int, l2.length = m ∧ NdR wr gs c l2
  oth : ∀ k, k < w.heap.size → gs ≠ some k → wr.heap[k]? = w.heap[k]?
theorem SmI.put {w wr : World} {B m g c i : Nat} {v : Int} (h : SmI w B m (some g) c wr) (hB : B ≤ g) : SmI w B m (some g) c (wr.setCell ⟨g, i, none⟩ (.int .u64 v)) := by
  obtain ⟨l2, h1, h2⟩ := h.row
  refine ⟨h.bel.setCell hB _, ⟨l2.set i v, by simpa using h1, (fun e => by cases e), fun g' hg => ?_⟩, fun k hk hne => (Below.heap_setCell wr _ _ k (fun e => hne (by rw [e]))).trans (h.oth k hk hne)⟩
  have := (h2.2 g' hg)
  injection hg with hg; subst hg
  have := this.set i (.int .u64 v)
  rw [List.length_set]
  simpa [rv, List.map_set] using this
theorem SmI.cell {w wr : World} {B m g c i : Nat} (h : SmI w B m (some g) c wr) (hi : i < m) : ∃ v, wr.cell? ⟨g, i, none⟩ = some (.int .u64 v) ∧ wr.frozen? ⟨g, i, none⟩ = false := by
  obtain ⟨l2, h1, h2⟩ := h.row
  have ho := h2.2 g rfl
  exact ⟨l2[i]'(by omega), ho.cell (by simp [rv, h1, hi]), ho.free _⟩

set_option maxRecDepth 100000 in
set_option maxHeartbeats 4000000 in
theorem same_any (B : Nat) (gs gt : Option Nat) (c d : Nat) (l : List Int) (w : World) (h : NdR w gs c l) (k : NdR w gt d l) (hB : ∀ g, gs = some g → B ≤ g) (hBw : B ≤ w.heap.size) (hl : l.length ≤ 8192) :
    Calls Tryz.prog 17 #[.slice (adr gs) l.length c, .slice (adr gt) l.length d] w fun e w' => e = .returned (.bool true) ∧ Below B w w' ∧ ∀ k, k < w.heap.size → gs ≠ some k → w'.heap[k]? = w.heap[k]? := by
  have HH : Hid (NdR w gs c l ∧ NdR w gt d l ∧ ∀ g, gs = some g → B ≤ g) := ⟨h, k, hB⟩
  clear h k hB
  go_enter Tryz.func17, Tryz.ntmps17
  go_wp2_with fail
  go_loopw [5] (fun v5 wr => ∃ i : Nat, v5 = .int .i64 i ∧ i ≤ l.length ∧ Hid (Below w.heap.size w wr)) (fun v5 _ => l.length - (intOf v5).toNat)
  case atStart => exact ⟨0, rfl, Nat.zero_le _, Below.refl _ _⟩
  case round =>
    obtain ⟨i, rfl, hi, HS⟩ := hrel
    by_cases hlt : i < l.length
    · have hltz : (i : Int) < (l.length : Int) := by omega
      obtain ⟨x, hx⟩ : ∃ x, l[i]? = some x := ⟨_, List.getElem?_eq_getElem hlt⟩
      obtain ⟨g, rfl⟩ : ∃ g, gs = some g := by
        cases gs with
        | some g => exact ⟨g, rfl⟩
        | none => have := (HH.out.1.1 rfl).1; rw [this] at hlt; simp at hlt
      obtain ⟨g2, rfl⟩ : ∃ g, gt = some g := by
        cases gt with
        | some g => exact ⟨g, rfl⟩
        | none => have := (HH.out.2.1.1 rfl).1; rw [this] at hlt; simp at hlt
      have ho := HH.out.1.2 g rfl
      have ho2 := HH.out.2.1.2 g2 rfl
      have hc1 : wr.cell? ⟨g, i, none⟩ = some (.int .u64 x) := by rw [World.cell?_of_block (w := w) (HS.out.block g ho.lt)]; exact ho.cell (by simp [rv, hx])
      have hc2 : wr.cell? ⟨g2, i, none⟩ = some (.int .u64 x) := by rw [World.cell?_of_block (w := w) (HS.out.block g2 ho2.lt)]; exact ho2.cell (by simp [rv, hx])
      have ha1 : adr (some g) = some ⟨g, 0, none⟩ := rfl
      have ha2 : adr (some g2) = some ⟨g2, 0, none⟩ := rfl
      clear ho ho2 hx
      go_wp2_with fail
      go_region
      all_goals go_wp2_with fail
      all_goals go_roundw
      case rel => exact ⟨i + 1, by go_num, by omega, HS.out.drew⟩
      case measure => simp [intOf]; omega
    · obtain rfl : i = l.length := by omega
      go_wp2_with fail
      have HS0 : Hid (SmI w B l.length gs c wr) := ⟨⟨HS.out.os, HS.out.tape, HS.out.output, HS.out.size, fun k hk => HS.out.block k (by omega)⟩, ⟨l, rfl, HH.out.1.keep (fun g hg => HS.out.block g (HH.out.1.2 g hg).lt)⟩, fun k hk _ => HS.out.block k hk⟩
      clear HS
      go_loopw [6] (fun v6 wr => ∃ i : Nat, v6 = .int .i64 i ∧ i ≤ l.length ∧ Hid (SmI w B l.length gs c wr)) (fun v6 _ => l.length - (intOf v6).toNat)
      case atStart => exact ⟨0, rfl, Nat.zero_le _, HS0.out⟩
      case round =>
        clear HS0
        obtain ⟨i, rfl, hi2, HS⟩ := hrel
        by_cases hlt2 : i < l.length
        · have hltz : (i : Int) < (l.length : Int) := by omega
          obtain ⟨g, rfl⟩ : ∃ g, gs = some g := by
            cases gs with
            | some g => exact ⟨g, rfl⟩
            | none => have := (HH.out.1.1 rfl).1; rw [this] at hlt2; simp at hlt2
          obtain ⟨v, hcv, hfv⟩ := HS.out.cell hlt2
          have ha1 : adr (some g) = some ⟨g, 0, none⟩ := rfl
          have HP : Hid (SmI w B l.length (some g) c (wr.setCell ⟨g, i, none⟩ (.int .u64 4711))) := HS.out.put (HH.out.2.2 g rfl)
          go_wp2_with fail
          go_roundw
          case rel => exact ⟨i + 1, by go_num, by omega, HP.out⟩
          case measure => simp [intOf]; omega
        · obtain rfl : i = l.length := by omega
          obtain ⟨l2, hl2, hnd⟩ := HS.out.row
          obtain ⟨g', c', w4, hap, ho4, hgr4, hor4⟩ := appR gs c l2 wr hnd 4712 (by omega) 22
          rw [hl2] at hap
          have HF2 : Hid (∀ k, k < w.heap.size → gs ≠ some k → w4.heap[k]? = w.heap[k]?) := fun k hk hne => by
            have hkw : k < wr.heap.size := Nat.lt_of_lt_of_le hk HS.out.bel.size
            exact ((hgr4.block k (by rw [al_size]; omega) (fun e => hne e.symm)).trans (Below.heap_alloc wr _ k hkw)).trans (HS.out.oth k hk hne)
          have HF : Hid (Below B w w4) := by
            have hz : B ≤ wr.heap.size := Nat.le_trans hBw HS.out.bel.size
            have h1 := HS.out.bel.alloc hz (.cells #[.int .u64 4712] 25)
            exact h1.grown hgr4 (by rw [al_size]; omega) (fun k hk => HH.out.2.2 k hk)
          clear hnd ho4 hgr4 hor4
          go_wp2_with (at_builtin; refine wpList_ranS _ rfl _ _ 22 22 rfl _ _ _ _ rfl rfl hap ?_)
          go_ret
          exact ⟨rfl, HF.out, HF2.out⟩
end Go.Proofs.YtikhpbidbcfedaaGreat

