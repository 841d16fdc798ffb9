/- graph.Make: the graph of any nodes and edges, or why there is none. -/
import Derived.Test.YtilhheianbbbjaaK11
import Derived.Test.YtilhheianbbbjaaK14
import Derived.Test.YtilhheianbbbjaaK2
import Derived.Test.YtilhheianbbbjaaK12
namespace Go.Proofs.Ytilhheianbbbjaa
open Go.RowKit Go.ChangeMaps

structure GrP (w : World) (D : Nat → Prop) (gb : Nat) (N : List Int) (nx : Nat → List Nat) (gs : Option Nat) (c mb xb : Nat) (G : List (Int × Int)) (es : Array MapEntry) (ck : Nat) (bl : Nat → Option Nat) (cp : Nat → Nat) (lo : Nat) : Prop where
  cn : CnG w gb mb xb N.length (.slice (adr gs) N.length c) G es ck N
  nds : Nds w gs c N
  nxt : NxR w lo xb N.length bl cp (fun t => (nx t).map (fun j : Nat => (j : Int)))
  ins : D gb ∧ D mb ∧ D xb ∧ (∀ g, gs = some g → D g) ∧ ∀ t g, t < N.length → bl t = some g → D g
theorem GrP.keep {w w' : World} {D : Nat → Prop} {gb : Nat} {N : List Int} {nx : Nat → List Nat} {gs : Option Nat} {c mb xb : Nat} {G : List (Int × Int)} {es : Array MapEntry} {ck : Nat} {bl : Nat → Option Nat} {cp : Nat → Nat} {lo : Nat} (h : GrP w D gb N nx gs c mb xb G es ck bl cp lo) (hs : ∀ k, D k → w'.heap[k]? = w.heap[k]?) : GrP w' D gb N nx gs c mb xb G es ck bl cp lo :=
  ⟨⟨(hs gb h.ins.1).trans h.cn.cells, h.cn.mp.keep (hs mb h.ins.2.1), h.cn.fro, h.cn.to, h.cn.ne, h.cn.len, h.cn.nd⟩, h.nds.keep (fun g hg => hs g (h.ins.2.2.2.1 g hg)), h.nxt.keep (hs xb h.ins.2.2.1) (fun t g ht hg => hs g (h.ins.2.2.2.2 t g ht hg)), h.ins⟩
def GrE (w : World) (D : Nat → Prop) (gb : Nat) (N : List Int) (nx : Nat → List Nat) : Prop := ∃ gs c mb xb G es ck bl cp lo, GrP w D gb N nx gs c mb xb G es ck bl cp lo
theorem GrE.keep {w w' : World} {D : Nat → Prop} {gb : Nat} {N : List Int} {nx : Nat → List Nat} (h : GrE w D gb N nx) (hs : ∀ k, D k → w'.heap[k]? = w.heap[k]?) : GrE w' D gb N nx := by
  obtain ⟨gs, c, mb, xb, G, es, ck, bl, cp, lo, h⟩ := h
  exact ⟨gs, c, mb, xb, G, es, ck, bl, cp, lo, h.keep hs⟩
def MkE (w : World) (nodes : List Int) (E : List (Int × Int)) (p : Option Addr) (w' : World) : Prop :=
  Below w.heap.size w w' ∧ (Sp.mkE nodes E = 0 → ∃ gb, p = some ⟨gb, 0, none⟩ ∧ GrE w' (fun k => w.heap.size ≤ k ∧ k < w'.heap.size) gb (Sp.srt nodes) (Sp.nx (Sp.srt nodes) E)) ∧ (Sp.mkE nodes E ≠ 0 → p = none)

set_option maxRecDepth 100000 in
set_option maxHeartbeats 8000000 in
theorem Make_any (a : Option Addr) (cap : Nat) (nodes : List Int) (a2 : Option Addr) (cap2 : Nat) (E : List (Int × Int)) (B : Nat) (w : World) (h : RefsAt w B a nodes) (h2 : EdgesAt w B a2 E) (hB : B ≤ w.heap.size) (hl : nodes.length * 8 ≤ 140737488355328) (hl2 : E.length * 16 ≤ 140737488355328) :
    Calls Try.prog 16 #[.slice a nodes.length cap, .slice a2 E.length cap2] w fun e w' => ∃ p, e = .returned (.tuple #[.pointer p, .int .i64 (Sp.mkE nodes E)]) ∧ MkE w nodes E p w' := by
  by_cases hL : 4096 < nodes.length ∨ 16384 < E.length
  · have hk : Sp.mkE nodes E = 2 := by unfold Sp.mkE; rw [if_pos hL]
    rw [hk]
    have HK : Hid (MkE w nodes E none w) := ⟨Below.refl _ _, (fun h => by rw [hk] at h; cases h), fun _ => rfl⟩
    clear hk
    by_cases h1 : 4096 < nodes.length
    · have h1z : (4096 : Int) < (nodes.length : Int) := by omega
      go_enter Try.func16, Try.ntmps16
      go_wp2
      go_ret2
      exact ⟨none, rfl, HK.out⟩
    · have h1z : ¬ (4096 : Int) < (nodes.length : Int) := by omega
      have h2z : (16384 : Int) < (E.length : Int) := by omega
      go_enter Try.func16, Try.ntmps16
      go_wp2
      go_ret2
      exact ⟨none, rfl, HK.out⟩
  · have h1z : ¬ (4096 : Int) < (nodes.length : Int) := by omega
    have h2z : ¬ (16384 : Int) < (E.length : Int) := by omega
    have hB1 := bare_any a cap nodes B w h hB (by omega)
    by_cases hN : (0 : Int) ∉ nodes ∧ nodes.Nodup
    · rw [decide_eq_true hN] at hB1
      have hnd : (Sp.srt nodes).Nodup := (srt_perm nodes).nodup_iff.2 hN.2
      have HE : Hid (EdgesAt w B a2 E) := h2
      have HK0 : Hid (Sp.mkE nodes E = if ∃ e ∈ E, e.1 ∉ nodes ∨ e.2 ∉ nodes then 140 else 0) := by
        show _ = _
        unfold Sp.mkE
        rw [if_neg hL, if_neg (by rintro (h | h); exact hN.1 h; exact h hN.2)]
      clear h h2
      go_enter Try.func16, Try.ntmps16
      go_wp2_with (first
        | (go_at_call 33; refine hB1.mono ?_; rintro e w1 ⟨gb, gs, c, mb, xb, G, rfl, hbar⟩; have HBr : Hid (Bar w w1 gb gs c mb xb nodes.length G (Sp.srt nodes)) := hbar; clear hbar)
        | (go_at_call 34; obtain ⟨es, ck, hmp⟩ := HBr.out.map; refine (connect_any gb mb xb nodes.length (.slice (adr gs) nodes.length c) G es ck (Sp.srt nodes) a2 cap2 E B w1 ⟨HBr.out.cells, hmp, HBr.out.fro, HBr.out.to, ⟨HBr.out.ne.2.1, HBr.out.ne.2.2.1⟩, srt_len nodes, hnd⟩ (HE.out.keep (fun k hk => HBr.out.bel.block k (by omega))) (Nat.le_trans hB HBr.out.bel.size) (Nat.le_trans hB HBr.out.lo.2.2.1) ⟨HBr.out.nxt, (fun t ht => ⟨fun _ => ⟨rfl, rfl⟩, fun g hg => by cases hg⟩), (fun t g ht hg => by cases hg), (fun t t' g _ _ hg => by cases hg)⟩ (by omega) (by omega)).mono ?_; rintro e w2 ⟨rfl, hs2, hn2⟩; have HS2 : Hid (Srt w1 (some xb) w2) := hs2; have HMP : Hid (MpI w1 mb G es ck) := hmp; clear hs2 hmp))
      · have hno : ¬ ∀ e ∈ E, e.1 ∈ Sp.srt nodes ∧ e.2 ∈ Sp.srt nodes := by
          have h : (!decide (∀ e ∈ E, e.1 ∈ Sp.srt nodes ∧ e.2 ∈ Sp.srt nodes)) = true := by assumption
          simpa using h
        have hk : Sp.mkE nodes E = 140 := by
          rw [HK0.out, if_pos (by
            apply Classical.byContradiction
            intro hc
            refine hno fun e he => ?_
            rw [srt_mem, srt_mem]
            exact ⟨Classical.byContradiction fun h => hc ⟨e, he, .inl h⟩, Classical.byContradiction fun h => hc ⟨e, he, .inr h⟩⟩)]
        go_ret2
        refine ⟨none, by rw [hk]; rfl, ?_, (fun h => by rw [hk] at h; cases h), fun _ => rfl⟩
        have hb := HBr.out.bel
        have hs := HS2.out
        exact ⟨hs.1.trans hb.os, hs.2.1.trans hb.tape, hs.2.2.1.trans hb.output, Nat.le_trans hb.size hs.2.2.2.1, fun k hk => (hs.2.2.2.2 k (Nat.lt_of_lt_of_le hk hb.size) (fun e => by injection e with e; have := HBr.out.lo.2.2.1; omega)).trans (hb.block k hk)⟩
      · have hall : ∀ e ∈ E, e.1 ∈ Sp.srt nodes ∧ e.2 ∈ Sp.srt nodes := by
          have h : (!decide (∀ e ∈ E, e.1 ∈ Sp.srt nodes ∧ e.2 ∈ Sp.srt nodes)) = false := by assumption
          simpa using h
        have hk : Sp.mkE nodes E = 0 := by
          rw [HK0.out, if_neg (by
            rintro ⟨e, he, h⟩
            have := hall e he
            rw [srt_mem, srt_mem] at this
            rcases h with h | h
            · exact h this.1
            · exact h this.2)]
        obtain ⟨bl, cp, hnx⟩ := hn2 hall
        go_ret2
        have hb := HBr.out.bel
        have hs := HS2.out
        have hsz := hs.2.2.2.1
        have hsl : (Sp.srt nodes).length = nodes.length := srt_len nodes
        have hcn : CnG w2 gb mb xb nodes.length (.slice (adr gs) nodes.length c) G es ck (Sp.srt nodes) := CnG.keep ⟨HBr.out.cells, HMP.out, HBr.out.fro, HBr.out.to, ⟨HBr.out.ne.2.1, HBr.out.ne.2.2.1⟩, srt_len nodes, hnd⟩ hs
        have hnds : Nds w2 gs c (Sp.srt nodes) := HBr.out.nds.keep (fun g hg => hs.2.2.2.2 g (HBr.out.nds.2 g hg).lt (fun e => (HBr.out.ne.2.2.2 g hg).2.2 (Option.some.inj e).symm))
        have hlt := hnx.lt
        refine ⟨some ⟨gb, 0, none⟩, by rw [hk]; rfl, ?_, (fun _ => ⟨gb, rfl, gs, c, mb, xb, G, es, ck, bl, cp, w1.heap.size, ?_⟩), fun h => absurd hk h⟩
        · exact ⟨hs.1.trans hb.os, hs.2.1.trans hb.tape, hs.2.2.1.trans hb.output, Nat.le_trans hb.size hs.2.2.2.1, fun k hk => (hs.2.2.2.2 k (Nat.lt_of_lt_of_le hk hb.size) (fun e => by injection e with e; have := HBr.out.lo.2.2.1; omega)).trans (hb.block k hk)⟩
        · refine ⟨by rw [hsl]; exact hcn, hnds, by rw [hsl]; exact hnx, ⟨HBr.out.lo.1, (Array.getElem?_eq_some_iff.1 hcn.cells).1⟩, ⟨HBr.out.lo.2.1, (Array.getElem?_eq_some_iff.1 hcn.mp.blk).1⟩, ⟨HBr.out.lo.2.2.1, hlt.1⟩, fun g hg => ⟨HBr.out.lo.2.2.2 g hg, (hnds.2 g hg).lt⟩, fun t g ht hg => ⟨Nat.le_trans hb.size (hnx.lo t g (by rw [← hsl]; exact ht) hg), hlt.2 t g (by rw [← hsl]; exact ht) hg⟩⟩
    · rw [decide_eq_false hN] at hB1
      have hk : Sp.mkE nodes E = 1 := by
        unfold Sp.mkE
        rw [if_neg hL, if_pos (by
          apply Classical.byContradiction
          intro hc
          exact hN ⟨fun h => hc (.inl h), Classical.byContradiction fun h => hc (.inr h)⟩)]
      rw [hk]
      go_enter Try.func16, Try.ntmps16
      go_wp2_with (go_at_call 33; refine hB1.mono ?_; rintro e w1 ⟨gb, gs, c, mb, xb, G, rfl, hbar⟩; have HBr : Hid (Below w.heap.size w w1) := hbar.bel; clear hbar)
      go_ret2
      exact ⟨none, rfl, HBr.out, (fun h => by rw [hk] at h; cases h), fun _ => rfl⟩
end Go.Proofs.Ytilhheianbbbjaa

/- Rows of one's own whose elements have k cells each: append of any source. -/
namespace Go.Proofs.Ytilhheianbbbjaa
open Go.RowKit

structure OwnK (w : World) (e : TypeId) (k g n cap : Nat) (xs : List Value) : Prop where
  len : xs.length = n * k
  blk : ∃ cur : Array Value, w.heap[g]? = some (.cells cur e (0, 0)) ∧ n ≤ cap ∧ cap ≤ maxLen ∧ cur.size = cap * k ∧ xs = cur.toList.take (n * k)
theorem OwnK.lt {w : World} {e : TypeId} {k g n cap : Nat} {xs : List Value} (h : OwnK w e k g n cap xs) : g < w.heap.size := by
  obtain ⟨cur, h1, _⟩ := h.blk
  exact (Array.getElem?_eq_some_iff.1 h1).1
theorem OwnK.cell {w : World} {e : TypeId} {k g n cap : Nat} {xs : List Value} (h : OwnK w e k g n cap xs) {t : Nat} {x : Value} (ht : xs[t]? = some x) : w.cell? ⟨g, t, none⟩ = some x := by
  obtain ⟨cur, h1, h2, h3, h4, h5⟩ := h.blk
  rw [h5, List.getElem?_take] at ht
  split at ht
  · simpa [World.cell?, h1] using ht
  · cases ht
theorem OwnK.free {w : World} {e : TypeId} {k g n cap : Nat} {xs : List Value} (h : OwnK w e k g n cap xs) (t : Nat) : w.frozen? ⟨g, t, none⟩ = false := by
  obtain ⟨cur, h1, _⟩ := h.blk
  simp [World.frozen?, h1]
theorem OwnK.keep {w w' : World} {e : TypeId} {k g n cap : Nat} {xs : List Value} (h : OwnK w e k g n cap xs) (hb : w'.heap[g]? = w.heap[g]?) : OwnK w' e k g n cap xs := by
  obtain ⟨cur, h1, h2⟩ := h.blk
  exact ⟨h.len, cur, hb.trans h1, h2⟩
theorem run_appK {P : Program} (w : World) (t tx ty e : TypeId) (i : TypeInfo) (z : Value) (k bytes : Nat) (ht : P.underlying t = some (.slice e)) (hi : P.info? e = some i) (hz : i.zero = some z)
    (hsize : i.size = k) (hby : i.bytes = bytes) (hzs : z.cells.size = k) (g n cap : Nat) (xs : List Value) (hown : OwnK w e k g n cap xs)
    (x : Value) (m : Nat) (news : List Value) (hs : Src P k tx x m news w) (hbytes : ((n + m) + (n + m) / 4 + 192) * bytes ≤ 281474976710656) (hb1 : 1 ≤ bytes) :
    ∃ g' cap' w', (Builtin.append_ #[t, tx] ty #[.slice (some ⟨g, 0, none⟩) n cap, x]).run P w = .ok (.slice (some ⟨g', 0, none⟩) (n + m) cap') w' ∧ OwnK w' e k g' (n + m) cap' (xs ++ news) ∧ w.grownBy w' (some g) ∧ (g' = g ∨ g' = w.heap.size) := by
  have hnm : n + m ≤ 281474976710656 := by
    have : (n + m) * 1 ≤ ((n + m) + (n + m) / 4 + 192) * bytes := Nat.mul_le_mul (by omega) hb1
    omega
  have h63 : n + m ≤ maxLen := by simp only [maxLen]; omega
  subst hby
  have hnl : news.length = m * k := hs.newsLen
  have hl : (xs ++ news).length = (n + m) * k := by rw [List.length_append, hown.len, hnl, Nat.add_mul]
  have hmul : (n + m) * k = n * k + m * k := Nat.add_mul _ _ _
  obtain ⟨cur, hg, hnc, hcm, hcs, htake⟩ := hown.blk
  by_cases hroom : n + m ≤ cap
  · have hck : (n + m) * k ≤ cap * k := Nat.mul_le_mul_right k hroom
    have hst := run_storeCells_at P g (n * k) e news 0 cur w hg (by omega) hs.one
    simp only [Nat.add_zero] at hst
    have hr : (Builtin.append_ #[t, tx] ty #[.slice (some ⟨g, 0, none⟩) n cap, x]).run P w = .ok (.slice (some ⟨g, 0, none⟩) (n + m) cap) (w.setRow g (cur.toList.take (n * k) ++ news ++ cur.toList.drop (n * k + news.length)).toArray) := by
      rcases hs.kind with ⟨e', hk⟩ | hk <;> simp [Builtin.append_, run_underlying ht, run_underlying hk, sizeOf, typeInfo, hi, hsize, hs.len, hroom, hs.cells, addN, hst]
    refine ⟨g, cap, _, hr, ⟨hl, _, setRow_heap w g cur _ e _ hg, hroom, hcm, ?_, ?_⟩, ⟨rfl, rfl, rfl, by simp, fun j _ hj => setRow_other w g j _ (fun e => hj (by rw [e]))⟩, .inl rfl⟩
    · simp only [List.size_toArray, List.length_append, List.length_take, List.length_drop, Array.length_toList]
      omega
    · have e : cur.toList.take (n * k) ++ news ++ cur.toList.drop (n * k + news.length) = (xs ++ news) ++ cur.toList.drop (n * k + news.length) := by rw [htake]
      rw [e, ← hl]; exact List.take_left.symm
  · have holds : ∀ j u, xs[j]? = some u → w.cell? ((⟨g, 0, none⟩ : Addr).add j) = some u := fun j u hj => by rw [addN, Nat.zero_add]; exact hown.cell hj
    have hold : (Builtin.firstCells i.size n (.slice (some ⟨g, 0, none⟩) n cap)).run P w.drew = .ok xs.toArray w.drew := run_firstCells_some w.drew i.size n ⟨g, 0, none⟩ n cap xs (by rw [hsize]; exact hown.len) (by simpa using holds)
    have hr := run_append_grow_src (P := P) w t tx ty e i z ht hi hz (some ⟨g, 0, none⟩) n cap xs hold x m news (by rw [hsize]; exact hs) (by omega) (by simp only [maxLen] at h63; omega) (growslice_fits_wide (by omega) hbytes)
    have hge := grownCap_ge w (n + m) cap e
    have hcm' : grownCap w (n + m) cap e ≤ maxLen := grownCap_le_maxLen w (n + m) cap e h63
    refine ⟨w.heap.size, _, _, hr, ⟨hl, _, heap_alloc_new w.drew _, hge, hcm', ?_, ?_⟩, ⟨rfl, rfl, rfl, by simp, fun j hj _ => heap_alloc_old w.drew _ hj⟩, .inr rfl⟩
    · have hgk := Nat.mul_le_mul_right k hge
      simp only [Array.size_append, List.size_toArray, size_zeroCells, hzs, hl, Nat.sub_mul]
      omega
    · simp only [Array.toList_append]
      rw [← hl]
      exact List.take_left.symm
end Go.Proofs.Ytilhheianbbbjaa

/- tenonref14: the row of calls grows by one. -/
namespace Go.Proofs.Ytilhheianbbbjaa
open Go.RowKit

def cv : List (Int × Bool) → List Value
  | [] => []
  | p :: l => .int .u64 p.1 :: .bool p.2 :: cv l
theorem cell_two_new (w : World) (e : TypeId) (a b : Value) : ∀ j u, [a, b][j]? = some u → (w.alloc (.cells #[a, b] e)).cell? ((⟨w.heap.size, 0, none⟩ : Addr).add j) = some u := by
  intro j u h
  rw [addN, Nat.zero_add]
  have := heap_alloc_new w (.cells #[a, b] e)
  simp only [World.cell?, this]
  simpa using h
end Go.Proofs.Ytilhheianbbbjaa

/- tenonref14.find and place: where a node stands among rising ones. -/
namespace Go.Proofs.Ytilhheianbbbjaa
open Go.RowKit Go.ChangeMaps

def Sp.fnd (N : List Int) (x : Int) : Nat := (N.filter fun y => decide (y < x)).length
theorem fnd_le (N : List Int) (x : Int) : Sp.fnd N x ≤ N.length := List.length_filter_le _ _
theorem fnd_iff : ∀ {N : List Int}, N.Pairwise (· < ·) → ∀ {t : Nat} {y x : Int}, N[t]? = some y → (y < x ↔ t < Sp.fnd N x)
  | [], _, t, y, x, h => by simp at h
  | z :: N, hp, 0, y, x, h => by
    simp at h; subst h
    unfold Sp.fnd
    rw [List.pairwise_cons] at hp
    by_cases hz : z < x
    · simp [hz]
    · have hn : N.filter (fun y => decide (y < x)) = [] := by
        rw [List.filter_eq_nil_iff]
        intro a ha
        have := hp.1 a ha
        simp; omega
      simp [hz, hn]
  | z :: N, hp, t + 1, y, x, h => by
    rw [List.pairwise_cons] at hp
    have ih := fnd_iff hp.2 (x := x) (t := t) (y := y) (by simpa using h)
    have hy : y ∈ N := List.mem_of_getElem? (by simpa using h)
    have := hp.1 y hy
    unfold Sp.fnd at *
    by_cases hz : z < x
    · simp [hz]; exact ih
    · have hn : N.filter (fun y => decide (y < x)) = [] := by
        rw [List.filter_eq_nil_iff]
        intro a ha
        have := hp.1 a ha
        simp; omega
      simp [hz, hn]; omega
theorem fnd_at {N : List Int} (hp : N.Pairwise (· < ·)) {x : Int} {t : Nat} (h : N[t]? = some x) : Sp.fnd N x = t := by
  have h1 := fnd_iff hp (x := x) h
  have hl := (List.getElem?_eq_some_iff.1 h).1
  rcases Nat.lt_trichotomy (Sp.fnd N x) t with h2 | h2 | h2
  · exfalso
    have h3 := fnd_iff hp (x := x) (t := Sp.fnd N x) (y := N[Sp.fnd N x]) (List.getElem?_eq_getElem (by omega))
    have h4 := List.pairwise_iff_getElem.1 hp (Sp.fnd N x) t (by omega) hl h2
    rw [List.getElem?_eq_getElem hl] at h
    injection h with h
    rw [h] at h4
    have := h3.1 h4
    omega
  · exact h2
  · have := h1.2 h2; omega

set_option maxRecDepth 100000 in
set_option maxHeartbeats 4000000 in
theorem find_any (gs : Option Nat) (c : Nat) (N : List Int) (x : Int) (w : World) (h : Nds w gs c N) (hp : N.Pairwise (· < ·)) (hl : N.length ≤ 4096) :
    Calls Try.prog 35 #[.slice (adr gs) N.length c, .int .u64 x] w fun e w' => e = .returned (.int .i64 (Sp.fnd N x)) ∧ w' = w := by
  have hfl := fnd_le N x
  obtain ⟨k, hk⟩ : ∃ k, k = Sp.fnd N x := ⟨_, rfl⟩
  have HF : Hid (∀ t y, N[t]? = some y → (y < x ↔ t < k)) := fun t y hy => by rw [hk]; exact fnd_iff hp hy
  rw [← hk] at hfl ⊢
  clear hk
  have HH : Hid (Nds w gs c N) := h
  clear h
  go_enter Try.func35, Try.ntmps35
  go_wp2
  go_loopw [5, 6] (fun v5 v6 wr => ∃ (lo hi : Nat), v5 = .int .i64 lo ∧ v6 = .int .i64 hi ∧ lo ≤ k ∧ k ≤ hi ∧ hi ≤ N.length ∧ wr = w) (fun v5 v6 _ => (intOf v6).toNat - (intOf v5).toNat)
  case atStart => exact ⟨0, N.length, rfl, rfl, Nat.zero_le _, hfl, Nat.le_refl _, rfl⟩
  case round =>
    obtain ⟨lo, hi, rfl, rfl, h1, h2, h3, rfl⟩ := hrel
    by_cases hlt : lo < hi
    · obtain ⟨g, rfl⟩ : ∃ g, gs = some g := by
        cases gs with
        | some g => exact ⟨g, rfl⟩
        | none => have := HH.out.1 rfl; subst this; simp at h3; omega
      obtain ⟨m, hm⟩ : ∃ m : Nat, m = (lo + hi) / 2 := ⟨_, rfl⟩
      have hm1 : lo ≤ m ∧ m < hi := by omega
      have hmz : ((lo : Int) + (hi : Int)) / 2 = (m : Int) := by omega
      obtain ⟨y, hy⟩ : ∃ y, N[m]? = some y := ⟨_, List.getElem?_eq_getElem (by omega)⟩
      have hc : wr.cell? ⟨g, m, none⟩ = some (.int .u64 y) := (HH.out.2 g rfl).cell (by simp [rv, hy])
      have hiff := HF.out m y hy
      have HI : Hid (y < x ↔ m < k) := hiff
      clear hm hiff hy
      have ea : adr (some g) = some ⟨g, 0, none⟩ := rfl
      by_cases hyx : y < x
      · have hmk := HI.out.1 hyx
        go_wp2
        go_roundw
        case rel => exact ⟨m + 1, hi, by go_num, by trivial, by omega, by omega, by omega, by trivial⟩
        case measure => simp [intOf]; omega
      · have hmk : ¬ m < k := fun h => hyx (HI.out.2 h)
        go_wp2
        go_roundw
        case rel => exact ⟨lo, m, by trivial, by first | trivial | rw [hmz], by omega, by omega, by omega, by trivial⟩
        case measure => simp [intOf]; omega
    · obtain rfl : lo = k := by omega
      go_wp2
      go_ret
      exact ⟨rfl, rfl⟩

def RgN (w : World) (gb : Nat) (gs : Option Nat) (c : Nat) (N : List Int) : Prop := w.cell? ⟨gb, 0, none⟩ = some (.slice (adr gs) N.length c) ∧ Nds w gs c N
def Sp.plc (N : List Int) (x : Int) : Int := if x ∈ N then (N.idxOf x : Int) else -1
set_option maxRecDepth 100000 in
set_option maxHeartbeats 4000000 in
theorem place_any (gb : Nat) (gs : Option Nat) (c : Nat) (N : List Int) (x : Int) (w : World) (h : RgN w gb gs c N) (hp : N.Pairwise (· < ·)) (hl : N.length ≤ 4096) :
    Calls Try.prog 27 #[.pointer (some ⟨gb, 0, none⟩), .int .u64 x] w fun e w' => e = .returned (.int .i64 (Sp.plc N x)) ∧ w' = w := by
  have hnd : N.Nodup := hp.imp (by intro a b h e; omega)
  obtain ⟨hc0, hN⟩ := h
  have hf := find_any gs c N x w hN hp hl
  have hfl := fnd_le N x
  by_cases hx : x ∈ N
  · obtain ⟨t, ht⟩ := List.mem_iff_getElem?.1 hx
    have e1 := fnd_at hp ht
    have htl := (List.getElem?_eq_some_iff.1 ht).1
    have e2 : Sp.plc N x = (t : Int) := by
      unfold Sp.plc
      obtain ⟨_, rfl⟩ := List.getElem?_eq_some_iff.1 ht
      rw [if_pos hx, hnd.idxOf_getElem t htl]
    obtain ⟨g, rfl⟩ : ∃ g, gs = some g := by
      cases gs with
      | some g => exact ⟨g, rfl⟩
      | none => have := hN.1 rfl; subst this; simp at htl
    have hcx : w.cell? ⟨g, t, none⟩ = some (.int .u64 x) := (hN.2 g rfl).cell (by simp [rv, ht])
    have ea : adr (some g) = some ⟨g, 0, none⟩ := rfl
    rw [e1] at hf
    rw [e2]
    have hlz : (t : Int) < (N.length : Int) := by omega
    clear hN ht e1 e2 hfl hx
    go_enter Try.func27, Try.ntmps27
    go_wp2_with (go_at_call 35; refine hf.mono ?_; rintro e w1 ⟨rfl, rfl⟩)
    go_ret
    exact ⟨rfl, rfl⟩
  · have e2 : Sp.plc N x = -1 := by unfold Sp.plc; rw [if_neg hx]
    rw [e2]
    obtain ⟨k, hk⟩ : ∃ k, k = Sp.fnd N x := ⟨_, rfl⟩
    rw [← hk] at hf hfl
    clear hk e2
    by_cases hkl : k < N.length
    · obtain ⟨g, rfl⟩ : ∃ g, gs = some g := by
        cases gs with
        | some g => exact ⟨g, rfl⟩
        | none => have := hN.1 rfl; subst this; simp at hkl
      obtain ⟨y, hy⟩ : ∃ y, N[k]? = some y := ⟨_, List.getElem?_eq_getElem hkl⟩
      have hcx : w.cell? ⟨g, k, none⟩ = some (.int .u64 y) := (hN.2 g rfl).cell (by simp [rv, hy])
      have hne : ¬ y = x := fun e => hx (e ▸ List.mem_of_getElem? hy)
      have ea : adr (some g) = some ⟨g, 0, none⟩ := rfl
      have hlz : (k : Int) < (N.length : Int) := by omega
      clear hN hy hx
      go_enter Try.func27, Try.ntmps27
      go_wp2_with (go_at_call 35; refine hf.mono ?_; rintro e w1 ⟨rfl, rfl⟩)
      go_ret
      exact ⟨rfl, rfl⟩
    · have hlz : decide ((k : Int) < (N.length : Int)) = false := decide_eq_false (by omega)
      clear hN hx
      go_enter Try.func27, Try.ntmps27
      go_wp2_with (go_at_call 35; refine hf.mono ?_; rintro e w1 ⟨rfl, rfl⟩)
      go_ret
      exact ⟨rfl, rfl⟩
end Go.Proofs.Ytilhheianbbbjaa

