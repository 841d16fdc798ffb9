/- graph.Make: the graph of any nodes and edges, or why there is none. -/
import Derived.Test.YtikhpbidbcfedaaGreatKk11
import Derived.Test.YtikhpbidbcfedaaGreatKk13
import Derived.Test.YtikhpbidbcfedaaGreatKk2
import Derived.Test.YtikhpbidbcfedaaGreatKk12
import Derived.OrdersHeld
import Derived.Deep.RegionHeld
namespace Go.Proofs.YtikhpbidbcfedaaGreat
open Go.RowKit Go.ChangeMaps

structure GrP (w : World) (D : Nat → Prop) (gb : Nat) (N : List Int) (nx : Nat → List Nat) (gs : Option Nat) (c mb xb : Nat) (G : List (Int × Int)) (es : Array MapEntry) (ck : Nat) (bl : Nat → Option Nat) (cp : Nat → Nat) (lo : Nat) : Prop where
  cn : CnG w gb mb xb N.length (.slice (adr gs) N.length c) G es ck N
  nds : Nds w gs c N
  nxt : NxR w lo xb N.length bl cp (fun t => (nx t).map (fun j : Nat => (j : Int)))
  ins : D gb ∧ D mb ∧ D xb ∧ (∀ g, gs = some g → D g) ∧ ∀ t g, t < N.length → bl t = some g → D g
theorem GrP.keep {w w' : World} {D : Nat → Prop} {gb : Nat} {N : List Int} {nx : Nat → List Nat} {gs : Option Nat} {c mb xb : Nat} {G : List (Int × Int)} {es : Array MapEntry} {ck : Nat} {bl : Nat → Option Nat} {cp : Nat → Nat} {lo : Nat} (h : GrP w D gb N nx gs c mb xb G es ck bl cp lo) (hs : ∀ k, D k → w'.heap[k]? = w.heap[k]?) : GrP w' D gb N nx gs c mb xb G es ck bl cp lo :=
  ⟨⟨(hs gb h.ins.1).trans h.cn.cells, h.cn.mp.keep (hs mb h.ins.2.1), h.cn.fro, h.cn.to, h.cn.ne, h.cn.len, h.cn.nd⟩, h.nds.keep (fun g hg => hs g (h.ins.2.2.2.1 g hg)), h.nxt.keep (hs xb h.ins.2.2.1) (fun t g ht hg => hs g (h.ins.2.2.2.2 t g ht hg)), h.ins⟩
def GrE (w : World) (D : Nat → Prop) (gb : Nat) (N : List Int) (nx : Nat → List Nat) : Prop := ∃ gs c mb xb G es ck bl cp lo, GrP w D gb N nx gs c mb xb G es ck bl cp lo
theorem GrE.keep {w w' : World} {D : Nat → Prop} {gb : Nat} {N : List Int} {nx : Nat → List Nat} (h : GrE w D gb N nx) (hs : ∀ k, D k → w'.heap[k]? = w.heap[k]?) : GrE w' D gb N nx := by
  obtain ⟨gs, c, mb, xb, G, es, ck, bl, cp, lo, h⟩ := h
  exact ⟨gs, c, mb, xb, G, es, ck, bl, cp, lo, h.keep hs⟩
def MkE (w : World) (nodes : List Int) (E : List (Int × Int)) (p : Option Addr) (w' : World) : Prop :=
  Below w.heap.size w w' ∧ (Sp.mkE nodes E = 0 → ∃ gb, p = some ⟨gb, 0, none⟩ ∧ GrE w' (fun k => w.heap.size ≤ k ∧ k < w'.heap.size) gb (Sp.srt nodes) (Sp.nx (Sp.srt nodes) E)) ∧ (Sp.mkE nodes E ≠ 0 → p = none)

set_option maxRecDepth 100000 in
set_option maxHeartbeats 8000000 in
theorem Make_any (a : Option Addr) (cap : Nat) (nodes : List Int) (a2 : Option Addr) (cap2 : Nat) (E : List (Int × Int)) (B : Nat) (w : World) (h : RefsAt w B a nodes) (h2 : EdgesAt w B a2 E) (hB : B ≤ w.heap.size) (hl : nodes.length * 8 ≤ 140737488355328) (hl2 : E.length * 16 ≤ 140737488355328) :
    Calls Tryz.prog 9 #[.slice a nodes.length cap, .slice a2 E.length cap2] w fun e w' => ∃ p, e = .returned (.tuple #[.pointer p, .int .i64 (Sp.mkE nodes E)]) ∧ MkE w nodes E p w' := by
  by_cases hL : 4096 < nodes.length ∨ 16384 < E.length
  · have hk : Sp.mkE nodes E = 2 := by unfold Sp.mkE; rw [if_pos hL]
    rw [hk]
    have HK : Hid (MkE w nodes E none w) := ⟨Below.refl _ _, (fun h => by rw [hk] at h; cases h), fun _ => rfl⟩
    clear hk
    by_cases h1 : 4096 < nodes.length
    · have h1z : (4096 : Int) < (nodes.length : Int) := by omega
      go_enter Tryz.func9, Tryz.ntmps9
      go_wp2
      go_ret2
      exact ⟨none, rfl, HK.out⟩
    · have h1z : ¬ (4096 : Int) < (nodes.length : Int) := by omega
      have h2z : (16384 : Int) < (E.length : Int) := by omega
      go_enter Tryz.func9, Tryz.ntmps9
      go_wp2
      go_ret2
      exact ⟨none, rfl, HK.out⟩
  · have h1z : ¬ (4096 : Int) < (nodes.length : Int) := by omega
    have h2z : ¬ (16384 : Int) < (E.length : Int) := by omega
    have hB1 := bare_any a cap nodes B w h hB (by omega)
    by_cases hN : (0 : Int) ∉ nodes ∧ nodes.Nodup
    · rw [decide_eq_true hN] at hB1
      have hnd : (Sp.srt nodes).Nodup := (srt_perm nodes).nodup_iff.2 hN.2
      have HE : Hid (EdgesAt w B a2 E) := h2
      have HK0 : Hid (Sp.mkE nodes E = if ∃ e ∈ E, e.1 ∉ nodes ∨ e.2 ∉ nodes then 140 else 0) := by
        show _ = _
        unfold Sp.mkE
        rw [if_neg hL, if_neg (by rintro (h | h); exact hN.1 h; exact h hN.2)]
      clear h h2
      go_enter Tryz.func9, Tryz.ntmps9
      go_wp2_with (first
        | (go_at_call 26; refine hB1.mono ?_; rintro e w1 ⟨gb, gs, c, mb, xb, G, rfl, hbar⟩; have HBr : Hid (Bar w w1 gb gs c mb xb nodes.length G (Sp.srt nodes)) := hbar; clear hbar)
        | (go_at_call 27; obtain ⟨es, ck, hmp⟩ := HBr.out.map; refine (connect_any gb mb xb nodes.length (.slice (adr gs) nodes.length c) G es ck (Sp.srt nodes) a2 cap2 E B w1 ⟨HBr.out.cells, hmp, HBr.out.fro, HBr.out.to, ⟨HBr.out.ne.2.1, HBr.out.ne.2.2.1⟩, srt_len nodes, hnd⟩ (HE.out.keep (fun k hk => HBr.out.bel.block k (by omega))) (Nat.le_trans hB HBr.out.bel.size) (Nat.le_trans hB HBr.out.lo.2.2.1) ⟨HBr.out.nxt, (fun t ht => ⟨fun _ => ⟨rfl, rfl⟩, fun g hg => by cases hg⟩), (fun t g ht hg => by cases hg), (fun t t' g _ _ hg => by cases hg)⟩ (by omega) (by omega)).mono ?_; rintro e w2 ⟨rfl, hs2, hn2⟩; have HS2 : Hid (Srt w1 (some xb) w2) := hs2; have HMP : Hid (MpI w1 mb G es ck) := hmp; clear hs2 hmp))
      · have hno : ¬ ∀ e ∈ E, e.1 ∈ Sp.srt nodes ∧ e.2 ∈ Sp.srt nodes := by
          have h : (!decide (∀ e ∈ E, e.1 ∈ Sp.srt nodes ∧ e.2 ∈ Sp.srt nodes)) = true := by assumption
          simpa using h
        have hk : Sp.mkE nodes E = 140 := by
          rw [HK0.out, if_pos (by
            apply Classical.byContradiction
            intro hc
            refine hno fun e he => ?_
            rw [srt_mem, srt_mem]
            exact ⟨Classical.byContradiction fun h => hc ⟨e, he, .inl h⟩, Classical.byContradiction fun h => hc ⟨e, he, .inr h⟩⟩)]
        go_ret2
        refine ⟨none, by rw [hk]; rfl, ?_, (fun h => by rw [hk] at h; cases h), fun _ => rfl⟩
        have hb := HBr.out.bel
        have hs := HS2.out
        exact ⟨hs.1.trans hb.os, hs.2.1.trans hb.tape, hs.2.2.1.trans hb.output, Nat.le_trans hb.size hs.2.2.2.1, fun k hk => (hs.2.2.2.2 k (Nat.lt_of_lt_of_le hk hb.size) (fun e => by injection e with e; have := HBr.out.lo.2.2.1; omega)).trans (hb.block k hk)⟩
      · have hall : ∀ e ∈ E, e.1 ∈ Sp.srt nodes ∧ e.2 ∈ Sp.srt nodes := by
          have h : (!decide (∀ e ∈ E, e.1 ∈ Sp.srt nodes ∧ e.2 ∈ Sp.srt nodes)) = false := by assumption
          simpa using h
        have hk : Sp.mkE nodes E = 0 := by
          rw [HK0.out, if_neg (by
            rintro ⟨e, he, h⟩
            have := hall e he
            rw [srt_mem, srt_mem] at this
            rcases h with h | h
            · exact h this.1
            · exact h this.2)]
        obtain ⟨bl, cp, hnx⟩ := hn2 hall
        go_ret2
        have hb := HBr.out.bel
        have hs := HS2.out
        have hsz := hs.2.2.2.1
        have hsl : (Sp.srt nodes).length = nodes.length := srt_len nodes
        have hcn : CnG w2 gb mb xb nodes.length (.slice (adr gs) nodes.length c) G es ck (Sp.srt nodes) := CnG.keep ⟨HBr.out.cells, HMP.out, HBr.out.fro, HBr.out.to, ⟨HBr.out.ne.2.1, HBr.out.ne.2.2.1⟩, srt_len nodes, hnd⟩ hs
        have hnds : Nds w2 gs c (Sp.srt nodes) := HBr.out.nds.keep (fun g hg => hs.2.2.2.2 g (HBr.out.nds.2 g hg).lt (fun e => (HBr.out.ne.2.2.2 g hg).2.2 (Option.some.inj e).symm))
        have hlt := hnx.lt
        refine ⟨some ⟨gb, 0, none⟩, by rw [hk]; rfl, ?_, (fun _ => ⟨gb, rfl, gs, c, mb, xb, G, es, ck, bl, cp, w1.heap.size, ?_⟩), fun h => absurd hk h⟩
        · exact ⟨hs.1.trans hb.os, hs.2.1.trans hb.tape, hs.2.2.1.trans hb.output, Nat.le_trans hb.size hs.2.2.2.1, fun k hk => (hs.2.2.2.2 k (Nat.lt_of_lt_of_le hk hb.size) (fun e => by injection e with e; have := HBr.out.lo.2.2.1; omega)).trans (hb.block k hk)⟩
        · refine ⟨by rw [hsl]; exact hcn, hnds, by rw [hsl]; exact hnx, ⟨HBr.out.lo.1, (Array.getElem?_eq_some_iff.1 hcn.cells).1⟩, ⟨HBr.out.lo.2.1, (Array.getElem?_eq_some_iff.1 hcn.mp.blk).1⟩, ⟨HBr.out.lo.2.2.1, hlt.1⟩, fun g hg => ⟨HBr.out.lo.2.2.2 g hg, (hnds.2 g hg).lt⟩, fun t g ht hg => ⟨Nat.le_trans hb.size (hnx.lo t g (by rw [← hsl]; exact ht) hg), hlt.2 t g (by rw [← hsl]; exact ht) hg⟩⟩
    · rw [decide_eq_false hN] at hB1
      have hk : Sp.mkE nodes E = 1 := by
        unfold Sp.mkE
        rw [if_neg hL, if_pos (by
          apply Classical.byContradiction
          intro hc
          exact hN ⟨fun h => hc (.inl h), Classical.byContradiction fun h => hc (.inr h)⟩)]
      rw [hk]
      go_enter Tryz.func9, Tryz.ntmps9
      go_wp2_with (go_at_call 26; refine hB1.mono ?_; rintro e w1 ⟨gb, gs, c, mb, xb, G, rfl, hbar⟩; have HBr : Hid (Below w.heap.size w w1) := hbar.bel; clear hbar)
      go_ret2
      exact ⟨none, rfl, HBr.out, (fun h => by rw [hk] at h; cases h), fun _ => rfl⟩
end Go.Proofs.YtikhpbidbcfedaaGreat

/- Rows of one's own whose elements have k cells each: append of any source. -/
namespace Go.Proofs.YtikhpbidbcfedaaGreat
open Go.RowKit

structure OwnK (w : World) (e : TypeId) (k g n cap : Nat) (xs : List Value) : Prop where
  len : xs.length = n * k
  blk : ∃ cur : Array Value, w.heap[g]? = some (.cells cur e (0, 0)) ∧ n ≤ cap ∧ cap ≤ maxLen ∧ cur.size = cap * k ∧ xs = cur.toList.take (n * k)
theorem OwnK.lt {w : World} {e : TypeId} {k g n cap : Nat} {xs : List Value} (h : OwnK w e k g n cap xs) : g < w.heap.size := by
  obtain ⟨cur, h1, _⟩ := h.blk
  exact (Array.getElem?_eq_some_iff.1 h1).1
theorem OwnK.cell {w : World} {e : TypeId} {k g n cap : Nat} {xs : List Value} (h : OwnK w e k g n cap xs) {t : Nat} {x : Value} (ht : xs[t]? = some x) : w.cell? ⟨g, t, none⟩ = some x := by
  obtain ⟨cur, h1, h2, h3, h4, h5⟩ := h.blk
  rw [h5, List.getElem?_take] at ht
  split at ht
  · simpa [World.cell?, h1] using ht
  · cases ht
theorem OwnK.free {w : World} {e : TypeId} {k g n cap : Nat} {xs : List Value} (h : OwnK w e k g n cap xs) (t : Nat) : w.frozen? ⟨g, t, none⟩ = false := by
  obtain ⟨cur, h1, _⟩ := h.blk
  simp [World.frozen?, h1]
theorem OwnK.keep {w w' : World} {e : TypeId} {k g n cap : Nat} {xs : List Value} (h : OwnK w e k g n cap xs) (hb : w'.heap[g]? = w.heap[g]?) : OwnK w' e k g n cap xs := by
  obtain ⟨cur, h1, h2⟩ := h.blk
  exact ⟨h.len, cur, hb.trans h1, h2⟩
theorem run_appK {P : Program} (w : World) (t tx ty e : TypeId) (i : TypeInfo) (z : Value) (k bytes : Nat) (ht : P.underlying t = some (.slice e)) (hi : P.info? e = some i) (hz : i.zero = some z)
    (hsize : i.size = k) (hby : i.bytes = bytes) (hzs : z.cells.size = k) (g n cap : Nat) (xs : List Value) (hown : OwnK w e k g n cap xs)
    (x : Value) (m : Nat) (news : List Value) (hs : Src P k tx x m news w) (hbytes : ((n + m) + (n + m) / 4 + 192) * bytes ≤ 281474976710656) (hb1 : 1 ≤ bytes) :
    ∃ g' cap' w', (Builtin.append_ #[t, tx] ty #[.slice (some ⟨g, 0, none⟩) n cap, x]).run P w = .ok (.slice (some ⟨g', 0, none⟩) (n + m) cap') w' ∧ OwnK w' e k g' (n + m) cap' (xs ++ news) ∧ w.grownBy w' (some g) ∧ (g' = g ∨ g' = w.heap.size) := by
  have hnm : n + m ≤ 281474976710656 := by
    have : (n + m) * 1 ≤ ((n + m) + (n + m) / 4 + 192) * bytes := Nat.mul_le_mul (by omega) hb1
    omega
  have h63 : n + m ≤ maxLen := by simp only [maxLen]; omega
  subst hby
  have hnl : news.length = m * k := hs.newsLen
  have hl : (xs ++ news).length = (n + m) * k := by rw [List.length_append, hown.len, hnl, Nat.add_mul]
  have hmul : (n + m) * k = n * k + m * k := Nat.add_mul _ _ _
  obtain ⟨cur, hg, hnc, hcm, hcs, htake⟩ := hown.blk
  by_cases hroom : n + m ≤ cap
  · have hck : (n + m) * k ≤ cap * k := Nat.mul_le_mul_right k hroom
    have hst := run_storeCells_at P g (n * k) e news 0 cur w hg (by omega) hs.one
    simp only [Nat.add_zero] at hst
    have hr : (Builtin.append_ #[t, tx] ty #[.slice (some ⟨g, 0, none⟩) n cap, x]).run P w = .ok (.slice (some ⟨g, 0, none⟩) (n + m) cap) (w.setRow g (cur.toList.take (n * k) ++ news ++ cur.toList.drop (n * k + news.length)).toArray) := by
      rcases hs.kind with ⟨e', hk⟩ | hk <;> simp [Builtin.append_, run_underlying ht, run_underlying hk, sizeOf, typeInfo, hi, hsize, hs.len, hroom, hs.cells, addN, hst]
    refine ⟨g, cap, _, hr, ⟨hl, _, setRow_heap w g cur _ e _ hg, hroom, hcm, ?_, ?_⟩, ⟨rfl, rfl, rfl, by simp, fun j _ hj => setRow_other w g j _ (fun e => hj (by rw [e]))⟩, .inl rfl⟩
    · simp only [List.size_toArray, List.length_append, List.length_take, List.length_drop, Array.length_toList]
      omega
    · have e : cur.toList.take (n * k) ++ news ++ cur.toList.drop (n * k + news.length) = (xs ++ news) ++ cur.toList.drop (n * k + news.length) := by rw [htake]
      rw [e, ← hl]; exact List.take_left.symm
  · have holds : ∀ j u, xs[j]? = some u → w.cell? ((⟨g, 0, none⟩ : Addr).add j) = some u := fun j u hj => by rw [addN, Nat.zero_add]; exact hown.cell hj
    have hold : (Builtin.firstCells i.size n (.slice (some ⟨g, 0, none⟩) n cap)).run P w.drew = .ok xs.toArray w.drew := run_firstCells_some w.drew i.size n ⟨g, 0, none⟩ n cap xs (by rw [hsize]; exact hown.len) (by simpa using holds)
    have hr := run_append_grow_src (P := P) w t tx ty e i z ht hi hz (some ⟨g, 0, none⟩) n cap xs hold x m news (by rw [hsize]; exact hs) (by omega) (by simp only [maxLen] at h63; omega) (growslice_fits_wide (by omega) hbytes)
    have hge := grownCap_ge w (n + m) cap e
    have hcm' : grownCap w (n + m) cap e ≤ maxLen := grownCap_le_maxLen w (n + m) cap e h63
    refine ⟨w.heap.size, _, _, hr, ⟨hl, _, heap_alloc_new w.drew _, hge, hcm', ?_, ?_⟩, ⟨rfl, rfl, rfl, by simp, fun j hj _ => heap_alloc_old w.drew _ hj⟩, .inr rfl⟩
    · have hgk := Nat.mul_le_mul_right k hge
      simp only [Array.size_append, List.size_toArray, size_zeroCells, hzs, hl, Nat.sub_mul]
      omega
    · simp only [Array.toList_append]
      rw [← hl]
      exact List.take_left.symm
end Go.Proofs.YtikhpbidbcfedaaGreat

/- tenonref14: the row of calls grows by one. -/
namespace Go.Proofs.YtikhpbidbcfedaaGreat
open Go.RowKit

def cv : List (Int × Bool) → List Value
  | [] => []
  | p :: l => .int .u64 p.1 :: .bool p.2 :: cv l
theorem cell_two_new (w : World) (e : TypeId) (a b : Value) : ∀ j u, [a, b][j]? = some u → (w.alloc (.cells #[a, b] e)).cell? ((⟨w.heap.size, 0, none⟩ : Addr).add j) = some u := by
  intro j u h
  rw [addN, Nat.zero_add]
  have := heap_alloc_new w (.cells #[a, b] e)
  simp only [World.cell?, this]
  simpa using h
end Go.Proofs.YtikhpbidbcfedaaGreat

/- tenonref14.find and place: where a node stands among rising ones. -/
namespace Go.Proofs.YtikhpbidbcfedaaGreat
open Go.RowKit Go.ChangeMaps

def Sp.fnd (N : List Int) (x : Int) : Nat := (N.filter fun y => decide (y < x)).length
def RgN (w : World) (gb : Nat) (gs : Option Nat) (c : Nat) (N : List Int) : Prop := w.cell? ⟨gb, 0, none⟩ = some (.slice (adr gs) N.length c) ∧ Nds w gs c N
def Sp.plc (N : List Int) (x : Int) : Int := if x ∈ N then (N.idxOf x : Int) else -1
end Go.Proofs.YtikhpbidbcfedaaGreat

/- graph.walk: walks with any visitor: what is asked of one, and how a walk ends. -/
namespace Go.Proofs.YtikhpbidbcfedaaGreat
open Go.RowKit Go.ChangeMaps

structure Kw (M : Nat → Prop) (w w' : World) : Prop where
  os : w'.os = w.os
  tape : w'.tape = w.tape
  output : w'.output = w.output
  size : w.heap.size ≤ w'.heap.size
  block : ∀ j, j < w.heap.size → ¬ M j → w'.heap[j]? = w.heap[j]?
theorem Kw.refl (M : Nat → Prop) (w : World) : Kw M w w := ⟨rfl, rfl, rfl, Nat.le_refl _, fun _ _ _ => rfl⟩
theorem Kw.trans {M : Nat → Prop} {a b d : World} (h : Kw M a b) (k : Kw M b d) : Kw M a d := ⟨k.os.trans h.os, k.tape.trans h.tape, k.output.trans h.output, Nat.le_trans h.size k.size, fun j h1 h2 => (k.block j (Nat.lt_of_lt_of_le h1 h.size) h2).trans (h.block j h1 h2)⟩
theorem Kw.mono {M M' : Nat → Prop} {w w' : World} (h : Kw M w w') (hm : ∀ j, M j → M' j) : Kw M' w w' := ⟨h.os, h.tape, h.output, h.size, fun j h1 h2 => h.block j h1 fun h3 => h2 (hm j h3)⟩
theorem Kw.alloc {M : Nat → Prop} {a w : World} (h : Kw M a w) (o : Obj) : Kw M a (w.alloc o) := h.trans ⟨rfl, rfl, rfl, by simp, fun j h1 _ => Below.heap_alloc w o j h1⟩
theorem Kw.drew {M : Nat → Prop} {a w : World} (h : Kw M a w) : Kw M a w.drew := ⟨h.os, h.tape, h.output, h.size, h.block⟩
theorem Kw.set {M : Nat → Prop} {c o : Nat} {a w : World} (h : Kw M a w) (hc : M c ∨ a.heap.size ≤ c) (v : Value) : Kw M a (w.setCell ⟨c, o, none⟩ v) := ⟨h.os, h.tape, h.output, by simpa [World.setCell] using h.size, fun j h1 h2 => (Below.heap_setCell _ _ _ _ (show j ≠ c by intro e; subst e; rcases hc with hc | hc; exact h2 hc; omega)).trans (h.block j h1 h2)⟩

def BEnd (r : Option Bool) (e : Ending) : Prop := match r with | some b => e = .returned (.bool b) | none => ∃ v, e = .panicked [{ v := v, recovered := false }]
abbrev bv (l : List Bool) : List Value := l.map Value.bool
structure VisH (σ : Type) (V : Vr σ) (n m0 eb : Nat) (M : Nat → Prop) (I : σ → World → Prop) (Fe Fl : Nat) (ce cl : Array Value) : Prop where
  keep : ∀ s (W W' : World), I s W → W.heap.size ≤ W'.heap.size → (∀ k, k < W.heap.size → k ≠ eb → W'.heap[k]? = W.heap[k]?) → W'.os = W.os → W'.tape = W.tape → W'.output = W.output → I s W'
  enter : ∀ s j (W : World), j < n → I s W → Calls Tryz.prog Fe (#[.int .i64 (j : Nat)] ++ ce) W fun e W' => BEnd (V.enter s j).1 e ∧ I (V.enter s j).2 W' ∧ Kw M W W'
  leave : ∀ s j (W : World), j < n → I s W → Calls Tryz.prog Fl (#[.int .i64 (j : Nat)] ++ cl) W fun e W' => BEnd (V.leave s j).1 e ∧ I (V.leave s j).2 W' ∧ Kw M W W'
  ecf : ∀ (j : Nat) (W : World), Sem.run Tryz.prog (callFunc Fe (#[.int .i64 (j : Nat)] ++ ce)) W = .ok (.enter Fe (#[.int .i64 (j : Nat)] ++ ce)) W
  lcf : ∀ (j : Nat) (W : World), Sem.run Tryz.prog (callFunc Fl (#[.int .i64 (j : Nat)] ++ cl)) W = .ok (.enter Fl (#[.int .i64 (j : Nat)] ++ cl)) W
  old : ∀ k, M k → k < m0
  eo : eb < m0 ∧ ¬ M eb
def Sta (M : Nat → Prop) (eb : Nat) (gs : Option Nat) : Prop := ∀ g, gs = some g → ¬ M g ∧ g ≠ eb
structure WkI (σ : Type) (n m0 eb : Nat) (M : Nat → Prop) (I : σ → World → Prop) (nx : Nat → List Nat) (lo xb : Nat) (bl : Nat → Option Nat) (cp : Nat → Nat) (st : Wst σ) (w : World) : Prop where
  inv : I st.2 w
  ent : OwnR w 4 eb n n (bv st.1)
  nxt : NxR w lo xb n bl cp (fun t => (nx t).map (fun j : Nat => (j : Int)))
  sz : m0 ≤ w.heap.size
  sx : ¬ M xb ∧ xb ≠ eb
  sb : ∀ t, t < n → Sta M eb (bl t)
  nb : ∀ t, t < n → ∀ j ∈ nx t, j < n
theorem WkI.len {σ : Type} {n m0 eb : Nat} {M : Nat → Prop} {I : σ → World → Prop} {nx : Nat → List Nat} {lo xb : Nat} {bl : Nat → Option Nat} {cp : Nat → Nat} {st : Wst σ} {w : World} (h : WkI σ n m0 eb M I nx lo xb bl cp st w) : st.1.length = n := by simpa using h.ent.len
theorem WkI.step {σ : Type} {n m0 eb : Nat} {M : Nat → Prop} {I : σ → World → Prop} {nx : Nat → List Nat} {lo xb : Nat} {bl : Nat → Option Nat} {cp : Nat → Nat} {st : Wst σ} {w w' : World} {s' : σ} (h : WkI σ n m0 eb M I nx lo xb bl cp st w) (hk : Kw M w w') (hm : ¬ M eb) (hI : I s' w') : WkI σ n m0 eb M I nx lo xb bl cp (st.1, s') w' :=
  ⟨hI, h.ent.keep (hk.block eb h.ent.lt hm), h.nxt.keep (hk.block xb h.nxt.lt.1 h.sx.1) (fun t g ht hg => hk.block g (h.nxt.lt.2 t g ht hg) (h.sb t ht g hg).1), Nat.le_trans h.sz hk.size, h.sx, h.sb, h.nb⟩
theorem WkI.alloc {σ : Type} {V : Vr σ} {n m0 eb : Nat} {M : Nat → Prop} {I : σ → World → Prop} {Fe Fl : Nat} {ce cl : Array Value} {nx : Nat → List Nat} {lo xb : Nat} {bl : Nat → Option Nat} {cp : Nat → Nat} {st : Wst σ} {w : World} (hV : VisH σ V n m0 eb M I Fe Fl ce cl) (h : WkI σ n m0 eb M I nx lo xb bl cp st w) (o : Obj) : WkI σ n m0 eb M I nx lo xb bl cp st (w.alloc o) :=
  ⟨hV.keep _ w _ h.inv (by simp) (fun k h1 _ => Below.heap_alloc w o k h1) rfl rfl rfl, h.ent.keep (Below.heap_alloc w o eb h.ent.lt), h.nxt.keep (Below.heap_alloc w o xb h.nxt.lt.1) (fun t g ht hg => Below.heap_alloc w o g (h.nxt.lt.2 t g ht hg)), by rw [al_size]; have := h.sz; omega, h.sx, h.sb, h.nb⟩
theorem WkI.drew {σ : Type} {V : Vr σ} {n m0 eb : Nat} {M : Nat → Prop} {I : σ → World → Prop} {Fe Fl : Nat} {ce cl : Array Value} {nx : Nat → List Nat} {lo xb : Nat} {bl : Nat → Option Nat} {cp : Nat → Nat} {st : Wst σ} {w : World} (hV : VisH σ V n m0 eb M I Fe Fl ce cl) (h : WkI σ n m0 eb M I nx lo xb bl cp st w) : WkI σ n m0 eb M I nx lo xb bl cp st w.drew :=
  ⟨hV.keep _ w _ h.inv (Nat.le_refl _) (fun _ _ _ => rfl) rfl rfl rfl, h.ent.keep rfl, h.nxt.keep rfl (fun _ _ _ _ => rfl), h.sz, h.sx, h.sb, h.nb⟩
theorem WkI.mark {σ : Type} {V : Vr σ} {n m0 eb : Nat} {M : Nat → Prop} {I : σ → World → Prop} {Fe Fl : Nat} {ce cl : Array Value} {nx : Nat → List Nat} {lo xb : Nat} {bl : Nat → Option Nat} {cp : Nat → Nat} {st : Wst σ} {w : World} (hV : VisH σ V n m0 eb M I Fe Fl ce cl) (h : WkI σ n m0 eb M I nx lo xb bl cp st w) (j : Nat) : WkI σ n m0 eb M I nx lo xb bl cp (st.1.set j true, st.2) (w.setCell ⟨eb, j, none⟩ (.bool true)) := by
  have e : ∀ k, k ≠ eb → (w.setCell ⟨eb, j, none⟩ (.bool true)).heap[k]? = w.heap[k]? := fun k hk => Below.heap_setCell w _ _ k hk
  refine ⟨hV.keep _ w _ h.inv (by simp [World.setCell]) (fun k _ h2 => e k h2) rfl rfl rfl, ?_, h.nxt.keep (e xb h.sx.2) (fun t g ht hg => e g (h.sb t ht g hg).2), by simpa [World.setCell] using h.sz, h.sx, h.sb, h.nb⟩
  have := h.ent.set j (.bool true)
  rw [show bv (st.1.set j true) = (bv st.1).set j (.bool true) from List.map_set]
  exact this
def WkE (σ : Type) (n m0 eb : Nat) (M : Nat → Prop) (I : σ → World → Prop) (nx : Nat → List Nat) (lo xb : Nat) (bl : Nat → Option Nat) (cp : Nat → Nat) (r : Option Bool × Wst σ) (w : World) (e : Ending) (w' : World) : Prop :=
  BEnd r.1 e ∧ WkI σ n m0 eb M I nx lo xb bl cp r.2 w' ∧ Kw (fun k => M k ∨ k = eb) w w'
end Go.Proofs.YtikhpbidbcfedaaGreat

/- Shorter words for walks through regions that draw their order. -/
namespace Go.Proofs.YtikhpbidbcfedaaGreat

theorem lsA {α : Type} (a : List α) (i : Nat) (x : α) : a.toArray.setIfInBounds i x = (a.set i x).toArray := List.setIfInBounds_toArray a i x
theorem lsB {α : Type} (x y : α) (l : List α) : (x :: l).set 0 y = y :: l := List.set_cons_zero
theorem lsC {α : Type} (x y : α) (l : List α) (i : Nat) : (x :: l).set (i + 1) y = x :: l.set i y := List.set_cons_succ
theorem tkH {P : Program} {l : List Oper} {Q : Exit → Act → World → Prop} {md : Region.Mode} {S : World → Prop} {i : Nat} {oi : Oper} {v : Value} {fuel : Nat} {listed : Array Bool} {a : Act} {w : World} (hi : l[i]? = some oi)
    (hb : (Region.noSelect l.toArray && Region.free md l.toArray listed i && (Region.ready md l.toArray listed).contains i) = true) (hw : Region.wanted oi (yielded l.toArray a.tmps) = true) (hy : ∀ w, S w → (execOp a.eval oi).run P w = .ok (.value v) w) (hS : S w)
    (h : wpAnyH P md l.toArray Q S fuel (listed.setIfInBounds i true) (a.put oi.dst v) w) (hQ : ∀ c a w, Q (.panic c) (a.put oi.dst v) w → Q (.panic c) a w := by first | exact fun _ _ _ h => h | exact fun _ _ _ h => absurd h.1 (fun e => by cases e)) : wpAnyH P md l.toArray Q S (fuel + 1) listed a w := by
  simp only [Bool.and_eq_true] at hb
  exact wpAnyH_take (ops := l.toArray) (by simpa using hi) hb.1.1 hb.1.2 hb.2 hQ (Or.inl ⟨hw, hy⟩) hS h
theorem arC {P : Program} {l : List Oper} {Q : Exit → Act → World → Prop} {md : Region.Mode} {S : World → Prop} {fuel : Nat} {listed : Array Bool} {a : Act} {w : World} {i : Nat} {o : Oper} {rs : List Nat} (ho : l[i]? = some o)
    (h : ∀ K' : Act → World → Prop, Shut (∀ a w, S w → (S w → wpAnyH P md l.toArray Q S fuel (listed.setIfInBounds i true) a w) → K' a w) → if Region.wanted o (yielded l.toArray a.tmps) = true then Oper.wp P o a w K' Q else K' (a.put o.dst undef) w)
    (hs : AllReadyH P md l.toArray Q S fuel listed a w rs) : AllReadyH P md l.toArray Q S fuel listed a w (i :: rs) := AllReadyH.cons (ops := l.toArray) (by simpa using ho) h hs
end Go.Proofs.YtikhpbidbcfedaaGreat

