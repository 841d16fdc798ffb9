/- graph.Make: the graph of any nodes and edges, or why there is none. -/
import Derived.Test.YtghfikeakfiopaaK21
import Derived.Test.YtghfikeakfiopaaK23
namespace Go.Proofs.Ytghfikeakfiopaa
open Go.RowKit Go.ChangeMaps

structure GrP (w : World) (D : Nat → Prop) (gb : Nat) (N : List Int) (nx : Nat → List Nat) (gs : Option Nat) (c mb xb : Nat) (G : List (Int × Int)) (es : Array MapEntry) (ck : Nat) (bl : Nat → Option Nat) (cp : Nat → Nat) (lo : Nat) : Prop where
  cn : CnG w gb mb xb N.length (.slice (adr gs) N.length c) G es ck N
  nds : Nds w gs c N
  nxt : NxR w lo xb N.length bl cp (fun t => (nx t).map (fun j : Nat => (j : Int)))
  ins : D gb ∧ D mb ∧ D xb ∧ (∀ g, gs = some g → D g) ∧ ∀ t g, t < N.length → bl t = some g → D g
theorem GrP.keep {w w' : World} {D : Nat → Prop} {gb : Nat} {N : List Int} {nx : Nat → List Nat} {gs : Option Nat} {c mb xb : Nat} {G : List (Int × Int)} {es : Array MapEntry} {ck : Nat} {bl : Nat → Option Nat} {cp : Nat → Nat} {lo : Nat} (h : GrP w D gb N nx gs c mb xb G es ck bl cp lo) (hs : ∀ k, D k → w'.heap[k]? = w.heap[k]?) : GrP w' D gb N nx gs c mb xb G es ck bl cp lo :=
  ⟨⟨(hs gb h.ins.1).trans h.cn.cells, h.cn.mp.keep (hs mb h.ins.2.1), h.cn.fro, h.cn.to, h.cn.ne, h.cn.len, h.cn.nd⟩, h.nds.keep (fun g hg => hs g (h.ins.2.2.2.1 g hg)), h.nxt.keep (hs xb h.ins.2.2.1) (fun t g ht hg => hs g (h.ins.2.2.2.2 t g ht hg)), h.ins⟩
def GrE (w : World) (D : Nat → Prop) (gb : Nat) (N : List Int) (nx : Nat → List Nat) : Prop := ∃ gs c mb xb G es ck bl cp lo, GrP w D gb N nx gs c mb xb G es ck bl cp lo
theorem GrE.keep {w w' : World} {D : Nat → Prop} {gb : Nat} {N : List Int} {nx : Nat → List Nat} (h : GrE w D gb N nx) (hs : ∀ k, D k → w'.heap[k]? = w.heap[k]?) : GrE w' D gb N nx := by
  obtain ⟨gs, c, mb, xb, G, es, ck, bl, cp, lo, h⟩ := h
  exact ⟨gs, c, mb, xb, G, es, ck, bl, cp, lo, h.keep hs⟩
def MkE (w : World) (nodes : List Int) (E : List (Int × Int)) (p : Option Addr) (w' : World) : Prop :=
  Below w.heap.size w w' ∧ (Sp.mkE nodes E = 0 → ∃ gb, p = some ⟨gb, 0, none⟩ ∧ GrE w' (fun k => w.heap.size ≤ k ∧ k < w'.heap.size) gb (Sp.srt nodes) (Sp.nx (Sp.srt nodes) E)) ∧ (Sp.mkE nodes E ≠ 0 → p = none)

set_option maxRecDepth 100000 in
set_option maxHeartbeats 8000000 in
theorem Make_any (a : Option Addr) (cap : Nat) (nodes : List Int) (a2 : Option Addr) (cap2 : Nat) (E : List (Int × Int)) (B : Nat) (w : World) (h : RefsAt w B a nodes) (h2 : EdgesAt w B a2 E) (hB : B ≤ w.heap.size) (hl : nodes.length * 8 ≤ 140737488355328) (hl2 : E.length * 16 ≤ 140737488355328) :
    Calls Try.prog 15 #[.slice a nodes.length cap, .slice a2 E.length cap2] w fun e w' => ∃ p, e = .returned (.tuple #[.pointer p, .int .i64 (Sp.mkE nodes E)]) ∧ MkE w nodes E p w' := by
  by_cases hL : 4096 < nodes.length ∨ 16384 < E.length
  · have hk : Sp.mkE nodes E = 2 := by unfold Sp.mkE; rw [if_pos hL]
    rw [hk]
    have HK : Hid (MkE w nodes E none w) := ⟨Below.refl _ _, (fun h => by rw [hk] at h; cases h), fun _ => rfl⟩
    clear hk
    by_cases h1 : 4096 < nodes.length
    · have h1z : (4096 : Int) < (nodes.length : Int) := by omega
      go_enter Try.func15, Try.ntmps15
      go_wp2
      go_ret2
      exact ⟨none, rfl, HK.out⟩
    · have h1z : ¬ (4096 : Int) < (nodes.length : Int) := by omega
      have h2z : (16384 : Int) < (E.length : Int) := by omega
      go_enter Try.func15, Try.ntmps15
      go_wp2
      go_ret2
      exact ⟨none, rfl, HK.out⟩
  · have h1z : ¬ (4096 : Int) < (nodes.length : Int) := by omega
    have h2z : ¬ (16384 : Int) < (E.length : Int) := by omega
    have hB1 := bare_any a cap nodes B w h hB (by omega)
    by_cases hN : (0 : Int) ∉ nodes ∧ nodes.Nodup
    · rw [decide_eq_true hN] at hB1
      have hnd : (Sp.srt nodes).Nodup := (srt_perm nodes).nodup_iff.2 hN.2
      have HE : Hid (EdgesAt w B a2 E) := h2
      have HK0 : Hid (Sp.mkE nodes E = if ∃ e ∈ E, e.1 ∉ nodes ∨ e.2 ∉ nodes then 140 else 0) := by
        show _ = _
        unfold Sp.mkE
        rw [if_neg hL, if_neg (by rintro (h | h); exact hN.1 h; exact h hN.2)]
      clear h h2
      go_enter Try.func15, Try.ntmps15
      go_wp2_with (first
        | (go_at_call 27; refine hB1.mono ?_; rintro e w1 ⟨gb, gs, c, mb, xb, G, rfl, hbar⟩; have HBr : Hid (Bar w w1 gb gs c mb xb nodes.length G (Sp.srt nodes)) := hbar; clear hbar)
        | (go_at_call 28; obtain ⟨es, ck, hmp⟩ := HBr.out.map; refine (connect_any gb mb xb nodes.length (.slice (adr gs) nodes.length c) G es ck (Sp.srt nodes) a2 cap2 E B w1 ⟨HBr.out.cells, hmp, HBr.out.fro, HBr.out.to, ⟨HBr.out.ne.2.1, HBr.out.ne.2.2.1⟩, srt_len nodes, hnd⟩ (HE.out.keep (fun k hk => HBr.out.bel.block k (by omega))) (Nat.le_trans hB HBr.out.bel.size) (Nat.le_trans hB HBr.out.lo.2.2.1) ⟨HBr.out.nxt, (fun t ht => ⟨fun _ => ⟨rfl, rfl⟩, fun g hg => by cases hg⟩), (fun t g ht hg => by cases hg), (fun t t' g _ _ hg => by cases hg)⟩ (by omega) (by omega)).mono ?_; rintro e w2 ⟨rfl, hs2, hn2⟩; have HS2 : Hid (Srt w1 (some xb) w2) := hs2; have HMP : Hid (MpI w1 mb G es ck) := hmp; clear hs2 hmp))
      · have hno : ¬ ∀ e ∈ E, e.1 ∈ Sp.srt nodes ∧ e.2 ∈ Sp.srt nodes := by
          have h : (!decide (∀ e ∈ E, e.1 ∈ Sp.srt nodes ∧ e.2 ∈ Sp.srt nodes)) = true := by assumption
          simpa using h
        have hk : Sp.mkE nodes E = 140 := by
          rw [HK0.out, if_pos (by
            apply Classical.byContradiction
            intro hc
            refine hno fun e he => ?_
            rw [srt_mem, srt_mem]
            exact ⟨Classical.byContradiction fun h => hc ⟨e, he, .inl h⟩, Classical.byContradiction fun h => hc ⟨e, he, .inr h⟩⟩)]
        go_ret2
        refine ⟨none, by rw [hk]; rfl, ?_, (fun h => by rw [hk] at h; cases h), fun _ => rfl⟩
        have hb := HBr.out.bel
        have hs := HS2.out
        exact ⟨hs.1.trans hb.os, hs.2.1.trans hb.tape, hs.2.2.1.trans hb.output, Nat.le_trans hb.size hs.2.2.2.1, fun k hk => (hs.2.2.2.2 k (Nat.lt_of_lt_of_le hk hb.size) (fun e => by injection e with e; have := HBr.out.lo.2.2.1; omega)).trans (hb.block k hk)⟩
      · have hall : ∀ e ∈ E, e.1 ∈ Sp.srt nodes ∧ e.2 ∈ Sp.srt nodes := by
          have h : (!decide (∀ e ∈ E, e.1 ∈ Sp.srt nodes ∧ e.2 ∈ Sp.srt nodes)) = false := by assumption
          simpa using h
        have hk : Sp.mkE nodes E = 0 := by
          rw [HK0.out, if_neg (by
            rintro ⟨e, he, h⟩
            have := hall e he
            rw [srt_mem, srt_mem] at this
            rcases h with h | h
            · exact h this.1
            · exact h this.2)]
        obtain ⟨bl, cp, hnx⟩ := hn2 hall
        go_ret2
        have hb := HBr.out.bel
        have hs := HS2.out
        have hsz := hs.2.2.2.1
        have hsl : (Sp.srt nodes).length = nodes.length := srt_len nodes
        have hcn : CnG w2 gb mb xb nodes.length (.slice (adr gs) nodes.length c) G es ck (Sp.srt nodes) := CnG.keep ⟨HBr.out.cells, HMP.out, HBr.out.fro, HBr.out.to, ⟨HBr.out.ne.2.1, HBr.out.ne.2.2.1⟩, srt_len nodes, hnd⟩ hs
        have hnds : Nds w2 gs c (Sp.srt nodes) := HBr.out.nds.keep (fun g hg => hs.2.2.2.2 g (HBr.out.nds.2 g hg).lt (fun e => (HBr.out.ne.2.2.2 g hg).2.2 (Option.some.inj e).symm))
        have hlt := hnx.lt
        refine ⟨some ⟨gb, 0, none⟩, by rw [hk]; rfl, ?_, (fun _ => ⟨gb, rfl, gs, c, mb, xb, G, es, ck, bl, cp, w1.heap.size, ?_⟩), fun h => absurd hk h⟩
        · exact ⟨hs.1.trans hb.os, hs.2.1.trans hb.tape, hs.2.2.1.trans hb.output, Nat.le_trans hb.size hs.2.2.2.1, fun k hk => (hs.2.2.2.2 k (Nat.lt_of_lt_of_le hk hb.size) (fun e => by injection e with e; have := HBr.out.lo.2.2.1; omega)).trans (hb.block k hk)⟩
        · refine ⟨by rw [hsl]; exact hcn, hnds, by rw [hsl]; exact hnx, ⟨HBr.out.lo.1, (Array.getElem?_eq_some_iff.1 hcn.cells).1⟩, ⟨HBr.out.lo.2.1, (Array.getElem?_eq_some_iff.1 hcn.mp.blk).1⟩, ⟨HBr.out.lo.2.2.1, hlt.1⟩, fun g hg => ⟨HBr.out.lo.2.2.2 g hg, (hnds.2 g hg).lt⟩, fun t g ht hg => ⟨Nat.le_trans hb.size (hnx.lo t g (by rw [← hsl]; exact ht) hg), hlt.2 t g (by rw [← hsl]; exact ht) hg⟩⟩
    · rw [decide_eq_false hN] at hB1
      have hk : Sp.mkE nodes E = 1 := by
        unfold Sp.mkE
        rw [if_neg hL, if_pos (by
          apply Classical.byContradiction
          intro hc
          exact hN ⟨fun h => hc (.inl h), Classical.byContradiction fun h => hc (.inr h)⟩)]
      rw [hk]
      go_enter Try.func15, Try.ntmps15
      go_wp2_with (go_at_call 27; refine hB1.mono ?_; rintro e w1 ⟨gb, gs, c, mb, xb, G, rfl, hbar⟩; have HBr : Hid (Below w.heap.size w w1) := hbar.bel; clear hbar)
      go_ret2
      exact ⟨none, rfl, HBr.out, (fun h => by rw [hk] at h; cases h), fun _ => rfl⟩
end Go.Proofs.Ytghfikeakfiopaa

