/- graph.Path. -/
import Derived.Test.YtikhpbidbcfedaaGreatKp23
import Derived.Test.YtikhpbidbcfedaaGreatKp18
import Derived.Test.YtikhpbidbcfedaaGreatKp16
import Derived.Test.YtikhpbidbcfedaaGreatKp21
import Derived.ProofKit
import Derived.OpenShut
import Derived.SizedLaws
import Derived.Test.YtikhpbidbcfedaaGreatKp12
namespace Go.Proofs.YtikhpbidbcfedaaGreat
open Go.RowKit Go.ChangeMaps

theorem belT2 {B : Nat} {w W0 w1 : World} (h : Below B w W0) (k : Below W0.heap.size W0 w1) (hz : W0.heap.size = B + 1) : Below B w w1 := h.trans ⟨k.os, k.tape, k.output, k.size, fun j hj => k.block j (by omega)⟩
set_option maxRecDepth 100000 in
set_option maxHeartbeats 4000000 in
theorem pPath_any (D : Nat → Prop) (gb : Nat) (N : List Int) (nx : Nat → List Nat) (x y : Int) (w : World) (hg : GrE w D gb N nx) (hx0 : 0 ≤ x ∧ x < 18446744073709551616) (hy0 : 0 ≤ y ∧ y < 18446744073709551616) (hn : N.length ≤ 4096) (hb : ∀ i, ∀ x ∈ nx i, x < N.length) (hnl : ∀ p, (nx p).length ≤ 4096) (hlt : ∀ i, (nx i).Pairwise (· < ·)) :
    Calls Tryz.prog 11 #[.pointer (some ⟨gb, 0, none⟩), .int .u64 x, .int .u64 y] w (ReE w (Sp.path N nx x y) (Sp.pathE N x y)) := by
  obtain ⟨gn, cn, lo, xb, bl, cp, hG⟩ := hg.gr
  have HG : Hid (GR w gb N nx gn cn lo xb bl cp) := hG
  obtain ⟨W0, hW0⟩ : ∃ W0, w.alloc (.cells #[.int .u64 x, .int .u64 y] 25) = W0 := ⟨_, rfl⟩
  have hbW : Below w.heap.size w W0 := by rw [← hW0]; exact (Below.refl _ _).alloc (Nat.le_refl _) _
  have hWn : W0.heap[w.heap.size]? = some (.cells #[.int .u64 x, .int .u64 y] 25 (0, 0)) := by rw [← hW0]; exact heap_alloc_new w _
  have hWz : W0.heap.size = w.heap.size + 1 := by rw [← hW0]; exact al_size _ _
  have hRA : RefsAt W0 (w.heap.size + 1) (some ⟨w.heap.size, 0, none⟩) [x, y] := by
    refine ⟨?_, (fun h => by cases h), fun z hz => ?_⟩
    · intro t u hu
      refine ⟨w.heap.size, 0, rfl, by omega, ?_⟩
      rcases t with _ | _ | t
      · simp [World.cell?, hWn] at hu ⊢; exact hu
      · simp [World.cell?, hWn] at hu ⊢; exact hu
      · simp at hu
    · simp at hz; rcases hz with rfl | rfl
      · exact hx0
      · exact hy0
  have HP : Hid (Calls Tryz.prog 28 #[.pointer (some ⟨gb, 0, none⟩), .slice (some ⟨w.heap.size, 0, none⟩) 2 2] W0 (PlE W0 N [x, y])) := by
    obtain ⟨gs, c, mb, xb2, G, es, ck, bl2, cp2, lo2, h⟩ := hg
    have hxl := h.nxt.lt
    have hcn : CnG W0 gb mb xb2 N.length (.slice (adr gs) N.length c) G es ck N := h.cn.keep ⟨hbW.os, hbW.tape, hbW.output, hbW.size, fun k hk _ => hbW.block k hk⟩
    exact placesOf_any gb mb xb2 N.length _ G es ck N _ 2 [x, y] (w.heap.size + 1) W0 hcn hRA (by omega) (by simp)
  have HSP : Hid (∀ (a g c2 : Nat) (W : World), Below w.heap.size w W → InI W (some ⟨g, 0, none⟩) [a] → a < N.length → Calls Tryz.prog 30 #[.pointer (some ⟨gb, 0, none⟩), .slice (some ⟨g, 0, none⟩) 1 c2, .int .i64 (-1)] W (SprE W N.length (Bf.all nx (-1) N.length [a]))) := fun a g c2 W hW hi ha => spread_any gb N nx gn cn lo xb bl cp (some ⟨g, 0, none⟩) c2 [a] (-1) W (hG.keep hW) hi (by simpa using ha) hb hn (by simp) hnl
  have HRF : Hid (∀ (g c2 : Nat) (l : List Nat) (W : World), Below w.heap.size w W → InI W (some ⟨g, 0, none⟩) l → (∀ x ∈ l, x < N.length) → l.length ≤ 4096 → Calls Tryz.prog 32 #[.pointer (some ⟨gb, 0, none⟩), .slice (some ⟨g, 0, none⟩) l.length c2] W (RfE W (Sp.rfs N l))) := fun g c2 l W hW hi hl hll => refs_any gb N nx gn cn lo xb bl cp (some ⟨g, 0, none⟩) c2 l W (hG.keep hW) hi hl (by omega)
  have HTW : Hid (∀ a b, a < N.length → b < N.length → TwoW nx (Sp.bkn nx N.length) N.length a b (Bf.all nx (-1) N.length [a]) (Bf.all (Sp.bkn nx N.length) (-1) N.length [b])) := fun a b ha hbL => twoW nx N.length a b hb hlt ha hbL
  have HBW : Hid (Below w.heap.size w W0 ∧ W0.heap.size = w.heap.size + 1) := ⟨hbW, hWz⟩
  clear hg hG hb hnl hlt HG hRA hWn hbW hWz hx0 hy0
  go_enter Tryz.func11, Tryz.ntmps11
  go_wp2_with fail
  clear hW0
  refine HP.out.mono ?_
  rintro e w1 ⟨hb1, h⟩
  rcases h with ⟨hn0, rfl⟩ | ⟨ps, gs, c, hps, rfl, hnd, hlo⟩
  · have hnot : ¬ (x ∈ N ∧ y ∈ N) := fun h => by simp [Sp.pls, h.1, h.2] at hn0
    have HF : Hid (Below w.heap.size w w1 ∧ Sp.path N nx x y = none ∧ Sp.pathE N x y = 140) := ⟨belT2 HBW.out.1 hb1 HBW.out.2, by unfold Sp.path; rw [if_neg hnot], by unfold Sp.pathE; rw [if_neg hnot]⟩
    clear hb1 hn0 hnot HP HSP HRF HTW HBW
    go_wp2_with fail
    go_ret2
    exact ⟨HF.out.1, .inl ⟨HF.out.2.1, by rw [HF.out.2.2]; rfl⟩⟩
  · have hx : x ∈ N := Classical.byContradiction fun h => by simp [Sp.pls, h] at hps
    have hy : y ∈ N := Classical.byContradiction fun h => by simp [Sp.pls, h, hx] at hps
    obtain ⟨a, ha⟩ : ∃ a, N.idxOf x = a := ⟨_, rfl⟩
    obtain ⟨b, hbb⟩ : ∃ b, N.idxOf y = b := ⟨_, rfl⟩
    have haL : a < N.length := by rw [← ha]; exact List.idxOf_lt_length_of_mem hx
    have hbL : b < N.length := by rw [← hbb]; exact List.idxOf_lt_length_of_mem hy
    have hpe : ps = [a, b] := by simp [Sp.pls, hx, hy, ha, hbb] at hps; exact hps.symm
    subst hpe
    obtain ⟨g, rfl⟩ : ∃ g, gs = some g := by
      cases gs with
      | some g => exact ⟨g, rfl⟩
      | none => have := (hnd.1 rfl).1; simp at this
    have hcb : w1.cell? ⟨g, 1, none⟩ = some (.int .i64 (b : Nat)) := (hnd.2 g rfl).cell (by simp [iv])
    have hgl := (hnd.2 g rfl).lt
    have hcc : 2 ≤ c := by
      obtain ⟨cur, _, h2, _⟩ := (hnd.2 g rfl).blk
      simpa using h2
    have hIN : InI w1 (some ⟨g, 0, none⟩) [a] := fun t u hu => by
      rcases t with _ | t
      · simp [iv] at hu; subst hu
        exact ⟨g, 0, rfl, hgl, (hnd.2 g rfl).cell (by simp [iv])⟩
      · simp [iv] at hu
    have hbw1 := belT2 HBW.out.1 hb1 HBW.out.2
    have HS2 : Hid (∀ c2, Calls Tryz.prog 30 #[.pointer (some ⟨gb, 0, none⟩), .slice (some ⟨g, 0, none⟩) 1 c2, .int .i64 (-1)] w1 (SprE w1 N.length (Bf.all nx (-1) N.length [a]))) := fun c2 => HSP.out a g c2 w1 hbw1 hIN haL
    have H2 := HTW.out a b haL hbL
    obtain ⟨t, ht⟩ : ∃ t, Bf.all (Sp.bkn nx N.length) (-1) N.length [b] = t := ⟨_, rfl⟩
    obtain ⟨s, hs⟩ : ∃ s, Bf.all nx (-1) N.length [a] = s := ⟨_, rfl⟩
    rw [ht, hs] at H2
    rw [hs] at HS2
    have HTT : Hid (TwoW nx (Sp.bkn nx N.length) N.length a b s t) := H2
    have HF0 : Hid (b ∉ s.ord → Sp.path N nx x y = none ∧ Sp.pathE N x y = 142) := fun h => by
      have h' : a ∉ t.ord := fun h2 => h (H2.both.1 h2)
      unfold Sp.path Sp.pathE
      simp only [hx, hy, and_self, if_true, ha, hbb, ht, if_neg h']
    have HF1 : Hid (b ∈ s.ord → Sp.path N nx x y = some (Sp.rfs N (s.chn (s.ps b) b).reverse)) := fun h => by
      obtain ⟨h1, h2⟩ := H2.way h
      unfold Sp.path
      simp only [hx, hy, and_self, if_true, ha, hbb, ht, if_pos h2, h1]
    have HB1 : Hid (Below w.heap.size w w1) := hbw1
    have hadg : adr (some g) = some ⟨g, 0, none⟩ := rfl
    clear hb1 hps hnd hlo hIN hbw1 HP HSP HTW HBW hx hy ha hbb ht hs H2
    go_wp2_with fail
    refine (HS2.out c).mono ?_
    rintro e w2 ⟨gi, gs2, c2, rfl, hby, hor, hgi, hg2, hb2⟩
    obtain ⟨W3, hW3⟩ : ∃ W3, w2.alloc (.cells #[.slice (some ⟨gi, 0, none⟩) N.length N.length, .slice (adr gs2) s.ord.length c2] 65) = W3 := ⟨_, rfl⟩
    have hbx : W3.heap[w2.heap.size]? = some (.cells #[.slice (some ⟨gi, 0, none⟩) N.length N.length, .slice (adr gs2) s.ord.length c2] 65 (0, 0)) := by rw [← hW3]; exact heap_alloc_new w2 _
    have hb3 : Below w2.heap.size w2 W3 := by rw [← hW3]; exact (Below.refl _ _).alloc (Nat.le_refl _) _
    have hz3 : W3.heap.size = w2.heap.size + 1 := by rw [← hW3]; exact al_size _ _
    have hgl2 : g < w2.heap.size := Nat.lt_of_lt_of_le hgl hb2.size
    have hgl3 : g < W3.heap.size := by omega
    have hcb2 : W3.cell? ⟨g, 1, none⟩ = some (.int .i64 (b : Nat)) := by rw [World.cell?_of_block (w := w2) (hb3.block g hgl2), World.cell?_of_block (w := w1) (hb2.block g hgl)]; exact hcb
    have hx30 : W3.cell? ⟨w2.heap.size, 0, none⟩ = some (.slice (some ⟨gi, 0, none⟩) N.length N.length) := by simp [World.cell?, hbx]
    have hx31 : W3.cell? ⟨w2.heap.size, 1, none⟩ = some (.slice (adr gs2) s.ord.length c2) := by simp [World.cell?, hbx]
    have hby3 := hby.keep (hb3.block gi hby.lt)
    have HBY : Hid (Below w.heap.size w W3 ∧ OwnR W3 3 gi N.length N.length (iv (Sp.byl N.length s)) ∧ w2.heap.size < W3.heap.size) := ⟨belT HB1.out (hb2.trans (hb3.mono hb2.size)), hby3, by omega⟩
    have hcv : W3.cell? ⟨gi, b, none⟩ = some (.int .i64 (if b ∈ s.ord then (s.bq b : Int) else -1)) := hby3.cell (by simp [iv, byl_at s hbL])
    obtain ⟨V, hV⟩ : ∃ V, (if b ∈ s.ord then (s.bq b : Int) else -1) = V := ⟨_, rfl⟩
    rw [hV] at hcv
    have HH : Hid (∀ W : World, Below W3.heap.size W3 W → Calls Tryz.prog 31 #[.agg #[.slice (some ⟨gi, 0, none⟩) N.length N.length, .slice (adr gs2) s.ord.length c2], .int .i64 (b : Int)] W fun e w' => e = .returned (.bool (V != -1)) ∧ Below W.heap.size W w') := fun W hW => has_any gi N.length N.length _ b _ W (by rw [World.cell?_of_block (w := W3) (hW.block gi hby3.lt)]; exact hcv) hbL
    have HX3 : Hid (g < W3.heap.size ∧ W3.cell? ⟨g, 1, none⟩ = some (.int .i64 (b : Nat)) ∧ W3.cell? ⟨w2.heap.size, 0, none⟩ = some (.slice (some ⟨gi, 0, none⟩) N.length N.length) ∧ W3.cell? ⟨w2.heap.size, 1, none⟩ = some (.slice (adr gs2) s.ord.length c2)) := ⟨hgl3, hcb2, hx30, hx31⟩
    clear hby hor hgi hg2 hb2 hcv hcb hgl HS2 HB1 hb3 hbx hby3 hgl2 hz3 hgl3
    go_wp2_with fail
    clear hW3
    go_cut [30] from 25 (fun v30 wc => v30 = .bool (!(V != -1)) ∧ Hid (Below W3.heap.size W3 wc))
    case first =>
      go_region_with (go_at_call 31; refine (HH.out _ (by first | exact (Below.refl _ _).drew | exact Below.refl _ _)).mono ?_; rintro e w4 ⟨rfl, hb4⟩; have HB4 : Hid (Below W3.heap.size W3 w4) := ⟨hb4.os, hb4.tape, hb4.output, hb4.size, hb4.block⟩; clear hb4)
      all_goals go_wp2_with fail
      all_goals go_meet
      all_goals exact ⟨rfl, HB4.out⟩
    case rest =>
    obtain ⟨rfl, HC⟩ := hcut
    have kk : ∀ q o, q < W3.heap.size → wc.cell? ⟨q, o, none⟩ = W3.cell? ⟨q, o, none⟩ := fun q o hq => World.cell?_of_block (HC.out.block q hq)
    have hcb3 : wc.cell? ⟨g, 1, none⟩ = some (.int .i64 (b : Nat)) := by rw [kk _ _ HX3.out.1]; exact HX3.out.2.1
    have hy30 : wc.cell? ⟨w2.heap.size, 0, none⟩ = some (.slice (some ⟨gi, 0, none⟩) N.length N.length) := by rw [kk _ _ HBY.out.2.2]; exact HX3.out.2.2.1
    have hy31 : wc.cell? ⟨w2.heap.size, 1, none⟩ = some (.slice (adr gs2) s.ord.length c2) := by rw [kk _ _ HBY.out.2.2]; exact HX3.out.2.2.2
    have HB3 : Hid (Below w.heap.size w wc ∧ OwnR wc 3 gi N.length N.length (iv (Sp.byl N.length s))) := ⟨belT HBY.out.1 HC.out, HBY.out.2.1.keep (HC.out.block gi HBY.out.2.1.lt)⟩
    clear kk hcb2 hx30 hx31 HX3 HBY HH HC
    by_cases hin : b ∈ s.ord
    · have hv : (V != -1) = true := by rw [← hV, if_pos hin]; simp
      rw [hv]
      have HWY : Hid (∀ W : World, Below wc.heap.size wc W → Calls Tryz.prog 33 #[.agg #[.slice (some ⟨gi, 0, none⟩) N.length N.length, .slice (adr gs2) s.ord.length c2], .int .i64 (b : Int)] W (WayE W (s.chn (s.ps b) b).reverse)) := fun W hW => way_any nx (-1) N.length [a] s HTT.out.hs gi _ b W hin (HB3.out.2.keep (hW.block gi HB3.out.2.lt)) hn
      have hwf := (chn_way HTT.out.hs (s.ps b) b hin (Nat.le_refl _)).1
      have HWF : Hid ((∀ x ∈ (s.chn (s.ps b) b).reverse, x < N.length) ∧ (s.chn (s.ps b) b).reverse.length ≤ 4096) := ⟨hwf.bd, Nat.le_trans (nd_len hwf.nd hwf.bd) hn⟩
      have HP1 : Hid (Sp.path N nx x y = some (Sp.rfs N (s.chn (s.ps b) b).reverse)) := HF1.out hin
      obtain ⟨l, hl⟩ : ∃ l, (s.chn (s.ps b) b).reverse = l := ⟨_, rfl⟩
      rw [hl] at HWY HWF HP1
      clear hwf hl hv hV hin HF0 HF1 HTT
      go_wp2_with fail
      go_cut [6, 7] from 25 (fun v6 v7 wx => v7 = .int .i64 0 ∧ ∃ (gs5 : Option Nat) (c5 : Nat), v6 = .slice (adr gs5) (Sp.rfs N l).length c5 ∧ Hid (NdR wx gs5 c5 (Sp.rfs N l) ∧ (∀ g, gs5 = some g → w.heap.size ≤ g) ∧ Below w.heap.size w wx))
      case first =>
        go_region_with (first
          | (go_at_call 33; refine (HWY.out _ (by first | exact (Below.refl _ _).drew | exact Below.refl _ _)).mono ?_; rintro e w4 ⟨g4, c4, rfl, ho4, hlo4, hb4⟩; have hbb4 : Below w.heap.size w w4 := belT HB3.out.1 ⟨hb4.os, hb4.tape, hb4.output, hb4.size, hb4.block⟩; have HRR : Hid (Calls Tryz.prog 32 #[.pointer (some ⟨gb, 0, none⟩), .slice (some ⟨g4, 0, none⟩) l.length c4] w4 (RfE w4 (Sp.rfs N l))) := HRF.out g4 c4 l w4 hbb4 (fun t u hu => ⟨g4, 0, rfl, ho4.lt, by simpa using ho4.cell hu⟩) HWF.out.1 HWF.out.2; have HB4 : Hid (Below w.heap.size w w4) := hbb4; clear hbb4 ho4 hlo4 hb4)
          | (go_at_call 32; refine HRR.out.mono ?_; rintro e w5 ⟨gs5, c5, rfl, h1, h2, h3⟩; have HF3 : Hid (NdR w5 gs5 c5 (Sp.rfs N l) ∧ (∀ g, gs5 = some g → w.heap.size ≤ g) ∧ Below w.heap.size w w5) := ⟨h1, fun g hg => Nat.le_trans HB4.out.size (h2 g hg), belT HB4.out h3⟩; clear h1 h2 h3))
        all_goals go_wp2_with fail
        all_goals go_meet
        all_goals exact ⟨rfl, gs5, c5, rfl, HF3.out⟩
      case rest =>
        obtain ⟨rfl, gs5, c5, rfl, HF3⟩ := hcut
        go_wp2_with fail
        go_ret2
        exact ⟨HF3.out.2.2, .inr ⟨_, gs5, c5, HP1.out, rfl, HF3.out.1, HF3.out.2.1⟩⟩
    · have hv : (V != -1) = false := by rw [← hV, if_neg hin]; rfl
      rw [hv]
      have HP1 : Hid (Sp.path N nx x y = none ∧ Sp.pathE N x y = 142) := HF0.out hin
      clear hv hV hin HF0 HF1 HTT HRF
      go_wp2_with fail
      go_ret2
      exact ⟨HB3.out.1, .inl ⟨HP1.out.1, by rw [HP1.out.2]; rfl⟩⟩
end Go.Proofs.YtikhpbidbcfedaaGreat

/- Plain mathematics: ways that Path tells, edges that Edges tells, and the ring. -/
namespace Go.Proofs.YtikhpbidbcfedaaGreat
open Go.RowKit Go.ChangeMaps

section
variable {N : List Int} {nx : Nat → List Nat} (hN : N.Pairwise (· < ·)) (hb : ∀ i, ∀ x ∈ nx i, x < N.length) (hlt : ∀ i, (nx i).Pairwise (· < ·))
include hN
include hb hlt
omit hN hb hlt
end
end Go.Proofs.YtikhpbidbcfedaaGreat

/- References and edges that can be read as data: how they lie in memory. -/
namespace Go.Proofs.YtikhpbidbcfedaaGreat
open Go.ChangeShapes Go.WideShapes Go.ChangeAt Go.RowKit

theorem Tryz.cRf : Tryz.prog.cellsOf 25 = 1 := by kernel_rfl
theorem Tryz.bRf : Tryz.prog.bytesOf 25 = 8 := by kernel_rfl
theorem Tryz.cEg : Tryz.prog.cellsOf 38 = 2 := by kernel_rfl
theorem Tryz.bEg : Tryz.prog.bytesOf 38 = 16 := by kernel_rfl
theorem reach_iq : reachBytes = 140737488351232 := by rfl
theorem add_nn (b o i : Nat) : (⟨b, o, none⟩ : Addr).add i = ⟨b, o + i, none⟩ := addN b o i
set_option maxRecDepth 100000 in
theorem spot_of {W : World} {base : Nat} {t e : TypeId} (ht : Tryz.prog.underlying t = some (.slice e)) {a : Addr} {l c : Nat} (h : Value.okWide Tryz.prog W .any base t (.slice (some a) l c)) : a.spot = none := by
  simp only [Value.okWide, ht, Cell.okWide] at h
  simp only [Cell.ok, ht] at h
  exact h.2.2.2.1
theorem at_elem {i n : Nat} {α β : Type} {x : Option α} {f : α → Option β} {l : List β} (hn : l.length = n) (hi : i < n) (h : x.bind f = l[i]?) : ∃ a, x = some a ∧ ∃ y, f a = some y := by
  rw [List.getElem?_eq_getElem (by omega)] at h
  cases x with
  | none => simp at h
  | some a => exact ⟨a, rfl, _, h⟩
section
variable {H : Type} {enc : TypeId × Value → H} {W : World}
set_option maxRecDepth 100000 in
theorem open_rfs {n : Nat} {v : Value} {x : DataW H × List MemPlace} (h : DataW.trod enc Tryz.prog W 0 (fun _ => true) true n 22 [v] = some x) (hw : ∀ m ∈ x.1.weights Tryz.prog 22, m ≤ reachBytes) (hs : ∀ a l c, v = .slice (some a) l c → a.spot = none) :
    ∃ (l : List Int) (a : Option Addr) (cap : Nat), v = .slice a l.length cap ∧ l.length * 8 ≤ 140737488355328 ∧ RefsAt W W.heap.size a l := by
  rcases DataW.trod_slice Tryz.underlying22 h with ⟨hcs, rfl⟩ | ⟨a, len, cap, elems, rest, n', rfl, hcs, rfl, _, hlc, hcm, hlen, hel, _, _⟩
  · simp at hcs; subst hcs; exact ⟨[], none, 0, rfl, by simp, (fun t x hx => by simp at hx), (fun _ => .inl rfl), (fun x hx => by simp at hx)⟩
  · simp at hcs; subst hcs
    have hlen' : len * 8 ≤ 140737488355328 := by
      have := hw (((elems.map (·.1)).length + (rest.map (·.1)).length) * Tryz.prog.bytesOf 25) (by simp only [DataW.weights, Tryz.underlying22]; exact List.mem_cons_self ..)
      rw [Tryz.bRf, List.length_map, List.length_map, hlen] at this
      have := reach_iq
      omega
    have hsp := hs a len cap rfl
    obtain ⟨b, o, spot⟩ := a
    obtain rfl : spot = none := hsp
    have hread : ∀ i, i < len → ∃ z : Int, W.cell? ⟨b, o + i, none⟩ = some (.int .u64 z) ∧ 0 ≤ z ∧ z < 18446744073709551616 := fun i hi => by
      obtain ⟨cs, hc, y, ht⟩ := at_elem hlen hi (hel i hi)
      obtain ⟨z, rfl, _, hz⟩ := DataW.trod_int Tryz.underlying25 ht
      rw [Tryz.cRf, add_nn, Nat.mul_one] at hc
      obtain ⟨_, _, hcell⟩ := World.cells?_some hc
      have h00 := hcell 0 (by simp)
      rw [add_nn] at h00
      have hb := bounds_u64 hz
      exact ⟨z, by simpa using h00, hb.1, by omega⟩
    refine ⟨(List.range len).map fun i => match W.cell? ⟨b, o + i, none⟩ with | some (.int .u64 z) => z | _ => 0, some ⟨b, o, none⟩, cap, by simp, by simpa using hlen', fun t x hx => ?_, fun hn => .inr ⟨b, o, rfl⟩, fun x hx => ?_⟩
    · have htl : t < len := by have := (List.getElem?_eq_some_iff.1 hx).1; simpa using this
      obtain ⟨z, hz, _⟩ := hread t htl
      refine ⟨b, o, rfl, World.block_lt_of_cell? _ _ hz, ?_⟩
      simp [htl, hz] at hx
      rw [← hx]; exact hz
    · obtain ⟨i, hi, rfl⟩ := List.mem_map.1 hx
      obtain ⟨z, hz, h1, h2⟩ := hread i (by simpa using hi)
      rw [hz]; exact ⟨h1, h2⟩
set_option maxRecDepth 100000 in
theorem open_eds {n : Nat} {v : Value} {x : DataW H × List MemPlace} (h : DataW.trod enc Tryz.prog W 0 (fun _ => true) true n 23 [v] = some x) (hw : ∀ m ∈ x.1.weights Tryz.prog 23, m ≤ reachBytes) (hs : ∀ a l c, v = .slice (some a) l c → a.spot = none) :
    ∃ (l : List (Int × Int)) (a : Option Addr) (cap : Nat), v = .slice a l.length cap ∧ l.length * 16 ≤ 140737488355328 ∧ EdgesAt W W.heap.size a l := by
  rcases DataW.trod_slice Tryz.underlying23 h with ⟨hcs, rfl⟩ | ⟨a, len, cap, elems, rest, n', rfl, hcs, rfl, _, hlc, hcm, hlen, hel, _, _⟩
  · simp at hcs; subst hcs; exact ⟨[], none, 0, rfl, by simp, (fun t x hx => by simp at hx), (fun _ => .inl rfl), (fun x hx => by simp at hx)⟩
  · simp at hcs; subst hcs
    have hlen' : len * 16 ≤ 140737488355328 := by
      have := hw (((elems.map (·.1)).length + (rest.map (·.1)).length) * Tryz.prog.bytesOf 38) (by simp only [DataW.weights, Tryz.underlying23]; exact List.mem_cons_self ..)
      rw [Tryz.bEg, List.length_map, List.length_map, hlen] at this
      have := reach_iq
      omega
    have hsp := hs a len cap rfl
    obtain ⟨b, o, spot⟩ := a
    obtain rfl : spot = none := hsp
    have hread : ∀ i, i < len → ∃ z y : Int, W.cell? ⟨b, o + i * 2, none⟩ = some (.int .u64 z) ∧ W.cell? ⟨b, o + i * 2 + 1, none⟩ = some (.int .u64 y) ∧ (0 ≤ z ∧ z < 18446744073709551616) ∧ 0 ≤ y ∧ y < 18446744073709551616 := fun i hi => by
      obtain ⟨cs, hc, w, ht⟩ := at_elem hlen hi (hel i hi)
      rw [Tryz.cEg, add_nn] at hc
      obtain ⟨_, hl2, hcell⟩ := World.cells?_some hc
      have h00 := hcell 0 (by simp)
      have h01 := hcell 1 (by simp)
      rw [add_nn] at h00 h01
      obtain ⟨xs, n2, rfl, hx, hlc2, hxs, hf⟩ := DataW.trod_struct Tryz.underlying38 ht
      obtain ⟨z, y, hz, hy, rfl⟩ : ∃ z y : Int, (Lit.int .u64 z).wf = true ∧ (Lit.int .u64 y).wf = true ∧ cs = [.int .u64 z, .int .u64 y] := by
        match cs, hl2 with
        | [c0, c1], _ =>
          match xs, hxs with
          | [y0, y1], _ =>
            have f0 := hf 0 _ rfl
            have f1 := hf 1 _ rfl
            simp [Tryz.cRf] at f0
            simp [Tryz.cRf] at f1
            obtain ⟨z, hz, _, hzw⟩ := DataW.trod_int Tryz.underlying25 f0
            obtain ⟨y, hy, _, hyw⟩ := DataW.trod_int Tryz.underlying25 f1
            simp at hz hy
            subst hz hy
            exact ⟨z, y, hzw, hyw, rfl⟩
      have hb := bounds_u64 hz
      have hb2 := bounds_u64 hy
      exact ⟨z, y, by simpa using h00, by simpa using h01, ⟨hb.1, by omega⟩, hb2.1, by omega⟩
    refine ⟨(List.range len).map fun i => (match W.cell? ⟨b, o + i * 2, none⟩ with | some (.int .u64 z) => z | _ => 0, match W.cell? ⟨b, o + i * 2 + 1, none⟩ with | some (.int .u64 z) => z | _ => 0), some ⟨b, o, none⟩, cap, by simp, by simpa using hlen', fun t x hx => ?_, fun hn => .inr ⟨b, o, rfl⟩, fun x hx => ?_⟩
    · have htl : t < len := by have := (List.getElem?_eq_some_iff.1 hx).1; simpa using this
      obtain ⟨z, y, hz, hy, _⟩ := hread t htl
      simp [htl, hz, hy] at hx
      subst hx
      exact ⟨b, o, rfl, World.block_lt_of_cell? _ _ hz, hz, hy⟩
    · obtain ⟨i, hi, rfl⟩ := List.mem_map.1 hx
      obtain ⟨z, y, hz, hy, h1, h2⟩ := hread i (by simpa using hi)
      rw [hz, hy]; exact ⟨h1, h2⟩
end
end Go.Proofs.YtikhpbidbcfedaaGreat

/- graph.walk.all, given one. -/
namespace Go.Proofs.YtikhpbidbcfedaaGreat
open Go.RowKit Go.ChangeMaps

def wsC (xb eb n Fe Fl : Nat) (ce cl : Array Value) : Array Value := #[.slice (some ⟨xb, 0, none⟩) n n, .slice (some ⟨eb, 0, none⟩) n n, .func (.func Fe) #[] ce, .func (.func Fl) #[] cl]
section
variable {σ : Type} {V : Vr σ} {n m0 eb : Nat} {M : Nat → Prop} {I : σ → World → Prop} {Fe Fl : Nat} {ce cl : Array Value} {nx : Nat → List Nat} {lo xb : Nat} {bl : Nat → Option Nat} {cp : Nat → Nat}
def OneC (σ : Type) (V : Vr σ) (n m0 eb : Nat) (M : Nat → Prop) (I : σ → World → Prop) (Fe Fl : Nat) (ce cl : Array Value) (nx : Nat → List Nat) (lo xb : Nat) (bl : Nat → Option Nat) (cp : Nat → Nat) (f : Nat) : Prop :=
  ∀ j st W, WkI σ n m0 eb M I nx lo xb bl cp st W → j < n → st.1[j]? = some false → Sp.cf st.1 ≤ f → Calls Tryz.prog 67 #[.agg (wsC xb eb n Fe Fl ce cl), .int .i64 (j : Nat)] W (WkE σ n m0 eb M I nx lo xb bl cp (wOne V nx f j st) W)
def AllC (σ : Type) (V : Vr σ) (n m0 eb : Nat) (M : Nat → Prop) (I : σ → World → Prop) (Fe Fl : Nat) (ce cl : Array Value) (nx : Nat → List Nat) (lo xb : Nat) (bl : Nat → Option Nat) (cp : Nat → Nat) (f : Nat) : Prop :=
  ∀ (l : List Nat) st W gs c, WkI σ n m0 eb M I nx lo xb bl cp st W → Sp.cf st.1 ≤ f → (∀ j ∈ l, j < n) → NdI W gs c (l.map fun j : Nat => (j : Int)) → Sta M eb gs → l.length * 8 ≤ 140737488355328 → Calls Tryz.prog 46 #[.agg (wsC xb eb n Fe Fl ce cl), .slice (adr gs) l.length c] W (WkE σ n m0 eb M I nx lo xb bl cp (wAll (wOne V nx f) l st) W)

end
end Go.Proofs.YtikhpbidbcfedaaGreat

