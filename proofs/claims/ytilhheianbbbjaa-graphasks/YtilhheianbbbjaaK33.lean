/- graph.Path. -/
import Derived.Test.YtilhheianbbbjaaK31
import Derived.Test.YtilhheianbbbjaaK32
import Derived.Test.YtilhheianbbbjaaK26
namespace Go.Proofs.Ytilhheianbbbjaa
open Go.RowKit Go.ChangeMaps

theorem belT2 {B : Nat} {w W0 w1 : World} (h : Below B w W0) (k : Below W0.heap.size W0 w1) (hz : W0.heap.size = B + 1) : Below B w w1 := h.trans ⟨k.os, k.tape, k.output, k.size, fun j hj => k.block j (by omega)⟩
set_option maxRecDepth 100000 in
set_option maxHeartbeats 4000000 in
theorem pPath_any (D : Nat → Prop) (gb : Nat) (N : List Int) (nx : Nat → List Nat) (x y : Int) (w : World) (hg : GrE w D gb N nx) (hx0 : 0 ≤ x ∧ x < 18446744073709551616) (hy0 : 0 ≤ y ∧ y < 18446744073709551616) (hn : N.length ≤ 4096) (hb : ∀ i, ∀ x ∈ nx i, x < N.length) (hnl : ∀ p, (nx p).length ≤ 4096) (hlt : ∀ i, (nx i).Pairwise (· < ·)) :
    Calls Try.prog 8 #[.pointer (some ⟨gb, 0, none⟩), .int .u64 x, .int .u64 y] w (ReE w (Sp.path N nx x y) (Sp.pathE N x y)) := by
  obtain ⟨gn, cn, lo, xb, bl, cp, hG⟩ := hg.gr
  have HG : Hid (GR w gb N nx gn cn lo xb bl cp) := hG
  obtain ⟨W0, hW0⟩ : ∃ W0, w.alloc (.cells #[.int .u64 x, .int .u64 y] 25) = W0 := ⟨_, rfl⟩
  have hbW : Below w.heap.size w W0 := by rw [← hW0]; exact (Below.refl _ _).alloc (Nat.le_refl _) _
  have hWn : W0.heap[w.heap.size]? = some (.cells #[.int .u64 x, .int .u64 y] 25 (0, 0)) := by rw [← hW0]; exact heap_alloc_new w _
  have hWz : W0.heap.size = w.heap.size + 1 := by rw [← hW0]; exact al_size _ _
  have hRA : RefsAt W0 (w.heap.size + 1) (some ⟨w.heap.size, 0, none⟩) [x, y] := by
    refine ⟨?_, (fun h => by cases h), fun z hz => ?_⟩
    · intro t u hu
      refine ⟨w.heap.size, 0, rfl, by omega, ?_⟩
      rcases t with _ | _ | t
      · simp [World.cell?, hWn] at hu ⊢; exact hu
      · simp [World.cell?, hWn] at hu ⊢; exact hu
      · simp at hu
    · simp at hz; rcases hz with rfl | rfl
      · exact hx0
      · exact hy0
  have HP : Hid (Calls Try.prog 18 #[.pointer (some ⟨gb, 0, none⟩), .slice (some ⟨w.heap.size, 0, none⟩) 2 2] W0 (PlE W0 N [x, y])) := by
    obtain ⟨gs, c, mb, xb2, G, es, ck, bl2, cp2, lo2, h⟩ := hg
    have hxl := h.nxt.lt
    have hcn : CnG W0 gb mb xb2 N.length (.slice (adr gs) N.length c) G es ck N := h.cn.keep ⟨hbW.os, hbW.tape, hbW.output, hbW.size, fun k hk _ => hbW.block k hk⟩
    exact placesOf_any gb mb xb2 N.length _ G es ck N _ 2 [x, y] (w.heap.size + 1) W0 hcn hRA (by omega) (by simp)
  have HSP : Hid (∀ (a g c2 : Nat) (W : World), Below w.heap.size w W → InI W (some ⟨g, 0, none⟩) [a] → a < N.length → Calls Try.prog 20 #[.pointer (some ⟨gb, 0, none⟩), .slice (some ⟨g, 0, none⟩) 1 c2, .int .i64 (-1)] W (SprE W N.length (Bf.all nx (-1) N.length [a]))) := fun a g c2 W hW hi ha => spread_any gb N nx gn cn lo xb bl cp (some ⟨g, 0, none⟩) c2 [a] (-1) W (hG.keep hW) hi (by simpa using ha) hb hn (by simp) hnl
  have HRF : Hid (∀ (g c2 : Nat) (l : List Nat) (W : World), Below w.heap.size w W → InI W (some ⟨g, 0, none⟩) l → (∀ x ∈ l, x < N.length) → l.length ≤ 4096 → Calls Try.prog 25 #[.pointer (some ⟨gb, 0, none⟩), .slice (some ⟨g, 0, none⟩) l.length c2] W (RfE W (Sp.rfs N l))) := fun g c2 l W hW hi hl hll => refs_any gb N nx gn cn lo xb bl cp (some ⟨g, 0, none⟩) c2 l W (hG.keep hW) hi hl (by omega)
  have HTW : Hid (∀ a b, a < N.length → b < N.length → TwoW nx (Sp.bkn nx N.length) N.length a b (Bf.all nx (-1) N.length [a]) (Bf.all (Sp.bkn nx N.length) (-1) N.length [b])) := fun a b ha hbL => twoW nx N.length a b hb hlt ha hbL
  have HBW : Hid (Below w.heap.size w W0 ∧ W0.heap.size = w.heap.size + 1) := ⟨hbW, hWz⟩
  clear hg hG hb hnl hlt HG hRA hWn hbW hWz hx0 hy0
  go_enter Try.func8, Try.ntmps8
  go_wp2_with fail
  clear hW0
  refine HP.out.mono ?_
  rintro e w1 ⟨hb1, h⟩
  rcases h with ⟨hn0, rfl⟩ | ⟨ps, gs, c, hps, rfl, hnd, hlo⟩
  · have hnot : ¬ (x ∈ N ∧ y ∈ N) := fun h => by simp [Sp.pls, h.1, h.2] at hn0
    have HF : Hid (Below w.heap.size w w1 ∧ Sp.path N nx x y = none ∧ Sp.pathE N x y = 140) := ⟨belT2 HBW.out.1 hb1 HBW.out.2, by unfold Sp.path; rw [if_neg hnot], by unfold Sp.pathE; rw [if_neg hnot]⟩
    clear hb1 hn0 hnot HP HSP HRF HTW HBW
    go_wp2_with fail
    go_ret2
    exact ⟨HF.out.1, .inl ⟨HF.out.2.1, by rw [HF.out.2.2]; rfl⟩⟩
  · have hx : x ∈ N := Classical.byContradiction fun h => by simp [Sp.pls, h] at hps
    have hy : y ∈ N := Classical.byContradiction fun h => by simp [Sp.pls, h, hx] at hps
    obtain ⟨a, ha⟩ : ∃ a, N.idxOf x = a := ⟨_, rfl⟩
    obtain ⟨b, hbb⟩ : ∃ b, N.idxOf y = b := ⟨_, rfl⟩
    have haL : a < N.length := by rw [← ha]; exact List.idxOf_lt_length_of_mem hx
    have hbL : b < N.length := by rw [← hbb]; exact List.idxOf_lt_length_of_mem hy
    have hpe : ps = [a, b] := by simp [Sp.pls, hx, hy, ha, hbb] at hps; exact hps.symm
    subst hpe
    obtain ⟨g, rfl⟩ : ∃ g, gs = some g := by
      cases gs with
      | some g => exact ⟨g, rfl⟩
      | none => have := (hnd.1 rfl).1; simp at this
    have hcb : w1.cell? ⟨g, 1, none⟩ = some (.int .i64 (b : Nat)) := (hnd.2 g rfl).cell (by simp [iv])
    have hgl := (hnd.2 g rfl).lt
    have hcc : 2 ≤ c := by
      obtain ⟨cur, _, h2, _⟩ := (hnd.2 g rfl).blk
      simpa using h2
    have hIN : InI w1 (some ⟨g, 0, none⟩) [a] := fun t u hu => by
      rcases t with _ | t
      · simp [iv] at hu; subst hu
        exact ⟨g, 0, rfl, hgl, (hnd.2 g rfl).cell (by simp [iv])⟩
      · simp [iv] at hu
    have hbw1 := belT2 HBW.out.1 hb1 HBW.out.2
    have HS2 : Hid (∀ c2, Calls Try.prog 20 #[.pointer (some ⟨gb, 0, none⟩), .slice (some ⟨g, 0, none⟩) 1 c2, .int .i64 (-1)] w1 (SprE w1 N.length (Bf.all nx (-1) N.length [a]))) := fun c2 => HSP.out a g c2 w1 hbw1 hIN haL
    have H2 := HTW.out a b haL hbL
    obtain ⟨t, ht⟩ : ∃ t, Bf.all (Sp.bkn nx N.length) (-1) N.length [b] = t := ⟨_, rfl⟩
    obtain ⟨s, hs⟩ : ∃ s, Bf.all nx (-1) N.length [a] = s := ⟨_, rfl⟩
    rw [ht, hs] at H2
    rw [hs] at HS2
    have HTT : Hid (TwoW nx (Sp.bkn nx N.length) N.length a b s t) := H2
    have HF0 : Hid (b ∉ s.ord → Sp.path N nx x y = none ∧ Sp.pathE N x y = 142) := fun h => by
      have h' : a ∉ t.ord := fun h2 => h (H2.both.1 h2)
      unfold Sp.path Sp.pathE
      simp only [hx, hy, and_self, if_true, ha, hbb, ht, if_neg h']
    have HF1 : Hid (b ∈ s.ord → Sp.path N nx x y = some (Sp.rfs N (s.chn (s.ps b) b).reverse)) := fun h => by
      obtain ⟨h1, h2⟩ := H2.way h
      unfold Sp.path
      simp only [hx, hy, and_self, if_true, ha, hbb, ht, if_pos h2, h1]
    have HB1 : Hid (Below w.heap.size w w1) := hbw1
    have hadg : adr (some g) = some ⟨g, 0, none⟩ := rfl
    clear hb1 hps hnd hlo hIN hbw1 HP HSP HTW HBW hx hy ha hbb ht hs H2
    go_wp2_with fail
    refine (HS2.out c).mono ?_
    rintro e w2 ⟨gi, gs2, c2, rfl, hby, hor, hgi, hg2, hb2⟩
    obtain ⟨W3, hW3⟩ : ∃ W3, w2.alloc (.cells #[.slice (some ⟨gi, 0, none⟩) N.length N.length, .slice (adr gs2) s.ord.length c2] 51) = W3 := ⟨_, rfl⟩
    have hbx : W3.heap[w2.heap.size]? = some (.cells #[.slice (some ⟨gi, 0, none⟩) N.length N.length, .slice (adr gs2) s.ord.length c2] 51 (0, 0)) := by rw [← hW3]; exact heap_alloc_new w2 _
    have hb3 : Below w2.heap.size w2 W3 := by rw [← hW3]; exact (Below.refl _ _).alloc (Nat.le_refl _) _
    have hz3 : W3.heap.size = w2.heap.size + 1 := by rw [← hW3]; exact al_size _ _
    have hgl2 : g < w2.heap.size := Nat.lt_of_lt_of_le hgl hb2.size
    have hgl3 : g < W3.heap.size := by omega
    have hcb2 : W3.cell? ⟨g, 1, none⟩ = some (.int .i64 (b : Nat)) := by rw [World.cell?_of_block (w := w2) (hb3.block g hgl2), World.cell?_of_block (w := w1) (hb2.block g hgl)]; exact hcb
    have hx30 : W3.cell? ⟨w2.heap.size, 0, none⟩ = some (.slice (some ⟨gi, 0, none⟩) N.length N.length) := by simp [World.cell?, hbx]
    have hx31 : W3.cell? ⟨w2.heap.size, 1, none⟩ = some (.slice (adr gs2) s.ord.length c2) := by simp [World.cell?, hbx]
    have hby3 := hby.keep (hb3.block gi hby.lt)
    have HBY : Hid (Below w.heap.size w W3 ∧ OwnR W3 3 gi N.length N.length (iv (Sp.byl N.length s)) ∧ w2.heap.size < W3.heap.size) := ⟨belT HB1.out (hb2.trans (hb3.mono hb2.size)), hby3, by omega⟩
    have hcv : W3.cell? ⟨gi, b, none⟩ = some (.int .i64 (if b ∈ s.ord then (s.bq b : Int) else -1)) := hby3.cell (by simp [iv, byl_at s hbL])
    obtain ⟨V, hV⟩ : ∃ V, (if b ∈ s.ord then (s.bq b : Int) else -1) = V := ⟨_, rfl⟩
    rw [hV] at hcv
    have HH : Hid (∀ W : World, Below W3.heap.size W3 W → Calls Try.prog 24 #[.agg #[.slice (some ⟨gi, 0, none⟩) N.length N.length, .slice (adr gs2) s.ord.length c2], .int .i64 (b : Int)] W fun e w' => e = .returned (.bool (V != -1)) ∧ Below W.heap.size W w') := fun W hW => has_any gi N.length N.length _ b _ W (by rw [World.cell?_of_block (w := W3) (hW.block gi hby3.lt)]; exact hcv) hbL
    have HX3 : Hid (g < W3.heap.size ∧ W3.cell? ⟨g, 1, none⟩ = some (.int .i64 (b : Nat)) ∧ W3.cell? ⟨w2.heap.size, 0, none⟩ = some (.slice (some ⟨gi, 0, none⟩) N.length N.length) ∧ W3.cell? ⟨w2.heap.size, 1, none⟩ = some (.slice (adr gs2) s.ord.length c2)) := ⟨hgl3, hcb2, hx30, hx31⟩
    clear hby hor hgi hg2 hb2 hcv hcb hgl HS2 HB1 hb3 hbx hby3 hgl2 hz3 hgl3
    go_wp2_with fail
    clear hW3
    go_cut [30] from 25 (fun v30 wc => v30 = .bool (!(V != -1)) ∧ Hid (Below W3.heap.size W3 wc))
    case first =>
      go_region_with (go_at_call 24; refine (HH.out _ (by first | exact (Below.refl _ _).drew | exact Below.refl _ _)).mono ?_; rintro e w4 ⟨rfl, hb4⟩; have HB4 : Hid (Below W3.heap.size W3 w4) := ⟨hb4.os, hb4.tape, hb4.output, hb4.size, hb4.block⟩; clear hb4)
      all_goals go_wp2_with fail
      all_goals go_meet
      all_goals exact ⟨rfl, HB4.out⟩
    case rest =>
    obtain ⟨rfl, HC⟩ := hcut
    have kk : ∀ q o, q < W3.heap.size → wc.cell? ⟨q, o, none⟩ = W3.cell? ⟨q, o, none⟩ := fun q o hq => World.cell?_of_block (HC.out.block q hq)
    have hcb3 : wc.cell? ⟨g, 1, none⟩ = some (.int .i64 (b : Nat)) := by rw [kk _ _ HX3.out.1]; exact HX3.out.2.1
    have hy30 : wc.cell? ⟨w2.heap.size, 0, none⟩ = some (.slice (some ⟨gi, 0, none⟩) N.length N.length) := by rw [kk _ _ HBY.out.2.2]; exact HX3.out.2.2.1
    have hy31 : wc.cell? ⟨w2.heap.size, 1, none⟩ = some (.slice (adr gs2) s.ord.length c2) := by rw [kk _ _ HBY.out.2.2]; exact HX3.out.2.2.2
    have HB3 : Hid (Below w.heap.size w wc ∧ OwnR wc 3 gi N.length N.length (iv (Sp.byl N.length s))) := ⟨belT HBY.out.1 HC.out, HBY.out.2.1.keep (HC.out.block gi HBY.out.2.1.lt)⟩
    clear kk hcb2 hx30 hx31 HX3 HBY HH HC
    by_cases hin : b ∈ s.ord
    · have hv : (V != -1) = true := by rw [← hV, if_pos hin]; simp
      rw [hv]
      have HWY : Hid (∀ W : World, Below wc.heap.size wc W → Calls Try.prog 26 #[.agg #[.slice (some ⟨gi, 0, none⟩) N.length N.length, .slice (adr gs2) s.ord.length c2], .int .i64 (b : Int)] W (WayE W (s.chn (s.ps b) b).reverse)) := fun W hW => way_any nx (-1) N.length [a] s HTT.out.hs gi _ b W hin (HB3.out.2.keep (hW.block gi HB3.out.2.lt)) hn
      have hwf := (chn_way HTT.out.hs (s.ps b) b hin (Nat.le_refl _)).1
      have HWF : Hid ((∀ x ∈ (s.chn (s.ps b) b).reverse, x < N.length) ∧ (s.chn (s.ps b) b).reverse.length ≤ 4096) := ⟨hwf.bd, Nat.le_trans (nd_len hwf.nd hwf.bd) hn⟩
      have HP1 : Hid (Sp.path N nx x y = some (Sp.rfs N (s.chn (s.ps b) b).reverse)) := HF1.out hin
      obtain ⟨l, hl⟩ : ∃ l, (s.chn (s.ps b) b).reverse = l := ⟨_, rfl⟩
      rw [hl] at HWY HWF HP1
      clear hwf hl hv hV hin HF0 HF1 HTT
      go_wp2_with fail
      go_cut [6, 7] from 25 (fun v6 v7 wx => v7 = .int .i64 0 ∧ ∃ (gs5 : Option Nat) (c5 : Nat), v6 = .slice (adr gs5) (Sp.rfs N l).length c5 ∧ Hid (NdR wx gs5 c5 (Sp.rfs N l) ∧ (∀ g, gs5 = some g → w.heap.size ≤ g) ∧ Below w.heap.size w wx))
      case first =>
        go_region_with (first
          | (go_at_call 26; refine (HWY.out _ (by first | exact (Below.refl _ _).drew | exact Below.refl _ _)).mono ?_; rintro e w4 ⟨g4, c4, rfl, ho4, hlo4, hb4⟩; have hbb4 : Below w.heap.size w w4 := belT HB3.out.1 ⟨hb4.os, hb4.tape, hb4.output, hb4.size, hb4.block⟩; have HRR : Hid (Calls Try.prog 25 #[.pointer (some ⟨gb, 0, none⟩), .slice (some ⟨g4, 0, none⟩) l.length c4] w4 (RfE w4 (Sp.rfs N l))) := HRF.out g4 c4 l w4 hbb4 (fun t u hu => ⟨g4, 0, rfl, ho4.lt, by simpa using ho4.cell hu⟩) HWF.out.1 HWF.out.2; have HB4 : Hid (Below w.heap.size w w4) := hbb4; clear hbb4 ho4 hlo4 hb4)
          | (go_at_call 25; refine HRR.out.mono ?_; rintro e w5 ⟨gs5, c5, rfl, h1, h2, h3⟩; have HF3 : Hid (NdR w5 gs5 c5 (Sp.rfs N l) ∧ (∀ g, gs5 = some g → w.heap.size ≤ g) ∧ Below w.heap.size w w5) := ⟨h1, fun g hg => Nat.le_trans HB4.out.size (h2 g hg), belT HB4.out h3⟩; clear h1 h2 h3))
        all_goals go_wp2_with fail
        all_goals go_meet
        all_goals exact ⟨rfl, gs5, c5, rfl, HF3.out⟩
      case rest =>
        obtain ⟨rfl, gs5, c5, rfl, HF3⟩ := hcut
        go_wp2_with fail
        go_ret2
        exact ⟨HF3.out.2.2, .inr ⟨_, gs5, c5, HP1.out, rfl, HF3.out.1, HF3.out.2.1⟩⟩
    · have hv : (V != -1) = false := by rw [← hV, if_neg hin]; rfl
      rw [hv]
      have HP1 : Hid (Sp.path N nx x y = none ∧ Sp.pathE N x y = 142) := HF0.out hin
      clear hv hV hin HF0 HF1 HTT HRF
      go_wp2_with fail
      go_ret2
      exact ⟨HB3.out.1, .inl ⟨HP1.out.1, by rw [HP1.out.2]; rfl⟩⟩
end Go.Proofs.Ytilhheianbbbjaa

/- Plain mathematics: what graph.keeper has gone through, step by step. -/
namespace Go.Proofs.Ytilhheianbbbjaa

section
variable {nx : Nat → List Nat} {W : List Nat} {on : Nat → Int} {srcs : Nat → Prop} {S : List Nat} {far : Int} {pend : Nat → Prop}
def Dn (W : List Nat) (on : Nat → Int) (S : List Nat) (far : Int) (x : Nat) : Prop := (x ∈ W → on x ≤ far) ∧ (x ∉ W → x ∈ S)
structure KM (nx : Nat → List Nat) (W : List Nat) (on : Nat → Int) (srcs : Nat → Prop) (S : List Nat) (far : Int) (pend : Nat → Prop) : Prop where
  cs : ∀ x, srcs x → Dn W on S far x ∨ pend x
  cq : ∀ u ∈ S, ∀ z ∈ nx u, Dn W on S far z ∨ pend z
  so : ∀ u ∈ S, Off nx W srcs u ∧ u ∉ W
  sf : far = -1 ∨ ∃ x, x ∈ W ∧ Off nx W srcs x ∧ on x = far
  po : ∀ x, pend x → Off nx W srcs x
theorem Off.mono {p q : Nat → Prop} (h : ∀ y, p y → q y) {x : Nat} (hx : Off nx W p x) : Off nx W q x := by
  induction hx with
  | base h1 => exact .base (h _ h1)
  | step _ h1 h2 ih => exact .step ih h1 h2
theorem KM.begin_ (nx : Nat → List Nat) (W : List Nat) (on : Nat → Int) : KM nx W on (fun _ => False) [] (-1) (fun _ => False) :=
  ⟨fun _ h => h.elim, by simp, by simp, .inl rfl, fun _ h => h.elim⟩
theorem KM.more (h : KM nx W on srcs S far (fun _ => False)) (l : List Nat) : KM nx W on (fun x => srcs x ∨ x ∈ l) S far (fun x => x ∈ l) :=
  ⟨fun x hx => hx.elim (fun hx => .inl ((h.cs x hx).resolve_right id)) .inr, fun u hu z hz => .inl ((h.cq u hu z hz).resolve_right id),
   fun u hu => ⟨(h.so u hu).1.mono fun _ h => .inl h, (h.so u hu).2⟩, h.sf.imp id fun ⟨x, h1, h2, h3⟩ => ⟨x, h1, h2.mono fun _ h => .inl h, h3⟩, fun _ hx => .base (.inr hx)⟩
theorem KM.same (h : KM nx W on srcs S far pend) {q : Nat → Prop} {r : Nat → Prop} (h1 : ∀ x, pend x ↔ q x) (h2 : ∀ x, srcs x ↔ r x) : KM nx W on r S far q :=
  ⟨fun x hx => (h.cs x ((h2 x).2 hx)).imp id (h1 x).1, fun u hu z hz => (h.cq u hu z hz).imp id (h1 z).1, fun u hu => ⟨(h.so u hu).1.mono fun y hy => (h2 y).1 hy, (h.so u hu).2⟩,
   h.sf.imp id fun ⟨x, a, b, c⟩ => ⟨x, a, b.mono fun y hy => (h2 y).1 hy, c⟩, fun x hx => (h.po x ((h1 x).2 hx)).mono fun y hy => (h2 y).1 hy⟩
theorem KM.ge (ho : OnW W on) (h : KM nx W on srcs S far pend) : -1 ≤ far := by
  rcases h.sf with e | ⟨x, hx, _, e⟩
  · omega
  · obtain ⟨j, hj, e2⟩ := List.mem_iff_getElem.1 hx
    have := ho.at_ j x (by rw [List.getElem?_eq_getElem hj, e2])
    omega
theorem OnW.ge (ho : OnW W on) (x : Nat) : -1 ≤ on x ∧ (x ∈ W ↔ on x ≠ -1) := by
  by_cases hx : x ∈ W
  · obtain ⟨j, hj, e2⟩ := List.mem_iff_getElem.1 hx
    have := ho.at_ j x (by rw [List.getElem?_eq_getElem hj, e2])
    exact ⟨by omega, ⟨fun _ => by omega, fun _ => hx⟩⟩
  · have := ho.off x hx
    exact ⟨by omega, ⟨fun h => absurd h hx, fun h => absurd this h⟩⟩
theorem Dn.up {far' : Int} {S' : List Nat} {x : Nat} (h : Dn W on S far x) (hf : far ≤ far') (hs : ∀ y ∈ S, y ∈ S') : Dn W on S' far' x := ⟨fun hx => Int.le_trans (h.1 hx) hf, fun hx => hs x (h.2 hx)⟩
theorem KM.skip (ho : OnW W on) {l : List Nat} {n : Nat} (h : KM nx W on srcs S far (fun x => x ∈ l ++ [n])) (hn : n ∈ W ∨ n ∈ S) : KM nx W on srcs S (max far (on n)) (fun x => x ∈ l) := by
  have hf : far ≤ max far (on n) := by omega
  have dn : Dn W on S (max far (on n)) n := ⟨fun _ => by omega, fun hw => hn.resolve_left hw⟩
  have key : ∀ x, Dn W on S far x ∨ x ∈ l ++ [n] → Dn W on S (max far (on n)) x ∨ x ∈ l := fun x hx => by
    rcases hx with hx | hx
    · exact .inl (hx.up hf fun _ h => h)
    · rcases List.mem_append.1 hx with hx | hx
      · exact .inr hx
      · simp at hx; subst hx; exact .inl dn
  refine ⟨fun x hx => key x (h.cs x hx), fun u hu z hz => key z (h.cq u hu z hz), h.so, ?_, fun x hx => h.po x (by simp [hx])⟩
  by_cases hc : far < on n
  · have hw : n ∈ W := ((ho.ge n).2).2 (by have := h.ge ho; omega)
    exact .inr ⟨n, hw, h.po n (by simp), by omega⟩
  · rw [show max far (on n) = far by omega]; exact h.sf
theorem KM.take (ho : OnW W on) {l : List Nat} {n : Nat} (h : KM nx W on srcs S far (fun x => x ∈ l ++ [n])) (hn : n ∉ W) : KM nx W on srcs (S ++ [n]) (max far (on n)) (fun x => x ∈ l ++ nx n) := by
  have hof : on n = -1 := ho.off n hn
  have hge := h.ge ho
  rw [show max far (on n) = far by omega]
  have dn : Dn W on (S ++ [n]) far n := ⟨fun hw => absurd hw hn, fun _ => by simp⟩
  have key : ∀ x, Dn W on S far x ∨ x ∈ l ++ [n] → Dn W on (S ++ [n]) far x ∨ x ∈ l ++ nx n := fun x hx => by
    rcases hx with hx | hx
    · exact .inl (hx.up (Int.le_refl _) fun y h => by simp [h])
    · rcases List.mem_append.1 hx with hx | hx
      · exact .inr (by simp [hx])
      · simp at hx; subst hx; exact .inl dn
  have hon : Off nx W srcs n := h.po n (by simp)
  refine ⟨fun x hx => key x (h.cs x hx), fun u hu z hz => ?_, fun u hu => ?_, h.sf, fun x hx => ?_⟩
  · rcases List.mem_append.1 hu with hu | hu
    · exact key z (h.cq u hu z hz)
    · simp at hu; subst hu; exact .inr (by simp [hz])
  · rcases List.mem_append.1 hu with hu | hu
    · exact h.so u hu
    · simp at hu; subst hu; exact ⟨hon, hn⟩
  · rcases List.mem_append.1 hx with hx | hx
    · exact h.po x (by simp [hx])
    · exact .step hon hn hx
theorem KM.fin_ (ho : OnW W on) (h : KM nx W on srcs S far (fun _ => False)) : Far nx W on srcs far := by
  have key : ∀ x, Off nx W srcs x → Dn W on S far x := by
    intro x hx
    induction hx with
    | base h1 => exact (h.cs _ h1).resolve_right id
    | @step x z _ h1 h2 ih => exact (h.cq x (ih.2 h1) z h2).resolve_right id
  refine ⟨fun x hx => ?_, h.sf⟩
  by_cases hw : x ∈ W
  · exact (key x hx).1 hw
  · rw [ho.off x hw]; exact h.ge ho
end
def Sp.onw (W : List Nat) (x : Nat) : Int := if x ∈ W then (W.idxOf x : Int) else -1
theorem onw_is {W : List Nat} (h : W.Nodup) : OnW W (Sp.onw W) := by
  refine ⟨fun i x hx => ?_, fun x hx => by unfold Sp.onw; rw [if_neg hx]⟩
  obtain ⟨hi, e⟩ := List.getElem?_eq_some_iff.1 hx
  unfold Sp.onw
  rw [if_pos (List.mem_of_getElem? hx), ← e, h.idxOf_getElem i hi]
end Go.Proofs.Ytilhheianbbbjaa

