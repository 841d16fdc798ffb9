/- graph.Keeps: what would be reached no more. -/
import Derived.Test.YtilhheianbbbjaaK34
namespace Go.Proofs.Ytilhheianbbbjaa
open Go.RowKit Go.ChangeMaps

def Sp.keeps (N : List Int) (nx : Nat → List Nat) (l : List Int) (x : Int) : Option (List Int) :=
  match Sp.pls N l with
  | none => none
  | some ps => if x ∈ N then some (Sp.rfs N (Sp.upn N.length (Sp.wo (Bf.all nx (N.idxOf x : Int) N.length ps) (Bf.all nx (-1) N.length ps).ord))) else none
theorem wo_nd {s : Bf} {l : List Nat} (h : l.Nodup) : (Sp.wo s l).Nodup := h.filter _
theorem wo_sub {s : Bf} {l : List Nat} {x : Nat} (h : x ∈ Sp.wo s l) : x ∈ l := (List.mem_filter.1 h).1

set_option maxRecDepth 100000 in
set_option maxHeartbeats 8000000 in
theorem pKeeps_any (D : Nat → Prop) (gb : Nat) (N : List Int) (nx : Nat → List Nat) (a : Option Addr) (cap : Nat) (l : List Int) (x : Int) (w : World) (hg : GrE w D gb N nx) (hl0 : RefsAt w w.heap.size a l) (hx0 : 0 ≤ x) (hx1 : x < 18446744073709551616) (hl : l.length * 8 ≤ 140737488355328) (hn : N.length ≤ 4096) (hb : ∀ i, ∀ x ∈ nx i, x < N.length) (hnl : ∀ p, (nx p).length ≤ 4096) :
    Calls Try.prog 10 #[.pointer (some ⟨gb, 0, none⟩), .slice a l.length cap, .int .u64 x] w (ReE w (Sp.keeps N nx l x) 140) := by
  obtain ⟨gn, cn, lo, xb, bl, cp, hG⟩ := hg.gr
  have HG : Hid (GR w gb N nx gn cn lo xb bl cp) := hG
  obtain ⟨mb, HP, HLK, hc1, hmb⟩ : ∃ mb, Hid (Calls Try.prog 18 #[.pointer (some ⟨gb, 0, none⟩), .slice a l.length cap] w (PlE w N l)) ∧ Hid (((∀ W : World, W.heap[mb]? = w.heap[mb]? → (Instr.lookup 63 (.map (some mb)) (.int .u64 x) true).run Try.prog W = .ok (.tuple #[.int .i64 0, .bool false]) W) ∧ x ∉ N) ∨ ∃ t : Nat, (∀ W : World, W.heap[mb]? = w.heap[mb]? → (Instr.lookup 63 (.map (some mb)) (.int .u64 x) true).run Try.prog W = .ok (.tuple #[.int .i64 t, .bool true]) W) ∧ N[t]? = some x ∧ N.idxOf x = t) ∧ w.cell? ⟨gb, 1, none⟩ = some (.map (some mb)) ∧ mb < w.heap.size := by
    obtain ⟨gs, c, mb, xb2, G, es, ck, bl2, cp2, lo2, h⟩ := hg
    refine ⟨mb, placesOf_any gb mb xb2 N.length _ G es ck N a cap l w.heap.size w h.cn hl0 (Nat.le_refl _) hl, ?_, h.cn.cell.1, (Array.getElem?_eq_some_iff.1 h.cn.mp.blk).1⟩
    rcases h.cn.look hx0 hx1 with h1 | ⟨t, h1, h2⟩
    · exact .inl h1
    · exact .inr ⟨t, h1, h2, idx_of h.cn.nd h2⟩
  have HSP : Hid (∀ (ps : List Nat) (wo : Int) (a2 : Option Addr) (c2 : Nat) (W : World), Below w.heap.size w W → InI W a2 ps → (∀ x ∈ ps, x < N.length) → ps.length = l.length → Calls Try.prog 20 #[.pointer (some ⟨gb, 0, none⟩), .slice a2 ps.length c2, .int .i64 wo] W (SprE W N.length (Bf.all nx wo N.length ps))) := fun ps wo a2 c2 W hW hi hp hpl => spread_any gb N nx gn cn lo xb bl cp a2 c2 ps wo W (hG.keep hW) hi hp hb hn (by rw [hpl]; exact hl) hnl
  have HRI : Hid (∀ (q : List Nat) (gs : Option Nat) (c : Nat) (W : World), Below w.heap.size w W → NdI W gs c (q.map fun j : Nat => (j : Int)) → q.Nodup → (∀ x ∈ q, x < N.length) → Calls Try.prog 19 #[.pointer (some ⟨gb, 0, none⟩), .slice (adr gs) q.length c] W (RfE W (Sp.rfs N (Sp.upn N.length q)))) := fun q gs c W hW hs hd hq => rising_any gb N nx gn cn lo xb bl cp gs c q W (hG.keep hW) hs hd hq (by have := nd_len hd hq; omega)
  have HB : Hid (∀ i, ∀ x ∈ nx i, x < N.length) := hb
  have hgl := hG.lt
  clear hg hl0 hG hb hnl
  go_enter Try.func10, Try.ntmps10
  go_wp2_with fail
  refine HP.out.mono ?_
  rintro e w1 ⟨hb1, h⟩
  have hc1' : w1.cell? ⟨gb, 1, none⟩ = some (.map (some mb)) := by rw [World.cell?_of_block (w := w) (hb1.block gb hgl)]; exact hc1
  rcases HLK.out with ⟨L, hno⟩ | ⟨t, L, hN, hidx⟩
  · have hlk := L w1 (hb1.block mb hmb)
    clear L hmb hgl hc1
    have HF : Hid (Below w.heap.size w w1 ∧ Sp.keeps N nx l x = none) := ⟨hb1, by unfold Sp.keeps; cases Sp.pls N l with | none => rfl | some q => simp [hno]⟩
    rcases h with ⟨hn0, rfl⟩ | ⟨ps, gs, c, hps, rfl, hnd, hlo⟩
    · clear hb1 hn0
      go_wp2_with fail
      go_ret2
      exact ⟨HF.out.1, .inl ⟨HF.out.2, rfl⟩⟩
    · clear hb1 hps hnd hlo
      go_wp2_with fail
      go_ret2
      exact ⟨HF.out.1, .inl ⟨HF.out.2, rfl⟩⟩
  · have hlk := L w1 (hb1.block mb hmb)
    clear L hmb hgl hc1
    rcases h with ⟨hn0, rfl⟩ | ⟨ps, gs, c, hps, rfl, hnd, hlo⟩
    · have HF : Hid (Below w.heap.size w w1 ∧ Sp.keeps N nx l x = none) := ⟨hb1, by unfold Sp.keeps; rw [hn0]⟩
      clear hb1 hn0
      go_wp2_with fail
      go_ret2
      exact ⟨HF.out.1, .inl ⟨HF.out.2, rfl⟩⟩
    · have hlt := pls_lt hps
      have hxN : x ∈ N := List.mem_of_getElem? hN
      have HF : Hid (Below w.heap.size w w1 ∧ Sp.keeps N nx l x = some (Sp.rfs N (Sp.upn N.length (Sp.wo (Bf.all nx (t : Int) N.length ps) (Bf.all nx (-1) N.length ps).ord))) ∧ Bok N.length (Bf.all nx (-1) N.length ps)) := ⟨hb1, (by unfold Sp.keeps; rw [hps]; simp only [if_pos hxN, hidx]), all_ok hlt.1 HB.out⟩
      have HS2 : Hid (Calls Try.prog 20 #[.pointer (some ⟨gb, 0, none⟩), .slice (adr gs) ps.length c, .int .i64 (t : Int)] w1 (SprE w1 N.length (Bf.all nx (t : Int) N.length ps))) := HSP.out ps t (adr gs) c w1 hb1 hnd.inI hlt.1 hlt.2
      have HS3 : Hid (∀ W : World, Below w1.heap.size w1 W → Calls Try.prog 20 #[.pointer (some ⟨gb, 0, none⟩), .slice (adr gs) ps.length c, .int .i64 (-1)] W (SprE W N.length (Bf.all nx (-1) N.length ps))) := fun W hW => HSP.out ps (-1) (adr gs) c W (belT hb1 hW) (hnd.inI.keep hW) hlt.1 hlt.2
      clear hb1 hps hnd hlo hlt HP HSP hxN hN hidx HLK
      obtain ⟨R, hR⟩ : ∃ R, Bf.all nx (t : Int) N.length ps = R := ⟨_, rfl⟩
      obtain ⟨A, hA⟩ : ∃ A, Bf.all nx (-1) N.length ps = A := ⟨_, rfl⟩
      rw [hR] at HF HS2
      rw [hA] at HF HS3
      clear hR hA
      go_wp2_with fail
      refine HS2.out.mono ?_
      rintro e w2 ⟨gi, gs2, c2, rfl, hby, hor, hgi, hg2, hb2⟩
      obtain ⟨W3, hW3⟩ : ∃ W3, w2.alloc (.cells #[.slice (some ⟨gi, 0, none⟩) N.length N.length, .slice (adr gs2) R.ord.length c2] 51) = W3 := ⟨_, rfl⟩
      have hbx : W3.heap[w2.heap.size]? = some (.cells #[.slice (some ⟨gi, 0, none⟩) N.length N.length, .slice (adr gs2) R.ord.length c2] 51 (0, 0)) := by rw [← hW3]; exact heap_alloc_new w2 _
      have hz3 : W3.heap.size = w2.heap.size + 1 := by rw [← hW3]; exact al_size _ _
      have hb3 : Below w2.heap.size w2 W3 := by rw [← hW3]; exact (Below.refl _ _).alloc (Nat.le_refl _) _
      have HW3 : Hid (W3.heap[w2.heap.size]? = some (.cells #[.slice (some ⟨gi, 0, none⟩) N.length N.length, .slice (adr gs2) R.ord.length c2] 51 (0, 0)) ∧ Below w1.heap.size w1 W3 ∧ OwnR W3 3 gi N.length N.length (iv (Sp.byl N.length R)) ∧ w2.heap.size < W3.heap.size) := ⟨hbx, hb2.trans (hb3.mono hb2.size), hby.keep (hb3.block gi hby.lt), by omega⟩
      have hx30 : W3.cell? ⟨w2.heap.size, 0, none⟩ = some (.slice (some ⟨gi, 0, none⟩) N.length N.length) := by simp [World.cell?, hbx]
      have hx31 : W3.cell? ⟨w2.heap.size, 1, none⟩ = some (.slice (adr gs2) R.ord.length c2) := by simp [World.cell?, hbx]
      have HS4 : Hid (∀ W : World, Below W3.heap.size W3 W → Calls Try.prog 20 #[.pointer (some ⟨gb, 0, none⟩), .slice (adr gs) ps.length c, .int .i64 (-1)] W (SprE W N.length A)) := fun W hW => HS3.out W (belT HW3.out.2.1 hW)
      clear hby hor hgi hg2 hb2 hbx hz3 hb3 HS2 HS3 hlk
      go_upto_region 6 with fail
      clear hW3
      go_cut [13] from 46 (fun v13 wc => ∃ (gs4 : Option Nat) (c4 : Nat), v13 = .slice (adr gs4) (Sp.wo R A.ord).length c4 ∧ Hid (NdI wc gs4 c4 ((Sp.wo R A.ord).map fun j : Nat => (j : Int)) ∧ Below w.heap.size w wc))
      case first =>
        go_region_with (first
          | (go_at_call 20; refine (HS4.out _ (by first | exact (Below.refl _ _).drew | exact Below.refl _ _)).mono ?_; rintro e w4 ⟨gi4, gs4, c4, rfl, hby4, hor4, hgi4, hg4, hb4⟩; have hb4' : Below W3.heap.size W3 w4 := ⟨hb4.os, hb4.tape, hb4.output, hb4.size, hb4.block⟩; have hx40 : w4.cell? ⟨w2.heap.size, 0, none⟩ = some (.slice (some ⟨gi, 0, none⟩) N.length N.length) := (by simp [World.cell?, hb4'.block w2.heap.size HW3.out.2.2.2, HW3.out.1]); have hx41 : w4.cell? ⟨w2.heap.size, 1, none⟩ = some (.slice (adr gs2) R.ord.length c2) := (by simp [World.cell?, hb4'.block w2.heap.size HW3.out.2.2.2, HW3.out.1]); have HD4 : Hid (Calls Try.prog 31 #[.slice (adr gs4) A.ord.length c4, Sp.hasF gi N.length gs2 R.ord.length c2] w4 (DelE w4 gs4 c4 (Sp.wo R A.ord))) := deleteF_any gi N.length R gs2 R.ord.length c2 gs4 c4 A.ord w4 (HW3.out.2.2.1.keep (hb4'.block gi HW3.out.2.2.1.lt)) hor4 HF.out.2.2.bd (by have := HF.out.2.2.len; omega) (fun e => by have h1 := (hg4 gi e).1; have h2 := HW3.out.2.2.1.lt; have h3 : W3.drew.heap.size = W3.heap.size := rfl; omega); have HB4 : Hid (Below w.heap.size w w4 ∧ ∀ g, gs4 = some g → w.heap.size ≤ g) := ⟨belT HF.out.1 (belT HW3.out.2.1 hb4'), fun g hg => (by have h1 := (hg4 g hg).1; have h2 := HW3.out.2.1.size; have h4 := HF.out.1.size; have h3 : W3.drew.heap.size = W3.heap.size := rfl; omega)⟩; clear hby4 hor4 hgi4 hg4 hb4 hb4'; unfold Sp.hasF at HD4)
          | (go_at_call 31; refine HD4.out.mono ?_; rintro e w5 ⟨rfl, hn5, ho5, hs5⟩))
        all_goals go_wp2_with fail
        all_goals go_meet
        all_goals
          refine ⟨gs4, c4, rfl, (⟨(fun e => by have := hn5 e; exact ⟨by rw [this.1]; rfl, this.2⟩), fun g hg => by have := ho5 g hg; simpa using this⟩ : NdI _ _ _ _), ?_⟩
          have hbb := HB4.out.1
          exact ⟨hs5.1.trans hbb.os, hs5.2.1.trans hbb.tape, hs5.2.2.1.trans hbb.output, Nat.le_trans hbb.size hs5.2.2.2.1, fun k hk => (hs5.2.2.2.2 k (Nat.lt_of_lt_of_le hk hbb.size) (fun e => by have := HB4.out.2 k e; omega)).trans (hbb.block k hk)⟩
      case rest =>
        obtain ⟨gs4, c4, rfl, HC⟩ := hcut
        have HR2 : Hid (Calls Try.prog 19 #[.pointer (some ⟨gb, 0, none⟩), .slice (adr gs4) (Sp.wo R A.ord).length c4] wc (RfE wc (Sp.rfs N (Sp.upn N.length (Sp.wo R A.ord))))) := HRI.out _ gs4 c4 wc HC.out.2 HC.out.1 (wo_nd HF.out.2.2.nd) (fun x hx => HF.out.2.2.bd x (wo_sub hx))
        clear HRI HS4 hx30 hx31 HW3
        go_wp2_with fail
        refine HR2.out.mono ?_
        rintro e w6 ⟨gs6, c6, rfl, h1, h2, h3⟩
        have HF3 : Hid (NdR w6 gs6 c6 (Sp.rfs N (Sp.upn N.length (Sp.wo R A.ord))) ∧ (∀ g, gs6 = some g → w.heap.size ≤ g) ∧ Below w.heap.size w w6) := ⟨h1, fun g hg => Nat.le_trans HC.out.2.size (h2 g hg), belT HC.out.2 h3⟩
        clear h1 h2 h3
        go_wp2_with fail
        go_ret2
        exact ⟨HF3.out.2.2, .inr ⟨_, gs6, c6, HF.out.2.1, rfl, HF3.out.1, HF3.out.2.1⟩⟩

theorem wo_none {nx : Nat → List Nat} {L n : Nat} {src : List Nat} (hlt : ∀ i, (nx i).Pairwise (· < ·)) (hb : ∀ i, ∀ x ∈ nx i, x < L) (hs : ∀ x ∈ src, x < L) (hn : n ∉ (Bf.all nx (-1) L src).ord) : Sp.wo (Bf.all nx (n : Int) L src) (Bf.all nx (-1) L src).ord = [] := by
  unfold Sp.wo
  rw [List.filter_eq_nil_iff]
  intro x hx
  have key : ∀ y, Rch nx (-1) src y → Rch nx (n : Int) src y := by
    intro y hy
    have hne : ∀ z, Rch nx (-1) src z → (z : Int) ≠ (n : Int) := fun z hz e => hn ((all_rch hlt hb hs).2 (by have : z = n := (by omega); rw [← this]; exact hz))
    induction hy with
    | base h1 h2 => exact .base h1 (hne _ (.base h1 h2))
    | step h0 h1 h2 ih => exact .step ih h1 (hne _ (.step h0 h1 h2))
  simp [(all_rch (wo := (n : Int)) hlt hb hs).2 (key x ((all_rch hlt hb hs).1 hx))]
end Go.Proofs.Ytilhheianbbbjaa

