/- graph.Keeps: what would be reached no more. -/
import Derived.Test.YtikhpbidbcfedaaGreatKp31
import Derived.Test.YtikhpbidbcfedaaGreatKp17
namespace Go.Proofs.YtikhpbidbcfedaaGreat
open Go.RowKit Go.ChangeMaps

def Sp.keeps (N : List Int) (nx : Nat → List Nat) (l : List Int) (x : Int) : Option (List Int) :=
  match Sp.pls N l with
  | none => none
  | some ps => if x ∈ N then some (Sp.rfs N (Sp.upn N.length (Sp.wo (Bf.all nx (N.idxOf x : Int) N.length ps) (Bf.all nx (-1) N.length ps).ord))) else none
theorem wo_nd {s : Bf} {l : List Nat} (h : l.Nodup) : (Sp.wo s l).Nodup := h.filter _
theorem wo_sub {s : Bf} {l : List Nat} {x : Nat} (h : x ∈ Sp.wo s l) : x ∈ l := (List.mem_filter.1 h).1

set_option maxRecDepth 100000 in
set_option maxHeartbeats 8000000 in
theorem pKeeps_any (D : Nat → Prop) (gb : Nat) (N : List Int) (nx : Nat → List Nat) (a : Option Addr) (cap : Nat) (l : List Int) (x : Int) (w : World) (hg : GrE w D gb N nx) (hl0 : RefsAt w w.heap.size a l) (hx0 : 0 ≤ x) (hx1 : x < 18446744073709551616) (hl : l.length * 8 ≤ 140737488355328) (hn : N.length ≤ 4096) (hb : ∀ i, ∀ x ∈ nx i, x < N.length) (hnl : ∀ p, (nx p).length ≤ 4096) :
    Calls Tryz.prog 20 #[.pointer (some ⟨gb, 0, none⟩), .slice a l.length cap, .int .u64 x] w (ReE w (Sp.keeps N nx l x) 140) := by
  obtain ⟨gn, cn, lo, xb, bl, cp, hG⟩ := hg.gr
  have HG : Hid (GR w gb N nx gn cn lo xb bl cp) := hG
  obtain ⟨mb, HP, HLK, hc1, hmb⟩ : ∃ mb, Hid (Calls Tryz.prog 28 #[.pointer (some ⟨gb, 0, none⟩), .slice a l.length cap] w (PlE w N l)) ∧ Hid (((∀ W : World, W.heap[mb]? = w.heap[mb]? → (Instr.lookup 69 (.map (some mb)) (.int .u64 x) true).run Tryz.prog W = .ok (.tuple #[.int .i64 0, .bool false]) W) ∧ x ∉ N) ∨ ∃ t : Nat, (∀ W : World, W.heap[mb]? = w.heap[mb]? → (Instr.lookup 69 (.map (some mb)) (.int .u64 x) true).run Tryz.prog W = .ok (.tuple #[.int .i64 t, .bool true]) W) ∧ N[t]? = some x ∧ N.idxOf x = t) ∧ w.cell? ⟨gb, 1, none⟩ = some (.map (some mb)) ∧ mb < w.heap.size := by
    obtain ⟨gs, c, mb, xb2, G, es, ck, bl2, cp2, lo2, h⟩ := hg
    refine ⟨mb, placesOf_any gb mb xb2 N.length _ G es ck N a cap l w.heap.size w h.cn hl0 (Nat.le_refl _) hl, ?_, h.cn.cell.1, (Array.getElem?_eq_some_iff.1 h.cn.mp.blk).1⟩
    rcases h.cn.look hx0 hx1 with h1 | ⟨t, h1, h2⟩
    · exact .inl h1
    · exact .inr ⟨t, h1, h2, idx_of h.cn.nd h2⟩
  have HSP : Hid (∀ (ps : List Nat) (wo : Int) (a2 : Option Addr) (c2 : Nat) (W : World), Below w.heap.size w W → InI W a2 ps → (∀ x ∈ ps, x < N.length) → ps.length = l.length → Calls Tryz.prog 30 #[.pointer (some ⟨gb, 0, none⟩), .slice a2 ps.length c2, .int .i64 wo] W (SprE W N.length (Bf.all nx wo N.length ps))) := fun ps wo a2 c2 W hW hi hp hpl => spread_any gb N nx gn cn lo xb bl cp a2 c2 ps wo W (hG.keep hW) hi hp hb hn (by rw [hpl]; exact hl) hnl
  have HRI : Hid (∀ (q : List Nat) (gs : Option Nat) (c : Nat) (W : World), Below w.heap.size w W → NdI W gs c (q.map fun j : Nat => (j : Int)) → q.Nodup → (∀ x ∈ q, x < N.length) → Calls Tryz.prog 29 #[.pointer (some ⟨gb, 0, none⟩), .slice (adr gs) q.length c] W (RfE W (Sp.rfs N (Sp.upn N.length q)))) := fun q gs c W hW hs hd hq => rising_any gb N nx gn cn lo xb bl cp gs c q W (hG.keep hW) hs hd hq (by have := nd_len hd hq; omega)
  have HB : Hid (∀ i, ∀ x ∈ nx i, x < N.length) := hb
  have hgl := hG.lt
  clear hg hl0 hG hb hnl
  go_enter Tryz.func20, Tryz.ntmps20
  go_wp2_with fail
  refine HP.out.mono ?_
  rintro e w1 ⟨hb1, h⟩
  have hc1' : w1.cell? ⟨gb, 1, none⟩ = some (.map (some mb)) := by rw [World.cell?_of_block (w := w) (hb1.block gb hgl)]; exact hc1
  rcases HLK.out with ⟨L, hno⟩ | ⟨t, L, hN, hidx⟩
  · have hlk := L w1 (hb1.block mb hmb)
    clear L hmb hgl hc1
    have HF : Hid (Below w.heap.size w w1 ∧ Sp.keeps N nx l x = none) := ⟨hb1, by unfold Sp.keeps; cases Sp.pls N l with | none => rfl | some q => simp [hno]⟩
    rcases h with ⟨hn0, rfl⟩ | ⟨ps, gs, c, hps, rfl, hnd, hlo⟩
    · clear hb1 hn0
      go_wp2_with fail
      go_ret2
      exact ⟨HF.out.1, .inl ⟨HF.out.2, rfl⟩⟩
    · clear hb1 hps hnd hlo
      go_wp2_with fail
      go_ret2
      exact ⟨HF.out.1, .inl ⟨HF.out.2, rfl⟩⟩
  · have hlk := L w1 (hb1.block mb hmb)
    clear L hmb hgl hc1
    rcases h with ⟨hn0, rfl⟩ | ⟨ps, gs, c, hps, rfl, hnd, hlo⟩
    · have HF : Hid (Below w.heap.size w w1 ∧ Sp.keeps N nx l x = none) := ⟨hb1, by unfold Sp.keeps; rw [hn0]⟩
      clear hb1 hn0
      go_wp2_with fail
      go_ret2
      exact ⟨HF.out.1, .inl ⟨HF.out.2, rfl⟩⟩
    · have hlt := pls_lt hps
      have hxN : x ∈ N := List.mem_of_getElem? hN
      have HF : Hid (Below w.heap.size w w1 ∧ Sp.keeps N nx l x = some (Sp.rfs N (Sp.upn N.length (Sp.wo (Bf.all nx (t : Int) N.length ps) (Bf.all nx (-1) N.length ps).ord))) ∧ Bok N.length (Bf.all nx (-1) N.length ps)) := ⟨hb1, (by unfold Sp.keeps; rw [hps]; simp only [if_pos hxN, hidx]), all_ok hlt.1 HB.out⟩
      have HS2 : Hid (Calls Tryz.prog 30 #[.pointer (some ⟨gb, 0, none⟩), .slice (adr gs) ps.length c, .int .i64 (t : Int)] w1 (SprE w1 N.length (Bf.all nx (t : Int) N.length ps))) := HSP.out ps t (adr gs) c w1 hb1 hnd.inI hlt.1 hlt.2
      have HS3 : Hid (∀ W : World, Below w1.heap.size w1 W → Calls Tryz.prog 30 #[.pointer (some ⟨gb, 0, none⟩), .slice (adr gs) ps.length c, .int .i64 (-1)] W (SprE W N.length (Bf.all nx (-1) N.length ps))) := fun W hW => HSP.out ps (-1) (adr gs) c W (belT hb1 hW) (hnd.inI.keep hW) hlt.1 hlt.2
      clear hb1 hps hnd hlo hlt HP HSP hxN hN hidx HLK
      obtain ⟨R, hR⟩ : ∃ R, Bf.all nx (t : Int) N.length ps = R := ⟨_, rfl⟩
      obtain ⟨A, hA⟩ : ∃ A, Bf.all nx (-1) N.length ps = A := ⟨_, rfl⟩
      rw [hR] at HF HS2
      rw [hA] at HF HS3
      clear hR hA
      go_wp2_with fail
      refine HS2.out.mono ?_
      rintro e w2 ⟨gi, gs2, c2, rfl, hby, hor, hgi, hg2, hb2⟩
      obtain ⟨W3, hW3⟩ : ∃ W3, w2.alloc (.cells #[.slice (some ⟨gi, 0, none⟩) N.length N.length, .slice (adr gs2) R.ord.length c2] 65) = W3 := ⟨_, rfl⟩
      have hbx : W3.heap[w2.heap.size]? = some (.cells #[.slice (some ⟨gi, 0, none⟩) N.length N.length, .slice (adr gs2) R.ord.length c2] 65 (0, 0)) := by rw [← hW3]; exact heap_alloc_new w2 _
      have hz3 : W3.heap.size = w2.heap.size + 1 := by rw [← hW3]; exact al_size _ _
      have hb3 : Below w2.heap.size w2 W3 := by rw [← hW3]; exact (Below.refl _ _).alloc (Nat.le_refl _) _
      have HW3 : Hid (W3.heap[w2.heap.size]? = some (.cells #[.slice (some ⟨gi, 0, none⟩) N.length N.length, .slice (adr gs2) R.ord.length c2] 65 (0, 0)) ∧ Below w1.heap.size w1 W3 ∧ OwnR W3 3 gi N.length N.length (iv (Sp.byl N.length R)) ∧ w2.heap.size < W3.heap.size) := ⟨hbx, hb2.trans (hb3.mono hb2.size), hby.keep (hb3.block gi hby.lt), by omega⟩
      have hx30 : W3.cell? ⟨w2.heap.size, 0, none⟩ = some (.slice (some ⟨gi, 0, none⟩) N.length N.length) := by simp [World.cell?, hbx]
      have hx31 : W3.cell? ⟨w2.heap.size, 1, none⟩ = some (.slice (adr gs2) R.ord.length c2) := by simp [World.cell?, hbx]
      have HS4 : Hid (∀ W : World, Below W3.heap.size W3 W → Calls Tryz.prog 30 #[.pointer (some ⟨gb, 0, none⟩), .slice (adr gs) ps.length c, .int .i64 (-1)] W (SprE W N.length A)) := fun W hW => HS3.out W (belT HW3.out.2.1 hW)
      clear hby hor hgi hg2 hb2 hbx hz3 hb3 HS2 HS3 hlk
      go_upto_region 6 with fail
      clear hW3
      go_cut [13] from 46 (fun v13 wc => ∃ (gs4 : Option Nat) (c4 : Nat), v13 = .slice (adr gs4) (Sp.wo R A.ord).length c4 ∧ Hid (NdI wc gs4 c4 ((Sp.wo R A.ord).map fun j : Nat => (j : Int)) ∧ Below w.heap.size w wc))
      case first =>
        go_region_with (first
          | (go_at_call 30; refine (HS4.out _ (by first | exact (Below.refl _ _).drew | exact Below.refl _ _)).mono ?_; rintro e w4 ⟨gi4, gs4, c4, rfl, hby4, hor4, hgi4, hg4, hb4⟩; have hb4' : Below W3.heap.size W3 w4 := ⟨hb4.os, hb4.tape, hb4.output, hb4.size, hb4.block⟩; have hx40 : w4.cell? ⟨w2.heap.size, 0, none⟩ = some (.slice (some ⟨gi, 0, none⟩) N.length N.length) := (by simp [World.cell?, hb4'.block w2.heap.size HW3.out.2.2.2, HW3.out.1]); have hx41 : w4.cell? ⟨w2.heap.size, 1, none⟩ = some (.slice (adr gs2) R.ord.length c2) := (by simp [World.cell?, hb4'.block w2.heap.size HW3.out.2.2.2, HW3.out.1]); have HD4 : Hid (Calls Tryz.prog 40 #[.slice (adr gs4) A.ord.length c4, Sp.hasF gi N.length gs2 R.ord.length c2] w4 (DelE w4 gs4 c4 (Sp.wo R A.ord))) := deleteF_any gi N.length R gs2 R.ord.length c2 gs4 c4 A.ord w4 (HW3.out.2.2.1.keep (hb4'.block gi HW3.out.2.2.1.lt)) hor4 HF.out.2.2.bd (by have := HF.out.2.2.len; omega) (fun e => by have h1 := (hg4 gi e).1; have h2 := HW3.out.2.2.1.lt; have h3 : W3.drew.heap.size = W3.heap.size := rfl; omega); have HB4 : Hid (Below w.heap.size w w4 ∧ ∀ g, gs4 = some g → w.heap.size ≤ g) := ⟨belT HF.out.1 (belT HW3.out.2.1 hb4'), fun g hg => (by have h1 := (hg4 g hg).1; have h2 := HW3.out.2.1.size; have h4 := HF.out.1.size; have h3 : W3.drew.heap.size = W3.heap.size := rfl; omega)⟩; clear hby4 hor4 hgi4 hg4 hb4 hb4'; unfold Sp.hasF at HD4)
          | (go_at_call 40; refine HD4.out.mono ?_; rintro e w5 ⟨rfl, hn5, ho5, hs5⟩))
        all_goals go_wp2_with fail
        all_goals go_meet
        all_goals
          refine ⟨gs4, c4, rfl, (⟨(fun e => by have := hn5 e; exact ⟨by rw [this.1]; rfl, this.2⟩), fun g hg => by have := ho5 g hg; simpa using this⟩ : NdI _ _ _ _), ?_⟩
          have hbb := HB4.out.1
          exact ⟨hs5.1.trans hbb.os, hs5.2.1.trans hbb.tape, hs5.2.2.1.trans hbb.output, Nat.le_trans hbb.size hs5.2.2.2.1, fun k hk => (hs5.2.2.2.2 k (Nat.lt_of_lt_of_le hk hbb.size) (fun e => by have := HB4.out.2 k e; omega)).trans (hbb.block k hk)⟩
      case rest =>
        obtain ⟨gs4, c4, rfl, HC⟩ := hcut
        have HR2 : Hid (Calls Tryz.prog 29 #[.pointer (some ⟨gb, 0, none⟩), .slice (adr gs4) (Sp.wo R A.ord).length c4] wc (RfE wc (Sp.rfs N (Sp.upn N.length (Sp.wo R A.ord))))) := HRI.out _ gs4 c4 wc HC.out.2 HC.out.1 (wo_nd HF.out.2.2.nd) (fun x hx => HF.out.2.2.bd x (wo_sub hx))
        clear HRI HS4 hx30 hx31 HW3
        go_wp2_with fail
        refine HR2.out.mono ?_
        rintro e w6 ⟨gs6, c6, rfl, h1, h2, h3⟩
        have HF3 : Hid (NdR w6 gs6 c6 (Sp.rfs N (Sp.upn N.length (Sp.wo R A.ord))) ∧ (∀ g, gs6 = some g → w.heap.size ≤ g) ∧ Below w.heap.size w w6) := ⟨h1, fun g hg => Nat.le_trans HC.out.2.size (h2 g hg), belT HC.out.2 h3⟩
        clear h1 h2 h3
        go_wp2_with fail
        go_ret2
        exact ⟨HF3.out.2.2, .inr ⟨_, gs6, c6, HF.out.2.1, rfl, HF3.out.1, HF3.out.2.1⟩⟩

end Go.Proofs.YtikhpbidbcfedaaGreat

/- Plain mathematics: what graph.keeper has gone through, step by step. -/
namespace Go.Proofs.YtikhpbidbcfedaaGreat

section
variable {nx : Nat → List Nat} {W : List Nat} {on : Nat → Int} {srcs : Nat → Prop} {S : List Nat} {far : Int} {pend : Nat → Prop}
def Dn (W : List Nat) (on : Nat → Int) (S : List Nat) (far : Int) (x : Nat) : Prop := (x ∈ W → on x ≤ far) ∧ (x ∉ W → x ∈ S)
structure KM (nx : Nat → List Nat) (W : List Nat) (on : Nat → Int) (srcs : Nat → Prop) (S : List Nat) (far : Int) (pend : Nat → Prop) : Prop where
  cs : ∀ x, srcs x → Dn W on S far x ∨ pend x
  cq : ∀ u ∈ S, ∀ z ∈ nx u, Dn W on S far z ∨ pend z
  so : ∀ u ∈ S, Off nx W srcs u ∧ u ∉ W
  sf : far = -1 ∨ ∃ x, x ∈ W ∧ Off nx W srcs x ∧ on x = far
  po : ∀ x, pend x → Off nx W srcs x
theorem Off.mono {p q : Nat → Prop} (h : ∀ y, p y → q y) {x : Nat} (hx : Off nx W p x) : Off nx W q x := by
  induction hx with
  | base h1 => exact .base (h _ h1)
  | step _ h1 h2 ih => exact .step ih h1 h2
theorem KM.begin_ (nx : Nat → List Nat) (W : List Nat) (on : Nat → Int) : KM nx W on (fun _ => False) [] (-1) (fun _ => False) :=
  ⟨fun _ h => h.elim, by simp, by simp, .inl rfl, fun _ h => h.elim⟩
theorem KM.more (h : KM nx W on srcs S far (fun _ => False)) (l : List Nat) : KM nx W on (fun x => srcs x ∨ x ∈ l) S far (fun x => x ∈ l) :=
  ⟨fun x hx => hx.elim (fun hx => .inl ((h.cs x hx).resolve_right id)) .inr, fun u hu z hz => .inl ((h.cq u hu z hz).resolve_right id),
   fun u hu => ⟨(h.so u hu).1.mono fun _ h => .inl h, (h.so u hu).2⟩, h.sf.imp id fun ⟨x, h1, h2, h3⟩ => ⟨x, h1, h2.mono fun _ h => .inl h, h3⟩, fun _ hx => .base (.inr hx)⟩
theorem KM.same (h : KM nx W on srcs S far pend) {q : Nat → Prop} {r : Nat → Prop} (h1 : ∀ x, pend x ↔ q x) (h2 : ∀ x, srcs x ↔ r x) : KM nx W on r S far q :=
  ⟨fun x hx => (h.cs x ((h2 x).2 hx)).imp id (h1 x).1, fun u hu z hz => (h.cq u hu z hz).imp id (h1 z).1, fun u hu => ⟨(h.so u hu).1.mono fun y hy => (h2 y).1 hy, (h.so u hu).2⟩,
   h.sf.imp id fun ⟨x, a, b, c⟩ => ⟨x, a, b.mono fun y hy => (h2 y).1 hy, c⟩, fun x hx => (h.po x ((h1 x).2 hx)).mono fun y hy => (h2 y).1 hy⟩
theorem KM.ge (ho : OnW W on) (h : KM nx W on srcs S far pend) : -1 ≤ far := by
  rcases h.sf with e | ⟨x, hx, _, e⟩
  · omega
  · obtain ⟨j, hj, e2⟩ := List.mem_iff_getElem.1 hx
    have := ho.at_ j x (by rw [List.getElem?_eq_getElem hj, e2])
    omega
theorem OnW.ge (ho : OnW W on) (x : Nat) : -1 ≤ on x ∧ (x ∈ W ↔ on x ≠ -1) := by
  by_cases hx : x ∈ W
  · obtain ⟨j, hj, e2⟩ := List.mem_iff_getElem.1 hx
    have := ho.at_ j x (by rw [List.getElem?_eq_getElem hj, e2])
    exact ⟨by omega, ⟨fun _ => by omega, fun _ => hx⟩⟩
  · have := ho.off x hx
    exact ⟨by omega, ⟨fun h => absurd h hx, fun h => absurd this h⟩⟩
theorem Dn.up {far' : Int} {S' : List Nat} {x : Nat} (h : Dn W on S far x) (hf : far ≤ far') (hs : ∀ y ∈ S, y ∈ S') : Dn W on S' far' x := ⟨fun hx => Int.le_trans (h.1 hx) hf, fun hx => hs x (h.2 hx)⟩
theorem KM.skip (ho : OnW W on) {l : List Nat} {n : Nat} (h : KM nx W on srcs S far (fun x => x ∈ l ++ [n])) (hn : n ∈ W ∨ n ∈ S) : KM nx W on srcs S (max far (on n)) (fun x => x ∈ l) := by
  have hf : far ≤ max far (on n) := by omega
  have dn : Dn W on S (max far (on n)) n := ⟨fun _ => by omega, fun hw => hn.resolve_left hw⟩
  have key : ∀ x, Dn W on S far x ∨ x ∈ l ++ [n] → Dn W on S (max far (on n)) x ∨ x ∈ l := fun x hx => by
    rcases hx with hx | hx
    · exact .inl (hx.up hf fun _ h => h)
    · rcases List.mem_append.1 hx with hx | hx
      · exact .inr hx
      · simp at hx; subst hx; exact .inl dn
  refine ⟨fun x hx => key x (h.cs x hx), fun u hu z hz => key z (h.cq u hu z hz), h.so, ?_, fun x hx => h.po x (by simp [hx])⟩
  by_cases hc : far < on n
  · have hw : n ∈ W := ((ho.ge n).2).2 (by have := h.ge ho; omega)
    exact .inr ⟨n, hw, h.po n (by simp), by omega⟩
  · rw [show max far (on n) = far by omega]; exact h.sf
theorem KM.take (ho : OnW W on) {l : List Nat} {n : Nat} (h : KM nx W on srcs S far (fun x => x ∈ l ++ [n])) (hn : n ∉ W) : KM nx W on srcs (S ++ [n]) (max far (on n)) (fun x => x ∈ l ++ nx n) := by
  have hof : on n = -1 := ho.off n hn
  have hge := h.ge ho
  rw [show max far (on n) = far by omega]
  have dn : Dn W on (S ++ [n]) far n := ⟨fun hw => absurd hw hn, fun _ => by simp⟩
  have key : ∀ x, Dn W on S far x ∨ x ∈ l ++ [n] → Dn W on (S ++ [n]) far x ∨ x ∈ l ++ nx n := fun x hx => by
    rcases hx with hx | hx
    · exact .inl (hx.up (Int.le_refl _) fun y h => by simp [h])
    · rcases List.mem_append.1 hx with hx | hx
      · exact .inr (by simp [hx])
      · simp at hx; subst hx; exact .inl dn
  have hon : Off nx W srcs n := h.po n (by simp)
  refine ⟨fun x hx => key x (h.cs x hx), fun u hu z hz => ?_, fun u hu => ?_, h.sf, fun x hx => ?_⟩
  · rcases List.mem_append.1 hu with hu | hu
    · exact key z (h.cq u hu z hz)
    · simp at hu; subst hu; exact .inr (by simp [hz])
  · rcases List.mem_append.1 hu with hu | hu
    · exact h.so u hu
    · simp at hu; subst hu; exact ⟨hon, hn⟩
  · rcases List.mem_append.1 hx with hx | hx
    · exact h.po x (by simp [hx])
    · exact .step hon hn hx
theorem KM.fin_ (ho : OnW W on) (h : KM nx W on srcs S far (fun _ => False)) : Far nx W on srcs far := by
  have key : ∀ x, Off nx W srcs x → Dn W on S far x := by
    intro x hx
    induction hx with
    | base h1 => exact (h.cs _ h1).resolve_right id
    | @step x z _ h1 h2 ih => exact (h.cq x (ih.2 h1) z h2).resolve_right id
  refine ⟨fun x hx => ?_, h.sf⟩
  by_cases hw : x ∈ W
  · exact (key x hx).1 hw
  · rw [ho.off x hw]; exact h.ge ho
end
def Sp.onw (W : List Nat) (x : Nat) : Int := if x ∈ W then (W.idxOf x : Int) else -1
theorem onw_is {W : List Nat} (h : W.Nodup) : OnW W (Sp.onw W) := by
  refine ⟨fun i x hx => ?_, fun x hx => by unfold Sp.onw; rw [if_neg hx]⟩
  obtain ⟨hi, e⟩ := List.getElem?_eq_some_iff.1 hx
  unfold Sp.onw
  rw [if_pos (List.mem_of_getElem? hx), ← e, h.idxOf_getElem i hi]
end Go.Proofs.YtikhpbidbcfedaaGreat

