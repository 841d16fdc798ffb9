/- graph.Keeper: what it tells. -/
import Derived.Test.YtikhpbidbcfedaaGreatKk38
namespace Go.Proofs.YtikhpbidbcfedaaGreat
open Go.RowKit Go.ChangeMaps

def Sp.wy (s : Bf) (n : Nat) : List Nat := (s.chn (s.ps n) n).reverse
def KrP (N : List Int) (nx : Nat → List Nat) (l : List Int) (x : Int) (y : Int) (b : Bool) (er : Int) : Prop :=
  ((Sp.pls N l = none ∨ x ∉ N) ∧ y = 0 ∧ b = false ∧ er = 140) ∨
  (∃ ps, Sp.pls N l = some ps ∧ x ∈ N ∧ N.idxOf x ∉ (Bf.all nx (-1) N.length ps).ord ∧ y = 0 ∧ b = false ∧ er = 142) ∨
  (∃ ps r, Sp.pls N l = some ps ∧ x ∈ N ∧ N.idxOf x ∈ (Bf.all nx (-1) N.length ps).ord ∧ IsK nx ps (N.idxOf x) (Sp.wy (Bf.all nx (-1) N.length ps) (N.idxOf x)) ((Sp.wy (Bf.all nx (-1) N.length ps) (N.idxOf x)).length - 1) r ∧ er = 0 ∧ ((r = -1 ∧ y = 0 ∧ b = false) ∨ ∃ k : Nat, r = k ∧ y = N.getD k 0 ∧ b = true))
theorem KrP.one {N : List Int} {nx : Nat → List Nat} {l : List Int} {x y y' : Int} {b b' : Bool} {er er' : Int} (h : KrP N nx l x y b er) (h' : KrP N nx l x y' b' er') : y = y' ∧ b = b' ∧ er = er' := by
  rcases h with ⟨h1, h2, h3, h4⟩ | ⟨ps, h1, h2, h3, h4, h5, h6⟩ | ⟨ps, r, h1, h2, h3, h4, h5, h6⟩ <;>
  rcases h' with ⟨g1, g2, g3, g4⟩ | ⟨qs, g1, g2, g3, g4, g5, g6⟩ | ⟨qs, q, g1, g2, g3, g4, g5, g6⟩
  · exact ⟨h2.trans g2.symm, h3.trans g3.symm, h4.trans g4.symm⟩
  · rcases h1 with h1 | h1; rw [h1] at g1; cases g1; exact absurd g2 h1
  · rcases h1 with h1 | h1; rw [h1] at g1; cases g1; exact absurd g2 h1
  · rcases g1 with g1 | g1; rw [g1] at h1; cases h1; exact absurd h2 g1
  · exact ⟨h4.trans g4.symm, h5.trans g5.symm, h6.trans g6.symm⟩
  · rw [h1] at g1; injection g1 with g1; subst g1; exact absurd g3 h3
  · rcases g1 with g1 | g1; rw [g1] at h1; cases h1; exact absurd h2 g1
  · rw [h1] at g1; injection g1 with g1; subst g1; exact absurd h3 g3
  · rw [h1] at g1; injection g1 with g1; subst g1
    have e := h4.one g4
    subst e
    refine ⟨?_, ?_, h5.trans g5.symm⟩
    · rcases h6 with ⟨e1, e2, _⟩ | ⟨k, e1, e2, _⟩ <;> rcases g6 with ⟨f1, f2, _⟩ | ⟨q, f1, f2, _⟩
      · rw [e2, f2]
      · omega
      · omega
      · rw [e2, f2, show k = q by omega]
    · rcases h6 with ⟨e1, _, e2⟩ | ⟨k, e1, _, e2⟩ <;> rcases g6 with ⟨f1, _, f2⟩ | ⟨q, f1, _, f2⟩
      · rw [e2, f2]
      · omega
      · omega
      · rw [e2, f2]
def KrE (w : World) (N : List Int) (nx : Nat → List Nat) (l : List Int) (x : Int) (e : Ending) (w' : World) : Prop := Below w.heap.size w w' ∧ ∃ y b er, e = .returned (.tuple #[.int .u64 y, .bool b, .int .i64 er]) ∧ KrP N nx l x y b er

set_option maxRecDepth 100000 in
set_option maxHeartbeats 8000000 in
theorem pKeeper_any (D : Nat → Prop) (gb : Nat) (N : List Int) (nx : Nat → List Nat) (a : Option Addr) (cap : Nat) (l : List Int) (x : Int) (w : World) (hg : GrE w D gb N nx) (hl0 : RefsAt w w.heap.size a l) (hx0 : 0 ≤ x) (hx1 : x < 18446744073709551616) (hl : l.length * 8 ≤ 140737488355328) (hn : N.length ≤ 4096) (hb : ∀ i, ∀ x ∈ nx i, x < N.length) (hnl : ∀ p, (nx p).length ≤ 4096) (hlt : ∀ i, (nx i).Pairwise (· < ·)) :
    Calls Tryz.prog 21 #[.pointer (some ⟨gb, 0, none⟩), .slice a l.length cap, .int .u64 x] w (KrE w N nx l x) := by
  obtain ⟨gn, cn, lo, xb, bl, cp, hG⟩ := hg.gr
  have HG : Hid (GR w gb N nx gn cn lo xb bl cp) := hG
  obtain ⟨mb, HP, HLK, hc1, hmb⟩ : ∃ mb, Hid (Calls Tryz.prog 28 #[.pointer (some ⟨gb, 0, none⟩), .slice a l.length cap] w (PlE w N l)) ∧ Hid (((∀ W : World, W.heap[mb]? = w.heap[mb]? → (Instr.lookup 69 (.map (some mb)) (.int .u64 x) true).run Tryz.prog W = .ok (.tuple #[.int .i64 0, .bool false]) W) ∧ x ∉ N) ∨ ∃ t : Nat, (∀ W : World, W.heap[mb]? = w.heap[mb]? → (Instr.lookup 69 (.map (some mb)) (.int .u64 x) true).run Tryz.prog W = .ok (.tuple #[.int .i64 t, .bool true]) W) ∧ N[t]? = some x ∧ N.idxOf x = t) ∧ w.cell? ⟨gb, 1, none⟩ = some (.map (some mb)) ∧ mb < w.heap.size := by
    obtain ⟨gs, c, mb, xb2, G, es, ck, bl2, cp2, lo2, h⟩ := hg
    refine ⟨mb, placesOf_any gb mb xb2 N.length _ G es ck N a cap l w.heap.size w h.cn hl0 (Nat.le_refl _) hl, ?_, h.cn.cell.1, (Array.getElem?_eq_some_iff.1 h.cn.mp.blk).1⟩
    rcases h.cn.look hx0 hx1 with h1 | ⟨t, h1, h2⟩
    · exact .inl h1
    · exact .inr ⟨t, h1, h2, idx_of h.cn.nd h2⟩
  have HSP : Hid (∀ (ps : List Nat) (wo : Int) (a2 : Option Addr) (c2 : Nat) (W : World), Below w.heap.size w W → InI W a2 ps → (∀ x ∈ ps, x < N.length) → ps.length = l.length → Calls Tryz.prog 30 #[.pointer (some ⟨gb, 0, none⟩), .slice a2 ps.length c2, .int .i64 wo] W (SprE W N.length (Bf.all nx wo N.length ps))) := fun ps wo a2 c2 W hW hi hp hpl => spread_any gb N nx gn cn lo xb bl cp a2 c2 ps wo W (hG.keep hW) hi hp hb hn (by rw [hpl]; exact hl) hnl
  have HKP : Hid (∀ (ps : List Nat) (t : Nat) (W : List Nat) (a2 : Option Addr) (c2 gw cw : Nat) (V : World), Below w.heap.size w V → InI V a2 ps → (∀ x ∈ ps, x < N.length) → ps.length = l.length → WayF nx N.length ps t W → OwnR V 3 gw W.length cw (iv (W.map fun j : Nat => (j : Int))) → Calls Tryz.prog 41 #[.pointer (some ⟨gb, 0, none⟩), .slice a2 ps.length c2, .slice (some ⟨gw, 0, none⟩) W.length cw] V fun e w' => ∃ r : Int, e = .returned (.int .i64 r) ∧ IsK nx ps t W (W.length - 1) r ∧ Below V.heap.size V w') := fun ps t W a2 c2 gw cw V hV hi hp hpl hW ho => keeper_any gb N nx gn cn lo xb bl cp a2 c2 ps gw cw t W V (hG.keep hV) hi hp hW ho hn (by rw [hpl]; exact hl) hb hnl
  have HB : Hid ((∀ i, ∀ x ∈ nx i, x < N.length) ∧ ∀ i, (nx i).Pairwise (· < ·)) := ⟨hb, hlt⟩
  have hgl := hG.lt
  clear hg hl0 hG hb hnl hlt
  go_enter Tryz.func21, Tryz.ntmps21
  go_wp2_with fail
  refine HP.out.mono ?_
  rintro e w1 ⟨hb1, h⟩
  have hc1' : w1.cell? ⟨gb, 1, none⟩ = some (.map (some mb)) := by rw [World.cell?_of_block (w := w) (hb1.block gb hgl)]; exact hc1
  rcases HLK.out with ⟨L, hno⟩ | ⟨t, L, hN, hidx⟩
  · have hlk := L w1 (hb1.block mb hmb)
    clear L hmb hgl hc1
    have HF : Hid (Below w.heap.size w w1 ∧ KrP N nx l x 0 false 140) := ⟨hb1, .inl ⟨.inr hno, rfl, rfl, rfl⟩⟩
    rcases h with ⟨hn0, rfl⟩ | ⟨ps, gs, c, hps, rfl, hnd, hlo⟩
    · clear hb1 hn0
      go_wp2_with fail
      exact bodyPost_ret (v := .tuple #[.int .u64 0, .bool false, .int .i64 140]) (by simp [results, Tryz.results21, go_sem] <;> rfl) rfl ⟨HF.out.1, _, _, _, rfl, HF.out.2⟩
    · clear hb1 hps hnd hlo
      go_wp2_with fail
      exact bodyPost_ret (v := .tuple #[.int .u64 0, .bool false, .int .i64 140]) (by simp [results, Tryz.results21, go_sem] <;> rfl) rfl ⟨HF.out.1, _, _, _, rfl, HF.out.2⟩
  · have hlk := L w1 (hb1.block mb hmb)
    clear L hmb hgl hc1
    rcases h with ⟨hn0, rfl⟩ | ⟨ps, gs, c, hps, rfl, hnd, hlo⟩
    · have HF : Hid (Below w.heap.size w w1 ∧ KrP N nx l x 0 false 140) := ⟨hb1, .inl ⟨.inl hn0, rfl, rfl, rfl⟩⟩
      clear hb1 hn0
      go_wp2_with fail
      exact bodyPost_ret (v := .tuple #[.int .u64 0, .bool false, .int .i64 140]) (by simp [results, Tryz.results21, go_sem] <;> rfl) rfl ⟨HF.out.1, _, _, _, rfl, HF.out.2⟩
    · have hplt := pls_lt hps
      have hxN : x ∈ N := List.mem_of_getElem? hN
      have htL : t < N.length := (List.getElem?_eq_some_iff.1 hN).1
      have htz : (t : Int) < (N.length : Int) := by omega
      have HS2 : Hid (Calls Tryz.prog 30 #[.pointer (some ⟨gb, 0, none⟩), .slice (adr gs) ps.length c, .int .i64 (-1)] w1 (SprE w1 N.length (Bf.all nx (-1) N.length ps))) := HSP.out ps (-1) (adr gs) c w1 hb1 hnd.inI hplt.1 hplt.2
      have HPS : Hid (Sp.pls N l = some ps ∧ x ∈ N ∧ N.idxOf x = t ∧ Below w.heap.size w w1 ∧ InI w1 (adr gs) ps ∧ (∀ x ∈ ps, x < N.length) ∧ ps.length = l.length ∧ BI nx (-1) N.length ps (Bf.all nx (-1) N.length ps) (Bf.all nx (-1) N.length ps).ord.length []) := ⟨hps, hxN, hidx, hb1, hnd.inI, hplt.1, hplt.2, all_BI HB.out.2 HB.out.1 hplt.1⟩
      clear hb1 hps hnd hlo hplt HP HSP hxN hN hidx HLK
      obtain ⟨A, hA⟩ : ∃ A, Bf.all nx (-1) N.length ps = A := ⟨_, rfl⟩
      have HA : Hid (Bf.all nx (-1) N.length ps = A) := hA
      rw [hA] at HS2 HPS
      clear hA
      go_wp2_with fail
      refine HS2.out.mono ?_
      rintro e w2 ⟨gi, gs2, c2, rfl, hby, hor, hgi, hg2, hb2⟩
      obtain ⟨W3, hW3⟩ : ∃ W3, w2.alloc (.cells #[.slice (some ⟨gi, 0, none⟩) N.length N.length, .slice (adr gs2) A.ord.length c2] 65) = W3 := ⟨_, rfl⟩
      have hb3 : Below w2.heap.size w2 W3 := by rw [← hW3]; exact (Below.refl _ _).alloc (Nat.le_refl _) _
      have HW3 : Hid (W3.heap[w2.heap.size]? = some (.cells #[.slice (some ⟨gi, 0, none⟩) N.length N.length, .slice (adr gs2) A.ord.length c2] 65 (0, 0)) ∧ Below w1.heap.size w1 W3 ∧ OwnR W3 3 gi N.length N.length (iv (Sp.byl N.length A)) ∧ w2.heap.size < W3.heap.size) := ⟨by rw [← hW3]; exact heap_alloc_new w2 _, hb2.trans (hb3.mono hb2.size), hby.keep (hb3.block gi hby.lt), by rw [← hW3, al_size]; omega⟩
      have hx30 : W3.cell? ⟨w2.heap.size, 0, none⟩ = some (.slice (some ⟨gi, 0, none⟩) N.length N.length) := by simp [World.cell?, HW3.out.1]
      have hx31 : W3.cell? ⟨w2.heap.size, 1, none⟩ = some (.slice (adr gs2) A.ord.length c2) := by simp [World.cell?, HW3.out.1]
      have HH : Hid (Calls Tryz.prog 31 #[.agg #[.slice (some ⟨gi, 0, none⟩) N.length N.length, .slice (adr gs2) A.ord.length c2], .int .i64 (t : Int)] W3 fun e w' => e = .returned (.bool (decide (t ∈ A.ord))) ∧ Below W3.heap.size W3 w') := has_bf gi N.length A gs2 A.ord.length c2 t W3 HW3.out.2.2.1 htL
      clear hby hor hgi hg2 hb2 hb3 HS2 hlk
      by_cases hin : t ∈ A.ord
      · rw [decide_eq_true hin] at HH
        go_wp2_with fail
        refine HH.out.mono ?_
        rintro e w4 ⟨rfl, hb4⟩
        have hx40 : w4.cell? ⟨w2.heap.size, 0, none⟩ = some (.slice (some ⟨gi, 0, none⟩) N.length N.length) := by simp [World.cell?, hb4.block w2.heap.size HW3.out.2.2.2, HW3.out.1]
        have hx41 : w4.cell? ⟨w2.heap.size, 1, none⟩ = some (.slice (adr gs2) A.ord.length c2) := by simp [World.cell?, hb4.block w2.heap.size HW3.out.2.2.2, HW3.out.1]
        have HWY : Hid (Calls Tryz.prog 33 #[.agg #[.slice (some ⟨gi, 0, none⟩) N.length N.length, .slice (adr gs2) A.ord.length c2], .int .i64 (t : Int)] w4 (WayE w4 (Sp.wy A t))) := way_any nx (-1) N.length ps A HPS.out.2.2.2.2.2.2.2 gi (.slice (adr gs2) A.ord.length c2) t w4 hin (HW3.out.2.2.1.keep (hb4.block gi HW3.out.2.2.1.lt)) hn
        have HB4 : Hid (Below w1.heap.size w1 w4) := belT HW3.out.2.1 hb4
        have HWF : Hid (WayF nx N.length ps t (Sp.wy A t)) := (chn_way HPS.out.2.2.2.2.2.2.2 (A.ps t) t hin (Nat.le_refl _)).1
        clear hb4 HH hx30 hx31 hW3
        go_wp2_with fail
        refine HWY.out.mono ?_
        rintro e w5 ⟨gw, cw, rfl, how, _, hb5⟩
        have HB5 : Hid (Below w1.heap.size w1 w5) := belT HB4.out hb5
        have HK5 : Hid (Calls Tryz.prog 41 #[.pointer (some ⟨gb, 0, none⟩), .slice (adr gs) ps.length c, .slice (some ⟨gw, 0, none⟩) (Sp.wy A t).length cw] w5 fun e w' => ∃ r : Int, e = .returned (.int .i64 r) ∧ IsK nx ps t (Sp.wy A t) ((Sp.wy A t).length - 1) r ∧ Below w5.heap.size w5 w') := HKP.out ps t (Sp.wy A t) (adr gs) c gw cw w5 (belT HPS.out.2.2.2.1 HB5.out) (HPS.out.2.2.2.2.1.keep HB5.out) HPS.out.2.2.2.2.2.1 HPS.out.2.2.2.2.2.2.1 HWF.out how
        clear how hb5 HWY HKP
        go_wp2_with fail
        refine HK5.out.mono ?_
        rintro e w6 ⟨r, rfl, hr, hb6⟩
        have HB6 : Hid (Below w.heap.size w w6) := belT HPS.out.2.2.2.1 (belT HB5.out hb6)
        have HR6 : Hid (IsK nx ps t (Sp.wy A t) ((Sp.wy A t).length - 1) r) := hr
        have HFF : Hid (∀ y b, ((r = -1 ∧ y = 0 ∧ b = false) ∨ ∃ k : Nat, r = k ∧ y = N.getD k 0 ∧ b = true) → KrP N nx l x y b 0) := fun y b h => .inr (.inr ⟨ps, r, HPS.out.1, HPS.out.2.1, by rw [HPS.out.2.2.1, HA.out]; exact hin, by rw [HPS.out.2.2.1, HA.out]; exact hr, rfl, h⟩)
        rcases hr with ⟨hr1, _⟩ | ⟨j, k, _, hjk, hr1, _⟩
        · subst hr1
          clear hb6 HK5
          go_wp2_with fail
          exact bodyPost_ret (v := .tuple #[.int .u64 0, .bool false, .int .i64 0]) (by simp [results, Tryz.results21, go_sem] <;> rfl) rfl ⟨HB6.out, _, _, _, rfl, HFF.out _ _ (by simp)⟩
        · subst hr1
          have hkL : k < N.length := HWF.out.bd k (List.mem_of_getElem? hjk)
          have hkz : (k : Int) < (N.length : Int) := by omega
          have hkn : ((k : Int) == -1) = false := by simp
          have HG6 := HG.out.keep HB6.out
          have hc60 := HG6.c0
          obtain ⟨y, hy⟩ : ∃ y, N[k]? = some y := ⟨_, List.getElem?_eq_getElem hkL⟩
          obtain ⟨gN, rfl⟩ : ∃ g, gn = some g := by
            cases gn with
            | some g => exact ⟨g, rfl⟩
            | none => have := HG.out.nds.1 rfl; subst this; simp at hkL
          have hcy : w6.cell? ⟨gN, k, none⟩ = some (.int .u64 y) := (HG6.nds.2 gN rfl).cell (by simp [rv, hy])
          have hadN : adr (some gN) = some ⟨gN, 0, none⟩ := rfl
          have HYY : Hid (KrP N nx l x y true 0) := HFF.out _ _ (.inr ⟨k, rfl, by rw [List.getD_eq_getElem?_getD, hy]; rfl, rfl⟩)
          clear hb6 HK5 HG6 hjk hy
          go_wp2_with fail
          exact bodyPost_ret (v := .tuple #[.int .u64 y, .bool true, .int .i64 0]) (by simp [results, Tryz.results21, go_sem] <;> rfl) rfl ⟨HB6.out, _, _, _, rfl, HYY.out⟩
      · rw [decide_eq_false hin] at HH
        have HF : Hid (KrP N nx l x 0 false 142) := .inr (.inl ⟨ps, HPS.out.1, HPS.out.2.1, by rw [HPS.out.2.2.1, HA.out]; exact hin, rfl, rfl, rfl⟩)
        go_wp2_with fail
        refine HH.out.mono ?_
        rintro e w4 ⟨rfl, hb4⟩
        have HB4 : Hid (Below w.heap.size w w4) := belT HPS.out.2.2.2.1 (belT HW3.out.2.1 hb4)
        clear hb4 HH
        go_wp2_with fail
        exact bodyPost_ret (v := .tuple #[.int .u64 0, .bool false, .int .i64 142]) (by simp [results, Tryz.results21, go_sem] <;> rfl) rfl ⟨HB4.out, _, _, _, rfl, HF.out⟩
end Go.Proofs.YtikhpbidbcfedaaGreat

