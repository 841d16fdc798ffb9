/- graph.Keeper: what it tells. -/
import Derived.Test.YtikhpbidbcfedaaGreatKp34
import Derived.Test.YtikhpbidbcfedaaGreatKp30
import Derived.Test.YtikhpbidbcfedaaGreatKp24
import Derived.Test.YtikhpbidbcfedaaGreatKp32
namespace Go.Proofs.YtikhpbidbcfedaaGreat
open Go.RowKit Go.ChangeMaps

def Sp.wy (s : Bf) (n : Nat) : List Nat := (s.chn (s.ps n) n).reverse
def KrP (N : List Int) (nx : Nat → List Nat) (l : List Int) (x : Int) (y : Int) (b : Bool) (er : Int) : Prop :=
  ((Sp.pls N l = none ∨ x ∉ N) ∧ y = 0 ∧ b = false ∧ er = 140) ∨
  (∃ ps, Sp.pls N l = some ps ∧ x ∈ N ∧ N.idxOf x ∉ (Bf.all nx (-1) N.length ps).ord ∧ y = 0 ∧ b = false ∧ er = 142) ∨
  (∃ ps r, Sp.pls N l = some ps ∧ x ∈ N ∧ N.idxOf x ∈ (Bf.all nx (-1) N.length ps).ord ∧ IsK nx ps (N.idxOf x) (Sp.wy (Bf.all nx (-1) N.length ps) (N.idxOf x)) ((Sp.wy (Bf.all nx (-1) N.length ps) (N.idxOf x)).length - 1) r ∧ er = 0 ∧ ((r = -1 ∧ y = 0 ∧ b = false) ∨ ∃ k : Nat, r = k ∧ y = N.getD k 0 ∧ b = true))
theorem KrP.one {N : List Int} {nx : Nat → List Nat} {l : List Int} {x y y' : Int} {b b' : Bool} {er er' : Int} (h : KrP N nx l x y b er) (h' : KrP N nx l x y' b' er') : y = y' ∧ b = b' ∧ er = er' := by
  rcases h with ⟨h1, h2, h3, h4⟩ | ⟨ps, h1, h2, h3, h4, h5, h6⟩ | ⟨ps, r, h1, h2, h3, h4, h5, h6⟩ <;>
  rcases h' with ⟨g1, g2, g3, g4⟩ | ⟨qs, g1, g2, g3, g4, g5, g6⟩ | ⟨qs, q, g1, g2, g3, g4, g5, g6⟩
  · exact ⟨h2.trans g2.symm, h3.trans g3.symm, h4.trans g4.symm⟩
  · rcases h1 with h1 | h1; rw [h1] at g1; cases g1; exact absurd g2 h1
  · rcases h1 with h1 | h1; rw [h1] at g1; cases g1; exact absurd g2 h1
  · rcases g1 with g1 | g1; rw [g1] at h1; cases h1; exact absurd h2 g1
  · exact ⟨h4.trans g4.symm, h5.trans g5.symm, h6.trans g6.symm⟩
  · rw [h1] at g1; injection g1 with g1; subst g1; exact absurd g3 h3
  · rcases g1 with g1 | g1; rw [g1] at h1; cases h1; exact absurd h2 g1
  · rw [h1] at g1; injection g1 with g1; subst g1; exact absurd h3 g3
  · rw [h1] at g1; injection g1 with g1; subst g1
    have e := h4.one g4
    subst e
    refine ⟨?_, ?_, h5.trans g5.symm⟩
    · rcases h6 with ⟨e1, e2, _⟩ | ⟨k, e1, e2, _⟩ <;> rcases g6 with ⟨f1, f2, _⟩ | ⟨q, f1, f2, _⟩
      · rw [e2, f2]
      · omega
      · omega
      · rw [e2, f2, show k = q by omega]
    · rcases h6 with ⟨e1, _, e2⟩ | ⟨k, e1, _, e2⟩ <;> rcases g6 with ⟨f1, _, f2⟩ | ⟨q, f1, _, f2⟩
      · rw [e2, f2]
      · omega
      · omega
      · rw [e2, f2]
def KrE (w : World) (N : List Int) (nx : Nat → List Nat) (l : List Int) (x : Int) (e : Ending) (w' : World) : Prop := Below w.heap.size w w' ∧ ∃ y b er, e = .returned (.tuple #[.int .u64 y, .bool b, .int .i64 er]) ∧ KrP N nx l x y b er

set_option maxRecDepth 100000 in
set_option maxHeartbeats 8000000 in
theorem pKeeper_any (D : Nat → Prop) (gb : Nat) (N : List Int) (nx : Nat → List Nat) (a : Option Addr) (cap : Nat) (l : List Int) (x : Int) (w : World) (hg : GrE w D gb N nx) (hl0 : RefsAt w w.heap.size a l) (hx0 : 0 ≤ x) (hx1 : x < 18446744073709551616) (hl : l.length * 8 ≤ 140737488355328) (hn : N.length ≤ 4096) (hb : ∀ i, ∀ x ∈ nx i, x < N.length) (hnl : ∀ p, (nx p).length ≤ 4096) (hlt : ∀ i, (nx i).Pairwise (· < ·)) :
    Calls Tryz.prog 21 #[.pointer (some ⟨gb, 0, none⟩), .slice a l.length cap, .int .u64 x] w (KrE w N nx l x) := by
  obtain ⟨gn, cn, lo, xb, bl, cp, hG⟩ := hg.gr
  have HG : Hid (GR w gb N nx gn cn lo xb bl cp) := hG
  obtain ⟨mb, HP, HLK, hc1, hmb⟩ : ∃ mb, Hid (Calls Tryz.prog 28 #[.pointer (some ⟨gb, 0, none⟩), .slice a l.length cap] w (PlE w N l)) ∧ Hid (((∀ W : World, W.heap[mb]? = w.heap[mb]? → (Instr.lookup 69 (.map (some mb)) (.int .u64 x) true).run Tryz.prog W = .ok (.tuple #[.int .i64 0, .bool false]) W) ∧ x ∉ N) ∨ ∃ t : Nat, (∀ W : World, W.heap[mb]? = w.heap[mb]? → (Instr.lookup 69 (.map (some mb)) (.int .u64 x) true).run Tryz.prog W = .ok (.tuple #[.int .i64 t, .bool true]) W) ∧ N[t]? = some x ∧ N.idxOf x = t) ∧ w.cell? ⟨gb, 1, none⟩ = some (.map (some mb)) ∧ mb < w.heap.size := by
    obtain ⟨gs, c, mb, xb2, G, es, ck, bl2, cp2, lo2, h⟩ := hg
    refine ⟨mb, placesOf_any gb mb xb2 N.length _ G es ck N a cap l w.heap.size w h.cn hl0 (Nat.le_refl _) hl, ?_, h.cn.cell.1, (Array.getElem?_eq_some_iff.1 h.cn.mp.blk).1⟩
    rcases h.cn.look hx0 hx1 with h1 | ⟨t, h1, h2⟩
    · exact .inl h1
    · exact .inr ⟨t, h1, h2, idx_of h.cn.nd h2⟩
  have HSP : Hid (∀ (ps : List Nat) (wo : Int) (a2 : Option Addr) (c2 : Nat) (W : World), Below w.heap.size w W → InI W a2 ps → (∀ x ∈ ps, x < N.length) → ps.length = l.length → Calls Tryz.prog 30 #[.pointer (some ⟨gb, 0, none⟩), .slice a2 ps.length c2, .int .i64 wo] W (SprE W N.length (Bf.all nx wo N.length ps))) := fun ps wo a2 c2 W hW hi hp hpl => spread_any gb N nx gn cn lo xb bl cp a2 c2 ps wo W (hG.keep hW) hi hp hb hn (by rw [hpl]; exact hl) hnl
  have HKP : Hid (∀ (ps : List Nat) (t : Nat) (W : List Nat) (a2 : Option Addr) (c2 gw cw : Nat) (V : World), Below w.heap.size w V → InI V a2 ps → (∀ x ∈ ps, x < N.length) → ps.length = l.length → WayF nx N.length ps t W → OwnR V 3 gw W.length cw (iv (W.map fun j : Nat => (j : Int))) → Calls Tryz.prog 41 #[.pointer (some ⟨gb, 0, none⟩), .slice a2 ps.length c2, .slice (some ⟨gw, 0, none⟩) W.length cw] V fun e w' => ∃ r : Int, e = .returned (.int .i64 r) ∧ IsK nx ps t W (W.length - 1) r ∧ Below V.heap.size V w') := fun ps t W a2 c2 gw cw V hV hi hp hpl hW ho => keeper_any gb N nx gn cn lo xb bl cp a2 c2 ps gw cw t W V (hG.keep hV) hi hp hW ho hn (by rw [hpl]; exact hl) hb hnl
  have HB : Hid ((∀ i, ∀ x ∈ nx i, x < N.length) ∧ ∀ i, (nx i).Pairwise (· < ·)) := ⟨hb, hlt⟩
  have hgl := hG.lt
  clear hg hl0 hG hb hnl hlt
  go_enter Tryz.func21, Tryz.ntmps21
  go_wp2_with fail
  refine HP.out.mono ?_
  rintro e w1 ⟨hb1, h⟩
  have hc1' : w1.cell? ⟨gb, 1, none⟩ = some (.map (some mb)) := by rw [World.cell?_of_block (w := w) (hb1.block gb hgl)]; exact hc1
  rcases HLK.out with ⟨L, hno⟩ | ⟨t, L, hN, hidx⟩
  · have hlk := L w1 (hb1.block mb hmb)
    clear L hmb hgl hc1
    have HF : Hid (Below w.heap.size w w1 ∧ KrP N nx l x 0 false 140) := ⟨hb1, .inl ⟨.inr hno, rfl, rfl, rfl⟩⟩
    rcases h with ⟨hn0, rfl⟩ | ⟨ps, gs, c, hps, rfl, hnd, hlo⟩
    · clear hb1 hn0
      go_wp2_with fail
      exact bodyPost_ret (v := .tuple #[.int .u64 0, .bool false, .int .i64 140]) (by simp [results, Tryz.results21, go_sem] <;> rfl) rfl ⟨HF.out.1, _, _, _, rfl, HF.out.2⟩
    · clear hb1 hps hnd hlo
      go_wp2_with fail
      exact bodyPost_ret (v := .tuple #[.int .u64 0, .bool false, .int .i64 140]) (by simp [results, Tryz.results21, go_sem] <;> rfl) rfl ⟨HF.out.1, _, _, _, rfl, HF.out.2⟩
  · have hlk := L w1 (hb1.block mb hmb)
    clear L hmb hgl hc1
    rcases h with ⟨hn0, rfl⟩ | ⟨ps, gs, c, hps, rfl, hnd, hlo⟩
    · have HF : Hid (Below w.heap.size w w1 ∧ KrP N nx l x 0 false 140) := ⟨hb1, .inl ⟨.inl hn0, rfl, rfl, rfl⟩⟩
      clear hb1 hn0
      go_wp2_with fail
      exact bodyPost_ret (v := .tuple #[.int .u64 0, .bool false, .int .i64 140]) (by simp [results, Tryz.results21, go_sem] <;> rfl) rfl ⟨HF.out.1, _, _, _, rfl, HF.out.2⟩
    · have hplt := pls_lt hps
      have hxN : x ∈ N := List.mem_of_getElem? hN
      have htL : t < N.length := (List.getElem?_eq_some_iff.1 hN).1
      have htz : (t : Int) < (N.length : Int) := by omega
      have HS2 : Hid (Calls Tryz.prog 30 #[.pointer (some ⟨gb, 0, none⟩), .slice (adr gs) ps.length c, .int .i64 (-1)] w1 (SprE w1 N.length (Bf.all nx (-1) N.length ps))) := HSP.out ps (-1) (adr gs) c w1 hb1 hnd.inI hplt.1 hplt.2
      have HPS : Hid (Sp.pls N l = some ps ∧ x ∈ N ∧ N.idxOf x = t ∧ Below w.heap.size w w1 ∧ InI w1 (adr gs) ps ∧ (∀ x ∈ ps, x < N.length) ∧ ps.length = l.length ∧ BI nx (-1) N.length ps (Bf.all nx (-1) N.length ps) (Bf.all nx (-1) N.length ps).ord.length []) := ⟨hps, hxN, hidx, hb1, hnd.inI, hplt.1, hplt.2, all_BI HB.out.2 HB.out.1 hplt.1⟩
      clear hb1 hps hnd hlo hplt HP HSP hxN hN hidx HLK
      obtain ⟨A, hA⟩ : ∃ A, Bf.all nx (-1) N.length ps = A := ⟨_, rfl⟩
      have HA : Hid (Bf.all nx (-1) N.length ps = A) := hA
      rw [hA] at HS2 HPS
      clear hA
      go_wp2_with fail
      refine HS2.out.mono ?_
      rintro e w2 ⟨gi, gs2, c2, rfl, hby, hor, hgi, hg2, hb2⟩
      obtain ⟨W3, hW3⟩ : ∃ W3, w2.alloc (.cells #[.slice (some ⟨gi, 0, none⟩) N.length N.length, .slice (adr gs2) A.ord.length c2] 65) = W3 := ⟨_, rfl⟩
      have hb3 : Below w2.heap.size w2 W3 := by rw [← hW3]; exact (Below.refl _ _).alloc (Nat.le_refl _) _
      have HW3 : Hid (W3.heap[w2.heap.size]? = some (.cells #[.slice (some ⟨gi, 0, none⟩) N.length N.length, .slice (adr gs2) A.ord.length c2] 65 (0, 0)) ∧ Below w1.heap.size w1 W3 ∧ OwnR W3 3 gi N.length N.length (iv (Sp.byl N.length A)) ∧ w2.heap.size < W3.heap.size) := ⟨by rw [← hW3]; exact heap_alloc_new w2 _, hb2.trans (hb3.mono hb2.size), hby.keep (hb3.block gi hby.lt), by rw [← hW3, al_size]; omega⟩
      have hx30 : W3.cell? ⟨w2.heap.size, 0, none⟩ = some (.slice (some ⟨gi, 0, none⟩) N.length N.length) := by simp [World.cell?, HW3.out.1]
      have hx31 : W3.cell? ⟨w2.heap.size, 1, none⟩ = some (.slice (adr gs2) A.ord.length c2) := by simp [World.cell?, HW3.out.1]
      have HH : Hid (Calls Tryz.prog 31 #[.agg #[.slice (some ⟨gi, 0, none⟩) N.length N.length, .slice (adr gs2) A.ord.length c2], .int .i64 (t : Int)] W3 fun e w' => e = .returned (.bool (decide (t ∈ A.ord))) ∧ Below W3.heap.size W3 w') := has_bf gi N.length A gs2 A.ord.length c2 t W3 HW3.out.2.2.1 htL
      clear hby hor hgi hg2 hb2 hb3 HS2 hlk
      by_cases hin : t ∈ A.ord
      · rw [decide_eq_true hin] at HH
        go_wp2_with fail
        refine HH.out.mono ?_
        rintro e w4 ⟨rfl, hb4⟩
        have hx40 : w4.cell? ⟨w2.heap.size, 0, none⟩ = some (.slice (some ⟨gi, 0, none⟩) N.length N.length) := by simp [World.cell?, hb4.block w2.heap.size HW3.out.2.2.2, HW3.out.1]
        have hx41 : w4.cell? ⟨w2.heap.size, 1, none⟩ = some (.slice (adr gs2) A.ord.length c2) := by simp [World.cell?, hb4.block w2.heap.size HW3.out.2.2.2, HW3.out.1]
        have HWY : Hid (Calls Tryz.prog 33 #[.agg #[.slice (some ⟨gi, 0, none⟩) N.length N.length, .slice (adr gs2) A.ord.length c2], .int .i64 (t : Int)] w4 (WayE w4 (Sp.wy A t))) := way_any nx (-1) N.length ps A HPS.out.2.2.2.2.2.2.2 gi (.slice (adr gs2) A.ord.length c2) t w4 hin (HW3.out.2.2.1.keep (hb4.block gi HW3.out.2.2.1.lt)) hn
        have HB4 : Hid (Below w1.heap.size w1 w4) := belT HW3.out.2.1 hb4
        have HWF : Hid (WayF nx N.length ps t (Sp.wy A t)) := (chn_way HPS.out.2.2.2.2.2.2.2 (A.ps t) t hin (Nat.le_refl _)).1
        clear hb4 HH hx30 hx31 hW3
        go_wp2_with fail
        refine HWY.out.mono ?_
        rintro e w5 ⟨gw, cw, rfl, how, _, hb5⟩
        have HB5 : Hid (Below w1.heap.size w1 w5) := belT HB4.out hb5
        have HK5 : Hid (Calls Tryz.prog 41 #[.pointer (some ⟨gb, 0, none⟩), .slice (adr gs) ps.length c, .slice (some ⟨gw, 0, none⟩) (Sp.wy A t).length cw] w5 fun e w' => ∃ r : Int, e = .returned (.int .i64 r) ∧ IsK nx ps t (Sp.wy A t) ((Sp.wy A t).length - 1) r ∧ Below w5.heap.size w5 w') := HKP.out ps t (Sp.wy A t) (adr gs) c gw cw w5 (belT HPS.out.2.2.2.1 HB5.out) (HPS.out.2.2.2.2.1.keep HB5.out) HPS.out.2.2.2.2.2.1 HPS.out.2.2.2.2.2.2.1 HWF.out how
        clear how hb5 HWY HKP
        go_wp2_with fail
        refine HK5.out.mono ?_
        rintro e w6 ⟨r, rfl, hr, hb6⟩
        have HB6 : Hid (Below w.heap.size w w6) := belT HPS.out.2.2.2.1 (belT HB5.out hb6)
        have HR6 : Hid (IsK nx ps t (Sp.wy A t) ((Sp.wy A t).length - 1) r) := hr
        have HFF : Hid (∀ y b, ((r = -1 ∧ y = 0 ∧ b = false) ∨ ∃ k : Nat, r = k ∧ y = N.getD k 0 ∧ b = true) → KrP N nx l x y b 0) := fun y b h => .inr (.inr ⟨ps, r, HPS.out.1, HPS.out.2.1, by rw [HPS.out.2.2.1, HA.out]; exact hin, by rw [HPS.out.2.2.1, HA.out]; exact hr, rfl, h⟩)
        rcases hr with ⟨hr1, _⟩ | ⟨j, k, _, hjk, hr1, _⟩
        · subst hr1
          clear hb6 HK5
          go_wp2_with fail
          exact bodyPost_ret (v := .tuple #[.int .u64 0, .bool false, .int .i64 0]) (by simp [results, Tryz.results21, go_sem] <;> rfl) rfl ⟨HB6.out, _, _, _, rfl, HFF.out _ _ (by simp)⟩
        · subst hr1
          have hkL : k < N.length := HWF.out.bd k (List.mem_of_getElem? hjk)
          have hkz : (k : Int) < (N.length : Int) := by omega
          have hkn : ((k : Int) == -1) = false := by simp
          have HG6 := HG.out.keep HB6.out
          have hc60 := HG6.c0
          obtain ⟨y, hy⟩ : ∃ y, N[k]? = some y := ⟨_, List.getElem?_eq_getElem hkL⟩
          obtain ⟨gN, rfl⟩ : ∃ g, gn = some g := by
            cases gn with
            | some g => exact ⟨g, rfl⟩
            | none => have := HG.out.nds.1 rfl; subst this; simp at hkL
          have hcy : w6.cell? ⟨gN, k, none⟩ = some (.int .u64 y) := (HG6.nds.2 gN rfl).cell (by simp [rv, hy])
          have hadN : adr (some gN) = some ⟨gN, 0, none⟩ := rfl
          have HYY : Hid (KrP N nx l x y true 0) := HFF.out _ _ (.inr ⟨k, rfl, by rw [List.getD_eq_getElem?_getD, hy]; rfl, rfl⟩)
          clear hb6 HK5 HG6 hjk hy
          go_wp2_with fail
          exact bodyPost_ret (v := .tuple #[.int .u64 y, .bool true, .int .i64 0]) (by simp [results, Tryz.results21, go_sem] <;> rfl) rfl ⟨HB6.out, _, _, _, rfl, HYY.out⟩
      · rw [decide_eq_false hin] at HH
        have HF : Hid (KrP N nx l x 0 false 142) := .inr (.inl ⟨ps, HPS.out.1, HPS.out.2.1, by rw [HPS.out.2.2.1, HA.out]; exact hin, rfl, rfl, rfl⟩)
        go_wp2_with fail
        refine HH.out.mono ?_
        rintro e w4 ⟨rfl, hb4⟩
        have HB4 : Hid (Below w.heap.size w w4) := belT HPS.out.2.2.2.1 (belT HW3.out.2.1 hb4)
        clear hb4 HH
        go_wp2_with fail
        exact bodyPost_ret (v := .tuple #[.int .u64 0, .bool false, .int .i64 142]) (by simp [results, Tryz.results21, go_sem] <;> rfl) rfl ⟨HB4.out, _, _, _, rfl, HF.out⟩
end Go.Proofs.YtikhpbidbcfedaaGreat

/- tenonlaw14.lives: the document's first example. -/
namespace Go.Proofs.YtikhpbidbcfedaaGreat
open Go.RowKit Go.ChangeMaps

def E0 : List (Int × Int) := [(1, 2), (2, 3), (3, 2), (1, 4)]
def N0 : List Int := [1, 2, 3, 4]
theorem ex_srt : Sp.srt [4, 2, 3, 1] = N0 := ext_ltI (srt_lt (by decide)) (by decide) fun x => by rw [srt_mem, N0]; simp; omega
theorem ex_mk : Sp.mkE [4, 2, 3, 1] E0 = 0 := by decide +kernel
theorem ex_rgs : Sp.rgs (Sp.nx N0 E0) 4 4 = [1, 2] := by decide
theorem ex_npt : Sp.npt (Sp.nx N0 E0) 4 = 3 := by decide
theorem ex_ord : Sp.ord (Sp.nx N0 E0) 4 4 = none := by decide +kernel
theorem ex_path : Sp.path N0 (Sp.nx N0 E0) 1 3 = some [1, 2, 3] := by decide
theorem ex_keeps : Sp.keeps N0 (Sp.nx N0 E0) [1] 2 = some [2, 3] := by decide
theorem ex_nb (i x : Nat) (h : x ∈ Sp.nx N0 E0 i) : x < N0.length := (nx_mem.1 h).1
theorem ex_rch (wo : Int) (x : Nat) : Rch (Sp.nx N0 E0) wo [0] x ↔ x ∈ (Bf.all (Sp.nx N0 E0) wo 4 [0]).ord := (all_rch (L := 4) (nx_lt N0 E0) (fun i x h => ex_nb i x h) (by decide)).symm
theorem ex_krp : KrP N0 (Sp.nx N0 E0) [1] 3 2 true 0 := by
  refine .inr (.inr ⟨[0], 1, by decide, by decide, by decide, ?_, rfl, .inr ⟨1, rfl, rfl, rfl⟩⟩)
  have e : Sp.wy (Bf.all (Sp.nx N0 E0) (-1) N0.length [0]) (N0.idxOf 3) = [0, 1, 2] := by decide
  rw [e]
  refine .inr ⟨1, 1, by decide, rfl, rfl, ⟨by decide, (ex_rch _ _).2 (by decide), fun h => ?_⟩, fun i x h1 h2 _ => ?_⟩
  · have := (ex_rch _ _).1 h
    revert this; decide
  · simp at h2; omega

set_option maxRecDepth 100000 in
set_option maxHeartbeats 8000000 in
theorem lives_any (w : World) : Calls Tryz.prog 8 #[] w fun e w' => e = .returned (.bool true) ∧ Below w.heap.size w w' := by
  obtain ⟨W2, hW2⟩ : ∃ W2, (w.alloc (.cells #[.int .u64 4, .int .u64 2, .int .u64 3, .int .u64 1] 25)).alloc (.cells #[.int .u64 1, .int .u64 2, .int .u64 2, .int .u64 3, .int .u64 3, .int .u64 2, .int .u64 1, .int .u64 4] 38) = W2 := ⟨_, rfl⟩
  have hb2 : Below w.heap.size w W2 := by rw [← hW2]; exact ((Below.refl _ _).alloc (Nat.le_refl _) _).alloc (by rw [al_size]; omega) _
  have hz2 : W2.heap.size = w.heap.size + 1 + 1 := by rw [← hW2, al_size, al_size]
  have h20 : W2.heap[w.heap.size]? = some (.cells #[.int .u64 4, .int .u64 2, .int .u64 3, .int .u64 1] 25 (0, 0)) := by rw [← hW2]; exact (Below.heap_alloc _ _ _ (by rw [al_size]; omega)).trans (heap_alloc_new w _)
  have h21 : W2.heap[w.heap.size + 1]? = some (.cells #[.int .u64 1, .int .u64 2, .int .u64 2, .int .u64 3, .int .u64 3, .int .u64 2, .int .u64 1, .int .u64 4] 38 (0, 0)) := by
    rw [← hW2]; have := heap_alloc_new (w.alloc (.cells #[.int .u64 4, .int .u64 2, .int .u64 3, .int .u64 1] 25)) (.cells #[.int .u64 1, .int .u64 2, .int .u64 2, .int .u64 3, .int .u64 3, .int .u64 2, .int .u64 1, .int .u64 4] 38 (0, 0)); rwa [al_size] at this
  have hRA : RefsAt W2 W2.heap.size (some ⟨w.heap.size, 0, none⟩) [4, 2, 3, 1] := by
    refine ⟨fun t u hu => ⟨w.heap.size, 0, rfl, by omega, ?_⟩, fun h => (by cases h), fun x hx => by simp at hx; omega⟩
    rcases t with _ | _ | _ | _ | t <;> simp [World.cell?, h20, rv] at hu ⊢
    all_goals exact hu
  have hEA : EdgesAt W2 W2.heap.size (some ⟨w.heap.size + 1, 0, none⟩) E0 := by
    refine ⟨fun t e he => ⟨w.heap.size + 1, 0, rfl, by omega, ?_⟩, fun h => (by cases h), fun x hx => by simp [E0] at hx; rcases hx with rfl | rfl | rfl | rfl <;> decide⟩
    rcases t with _ | _ | _ | _ | t <;> simp [World.cell?, h21, E0] at he ⊢
    all_goals subst he; exact ⟨rfl, rfl⟩
  have HM := Make_any (some ⟨w.heap.size, 0, none⟩) 4 [4, 2, 3, 1] (some ⟨w.heap.size + 1, 0, none⟩) 4 E0 W2.heap.size W2 hRA hEA (Nat.le_refl _) (by decide) (by decide)
  rw [ex_mk] at HM
  have HM : Hid (Calls Tryz.prog 9 #[.slice (some ⟨w.heap.size, 0, none⟩) 4 4, .slice (some ⟨w.heap.size + 1, 0, none⟩) 4 4] W2 fun e w' => ∃ p, e = .returned (.tuple #[.pointer p, .int .i64 0]) ∧ MkE W2 [4, 2, 3, 1] E0 p w') := HM
  have HB2 : Hid (Below w.heap.size w W2) := hb2
  clear hb2 h20 h21 hRA hEA
  go_enter Tryz.func8, Tryz.ntmps8
  go_wp2_with fail
  refine HM.out.mono ?_
  rintro e w3 ⟨p, rfl, hb3, hok, -⟩
  obtain ⟨gb, rfl, hg⟩ := hok ex_mk
  rw [ex_srt] at hg
  have hnl : ∀ p, (Sp.nx N0 E0 p).length ≤ 4096 := fun p => by
    have := List.length_filter_le (fun j => decide ((N0.getD p 0, N0.getD j 0) ∈ E0)) (List.range N0.length)
    simp [Sp.nx] at this ⊢
    have h4 : N0.length = 4 := rfl
    omega
  have HGE : Hid (∀ W : World, Below w3.heap.size w3 W → ∃ D, GrE W D gb N0 (Sp.nx N0 E0)) := fun W hW => ⟨_, hg.keep (fun k hk => hW.block k hk.2)⟩
  have HKP : Hid (∀ (W : World) (a : Nat), Below w3.heap.size w3 W → RefsAt W W.heap.size (some ⟨a, 0, none⟩) [1] → Calls Tryz.prog 20 #[.pointer (some ⟨gb, 0, none⟩), .slice (some ⟨a, 0, none⟩) 1 1, .int .u64 2] W (ReE W (some [2, 3]) 140)) := fun W a hW hr => by
    obtain ⟨D, h⟩ := HGE.out W hW
    have := pKeeps_any D gb N0 (Sp.nx N0 E0) (some ⟨a, 0, none⟩) 1 [1] 2 W h hr (by decide) (by decide) (by decide) (by decide) ex_nb hnl
    rwa [ex_keeps] at this
  have HKR : Hid (∀ (W : World) (a : Nat), Below w3.heap.size w3 W → RefsAt W W.heap.size (some ⟨a, 0, none⟩) [1] → Calls Tryz.prog 21 #[.pointer (some ⟨gb, 0, none⟩), .slice (some ⟨a, 0, none⟩) 1 1, .int .u64 3] W fun e w' => e = .returned (.tuple #[.int .u64 2, .bool true, .int .i64 0]) ∧ Below W.heap.size W w') := fun W a hW hr => by
    obtain ⟨D, h⟩ := HGE.out W hW
    refine (pKeeper_any D gb N0 (Sp.nx N0 E0) (some ⟨a, 0, none⟩) 1 [1] 3 W h hr (by decide) (by decide) (by decide) (by decide) ex_nb hnl (nx_lt N0 E0)).mono ?_
    rintro e w' ⟨q1, y, b, er, rfl, q2⟩
    obtain ⟨rfl, rfl, rfl⟩ := q2.one ex_krp
    exact ⟨rfl, q1⟩
  have HRI : Hid (∀ W : World, Below w3.heap.size w3 W → Calls Tryz.prog 19 #[.pointer (some ⟨gb, 0, none⟩)] W (RiE W [2, 3])) := fun W hW => by
    obtain ⟨D, h⟩ := HGE.out W hW
    have := Ring_any gb N0 (Sp.nx N0 E0) W h.gr ex_nb (by decide) hnl (nx_lt N0 E0)
    rwa [show N0.length = 4 from rfl, ex_rgs, show Sp.rfs N0 [1, 2] = [2, 3] from rfl] at this
  have HPA : Hid (∀ W : World, Below w3.heap.size w3 W → Calls Tryz.prog 11 #[.pointer (some ⟨gb, 0, none⟩), .int .u64 1, .int .u64 3] W (ReE W (some [1, 2, 3]) (Sp.pathE N0 1 3))) := fun W hW => by
    obtain ⟨D, h⟩ := HGE.out W hW
    have := pPath_any D gb N0 (Sp.nx N0 E0) 1 3 W h (by decide) (by decide) (by decide) ex_nb hnl (nx_lt N0 E0)
    rwa [ex_path] at this
  have HOR : Hid (∀ W : World, Below w3.heap.size w3 W → Calls Tryz.prog 18 #[.pointer (some ⟨gb, 0, none⟩)] W (OrE W none)) := fun W hW => by
    obtain ⟨D, h⟩ := HGE.out W hW
    have := Order_any gb N0 (Sp.nx N0 E0) W h.gr ex_nb (by decide) hnl
    rwa [show N0.length = 4 from rfl, ex_ord] at this
  have HPT : Hid (∀ W : World, Below w3.heap.size w3 W → Calls Tryz.prog 15 #[.pointer (some ⟨gb, 0, none⟩)] W fun e w' => ∃ a c, e = .returned (.slice a 3 c) ∧ Below W.heap.size W w') := fun W hW => by
    obtain ⟨D, h⟩ := HGE.out W hW
    have := Parts_any gb N0 (Sp.nx N0 E0) W h.grp ex_nb (by decide) hnl (nx_lt N0 E0)
    rwa [show N0.length = 4 from rfl, ex_npt] at this
  have HB3 : Hid (Below w.heap.size w w3) := belT HB2.out hb3
  have HRN : Hid (∀ W : World, RefsAt (W.alloc (.cells #[.int .u64 1] 25)) (W.alloc (.cells #[.int .u64 1] 25)).heap.size (some ⟨W.heap.size, 0, none⟩) [1]) := fun W => by
    have hn := heap_alloc_new W (.cells #[.int .u64 1] 25 (0, 0))
    refine ⟨fun t u hu => ⟨W.heap.size, 0, rfl, by rw [al_size]; omega, ?_⟩, fun h => (by cases h), fun x hx => by simp at hx; omega⟩
    rcases t with _ | t
    · simp only [World.cell?, hn]; simp [rv] at hu ⊢; exact hu
    · simp [rv] at hu
  have HZ : Hid (∀ W : World, Below w3.heap.size w3 W → Below w3.heap.size w3 (W.alloc (.cells #[.int .u64 1] 25))) := fun W hW => hW.alloc hW.size _
  clear hb3 hok hg hnl HM HGE hW2 hz2
  go_wp2_with fail
  have HC1 := HKP.out _ w3.heap.size (HZ.out w3 (Below.refl _ _)) (HRN.out w3)
  refine HC1.mono ?_
  rintro e w4 ⟨hb4, h⟩
  rcases h with ⟨h, _⟩ | ⟨l, gs, c, hl, rfl, hn1, _⟩
  · cases h
  injection hl with hl
  subst hl
  have HB4 : Hid (Below w3.heap.size w3 w4 ∧ NdR w4 gs c [2, 3]) := ⟨belT (HZ.out w3 (Below.refl _ _)) hb4, hn1⟩
  clear hb4 hn1 HC1
  go_wp2_with fail
  have HC2 := HKR.out _ w4.heap.size (HZ.out w4 HB4.out.1) (HRN.out w4)
  refine HC2.mono ?_
  rintro e w5 ⟨rfl, hb5⟩
  have hb45 : Below w4.heap.size w4 w5 := by
    have h1 : Below w4.heap.size w4 (w4.alloc (.cells #[.int .u64 1] 25)) := (Below.refl _ _).alloc (Nat.le_refl _) _
    exact belT h1 hb5
  have HB5 : Hid (Below w3.heap.size w3 w5 ∧ NdR w5 gs c [2, 3]) := ⟨belT HB4.out.1 hb45, HB4.out.2.keep (fun g hg => hb45.block g (HB4.out.2.2 g hg).lt)⟩
  clear hb5 hb45 HC2 HB4
  go_wp2_with fail
  refine (HRI.out w5 HB5.out.1).mono ?_
  rintro e w6 ⟨gs6, c6, rfl, hn6, _, hb6⟩
  have HB6 : Hid (Below w3.heap.size w3 w6 ∧ NdR w6 gs c [2, 3] ∧ NdR w6 gs6 c6 [2, 3]) := ⟨belT HB5.out.1 hb6, HB5.out.2.keep (fun g hg => hb6.block g (HB5.out.2.2 g hg).lt), hn6⟩
  clear hn6 hb6 HB5
  go_wp2_with fail
  refine (HPA.out w6 HB6.out.1).mono ?_
  rintro e w7 ⟨hb7, h⟩
  rcases h with ⟨h, _⟩ | ⟨l7, gs7, c7, hl7, rfl, hn7, _⟩
  · cases h
  injection hl7 with hl7
  subst hl7
  have HB7 : Hid (Below w3.heap.size w3 w7 ∧ NdR w7 gs c [2, 3] ∧ NdR w7 gs6 c6 [2, 3] ∧ NdR w7 gs7 c7 [1, 2, 3]) := ⟨belT HB6.out.1 hb7, HB6.out.2.1.keep (fun g hg => hb7.block g (HB6.out.2.1.2 g hg).lt), HB6.out.2.2.keep (fun g hg => hb7.block g (HB6.out.2.2.2 g hg).lt), hn7⟩
  clear hn7 hb7 HB6
  go_wp2_with fail
  refine (HOR.out w7 HB7.out.1).mono ?_
  rintro e w8 ⟨hb8, h⟩
  rcases h with ⟨_, rfl⟩ | ⟨l8, gs8, c8, h, _⟩
  rotate_left
  · cases h
  have HB8 : Hid (Below w3.heap.size w3 w8 ∧ NdR w8 gs c [2, 3] ∧ NdR w8 gs6 c6 [2, 3] ∧ NdR w8 gs7 c7 [1, 2, 3]) := ⟨belT HB7.out.1 hb8, HB7.out.2.1.keep (fun g hg => hb8.block g (HB7.out.2.1.2 g hg).lt), HB7.out.2.2.1.keep (fun g hg => hb8.block g (HB7.out.2.2.1.2 g hg).lt), HB7.out.2.2.2.keep (fun g hg => hb8.block g (HB7.out.2.2.2.2 g hg).lt)⟩
  clear hb8 HB7
  obtain ⟨g1, rfl, x10⟩ := HB8.out.2.1.at_ (i := 0) (x := 2) rfl
  obtain ⟨g2, rfl, x20⟩ := HB8.out.2.2.1.at_ (i := 0) (x := 2) rfl
  obtain ⟨g3, rfl, x31⟩ := HB8.out.2.2.2.at_ (i := 1) (x := 2) rfl
  have x11 : w8.cell? ⟨g1, 1, none⟩ = some (.int .u64 3) := by
    obtain ⟨g, e, h⟩ := HB8.out.2.1.at_ (i := 1) (x := 3) rfl
    injection e with e; subst e; exact h
  have ad1 : adr (some g1) = some ⟨g1, 0, none⟩ := rfl
  have ad2 : adr (some g2) = some ⟨g2, 0, none⟩ := rfl
  have ad3 : adr (some g3) = some ⟨g3, 0, none⟩ := rfl
  have HC := HPT.out w8 HB8.out.1
  have HCC : Hid (Calls Tryz.prog 15 #[.pointer (some ⟨gb, 0, none⟩)] w8 fun e w' => ∃ a c, e = .returned (.slice a 3 c) ∧ Below w8.heap.size w8 w') := HC
  clear HC
  go_wp2_with fail
  refine HCC.out.mono ?_
  rintro e w9 ⟨a9, c9, rfl, hb9⟩
  have HF : Hid (Below w.heap.size w w9) := belT (belT HB3.out HB8.out.1) hb9
  clear hb9
  go_wp2_with fail
  go_ret
  exact ⟨rfl, HF.out⟩
end Go.Proofs.YtikhpbidbcfedaaGreat

