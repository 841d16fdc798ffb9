/- tenonref14.Keeps. -/
import Derived.Test.YtilhheianbbbjaaK35
import Derived.Test.YtilhheianbbbjaaK25
import Derived.Test.YtilhheianbbbjaaK17
import Derived.Laws.StructEq
namespace Go.Proofs.Ytilhheianbbbjaa
open Go.RowKit Go.ChangeMaps

def Sp.mix (L : Nat) (A R : Bf) (i : Nat) : List Bool := (List.range L).map fun k => decide (k ∈ A.ord) && !(decide (k < i) && decide (k ∈ R.ord))
theorem mix_len (L : Nat) (A R : Bf) (i : Nat) : (Sp.mix L A R i).length = L := by simp [Sp.mix]
theorem mix_at {L i k : Nat} (A R : Bf) (h : k < L) : (Sp.mix L A R i)[k]? = some (decide (k ∈ A.ord) && !(decide (k < i) && decide (k ∈ R.ord))) := by simp [Sp.mix, h]
theorem mix_0 (L : Nat) (A R : Bf) : Sp.mix L A R 0 = Sp.bls L A := by simp [Sp.mix, Sp.bls]
theorem mix_set {L i : Nat} (A R : Bf) : Sp.mix L A R (i + 1) = (Sp.mix L A R i).set i (decide (i ∈ A.ord) && !decide (i ∈ R.ord)) := by
  apply List.ext_getElem?
  intro t
  rw [List.getElem?_set, mix_len]
  by_cases ht : t < L
  · rw [mix_at A R ht, mix_at A R ht]
    by_cases e : i = t
    · subst e; simp [ht]
    · rw [if_neg e]
      congr 3
      have : (t < i + 1) = (t < i) := by apply propext; omega
      simp only [this]
  · rw [List.getElem?_eq_none (by rw [mix_len]; omega), List.getElem?_eq_none (by rw [mix_len]; omega)]
    by_cases e : i = t
    · subst e; simp [ht]
    · simp [e]
theorem mks_mix (L : Nat) (A R : Bf) : Sp.mks (Sp.mix L A R L) L = Sp.upn L (Sp.wo R A.ord) := by
  rw [mks_fil]
  refine List.filter_congr fun x hx => ?_
  have hx' : x < L := by simpa using hx
  rw [List.getD_eq_getElem?_getD, mix_at A R hx']
  simp [Sp.wo, hx', Bool.decide_and]

set_option maxRecDepth 100000 in
set_option maxHeartbeats 8000000 in
theorem rKeeps_any (D : Nat → Prop) (gb : Nat) (N : List Int) (nx : Nat → List Nat) (a : Option Addr) (cap : Nat) (l : List Int) (x : Int) (w : World) (hg : RgE w D gb N nx) (hl0 : RefsAt w w.heap.size a l) (hl : l.length * 8 ≤ 140737488355328) (hn : N.length ≤ 4096) (hpw : N.Pairwise (· < ·)) (hb : ∀ i, ∀ x ∈ nx i, x < N.length) (hnl : ∀ p, (nx p).length ≤ 4096) (hlt : ∀ i, (nx i).Pairwise (· < ·)) :
    Calls Try.prog 11 #[.pointer (some ⟨gb, 0, none⟩), .slice a l.length cap, .int .u64 x] w (ReE w (Sp.keeps N nx l x) 140) := by
  obtain ⟨gn, cn, lo, xb, bl, cp, hG⟩ := hg.gr
  have HG : Hid (GR w gb N nx gn cn lo xb bl cp) := hG
  have HP : Hid (Calls Try.prog 21 #[.pointer (some ⟨gb, 0, none⟩), .slice a l.length cap] w (PlE w N l)) :=
    places_any gb gn cn N a cap l w.heap.size w ⟨hG.c0, hG.nds⟩ hG.lt hpw hn hl0 (Nat.le_refl _) hl
  have HPL : Hid (∀ W : World, Below w.heap.size w W → Calls Try.prog 27 #[.pointer (some ⟨gb, 0, none⟩), .int .u64 x] W fun e w' => e = .returned (.int .i64 (Sp.plc N x)) ∧ w' = W) := fun W hW => place_any gb gn cn N x W ⟨(hG.keep hW).c0, (hG.keep hW).nds⟩ hpw hn
  have HSP : Hid (∀ (ps : List Nat) (wo : Int) (a2 : Option Addr) (c2 : Nat) (W : World), Below w.heap.size w W → InI W a2 ps → (∀ x ∈ ps, x < N.length) → ps.length = l.length → Calls Try.prog 23 #[.pointer (some ⟨gb, 0, none⟩), .slice a2 ps.length c2, .int .i64 wo] W (RchE W N.length (Bf.all nx wo N.length ps))) := fun ps wo a2 c2 W hW hi hp hpl => reach_any gb N nx gn cn lo xb bl cp a2 c2 ps wo W (hG.keep hW) hi hp hb hn (by rw [hpl]; exact hl) hnl
  have HRI : Hid (∀ (b : List Bool) (gi : Nat) (W : World), Below w.heap.size w W → OwnR W 4 gi N.length N.length (bv b) → Calls Try.prog 22 #[.pointer (some ⟨gb, 0, none⟩), .slice (some ⟨gi, 0, none⟩) N.length N.length] W (RfE W (Sp.rfs N (Sp.mks b N.length)))) := fun b gi W hW ho => listed_any gb N nx gn cn lo xb bl cp gi b W (hG.keep hW) ho hn
  have HB : Hid ((∀ i, ∀ x ∈ nx i, x < N.length) ∧ ∀ i, (nx i).Pairwise (· < ·)) := ⟨hb, hlt⟩
  clear hg hl0 hG hb hnl hlt
  go_enter Try.func11, Try.ntmps11
  go_wp2_with fail
  refine HP.out.mono ?_
  rintro e w1 ⟨hb1, h⟩
  have HP2 : Hid (Calls Try.prog 27 #[.pointer (some ⟨gb, 0, none⟩), .int .u64 x] w1 fun e w' => e = .returned (.int .i64 (Sp.plc N x)) ∧ w' = w1) := HPL.out w1 hb1
  by_cases hx : x ∈ N
  · obtain ⟨t, hti⟩ : ∃ t, N.idxOf x = t := ⟨_, rfl⟩
    have htl : t < N.length := by rw [← hti]; exact List.idxOf_lt_length_of_mem hx
    have hz : Sp.plc N x = (t : Int) := by unfold Sp.plc; rw [if_pos hx, hti]
    rw [hz] at HP2
    have htz : ¬ ((t : Int) < 0) := by omega
    have htzL : (t : Int) < (N.length : Int) := by omega
    rcases h with ⟨hn0, rfl⟩ | ⟨ps, gs, c, hps, rfl, hnd, hlo⟩
    · have HF : Hid (Below w.heap.size w w1 ∧ Sp.keeps N nx l x = none) := ⟨hb1, by unfold Sp.keeps; rw [hn0]⟩
      clear hb1 hn0
      go_wp2_with fail
      refine HP2.out.mono ?_
      rintro e w' ⟨rfl, rfl⟩
      go_wp2_with fail
      go_ret2
      exact ⟨HF.out.1, .inl ⟨HF.out.2, rfl⟩⟩
    · have hplt := pls_lt hps
      have HF : Hid (Below w.heap.size w w1 ∧ Sp.keeps N nx l x = some (Sp.rfs N (Sp.upn N.length (Sp.wo (Bf.all nx (t : Int) N.length ps) (Bf.all nx (-1) N.length ps).ord)))) := ⟨hb1, (by unfold Sp.keeps; rw [hps]; simp only [if_pos hx, hti])⟩
      have HNO : Hid (t ∉ (Bf.all nx (-1) N.length ps).ord → Sp.wo (Bf.all nx (t : Int) N.length ps) (Bf.all nx (-1) N.length ps).ord = []) := fun h => wo_none HB.out.2 HB.out.1 hplt.1 h
      have HS2 : Hid (Calls Try.prog 23 #[.pointer (some ⟨gb, 0, none⟩), .slice (adr gs) ps.length c, .int .i64 (-1)] w1 (RchE w1 N.length (Bf.all nx (-1) N.length ps))) := HSP.out ps (-1) (adr gs) c w1 hb1 hnd.inI hplt.1 hplt.2
      have HS3 : Hid (∀ W : World, Below w1.heap.size w1 W → Calls Try.prog 23 #[.pointer (some ⟨gb, 0, none⟩), .slice (adr gs) ps.length c, .int .i64 (t : Int)] W (RchE W N.length (Bf.all nx (t : Int) N.length ps))) := fun W hW => HSP.out ps t (adr gs) c W (belT hb1 hW) (hnd.inI.keep hW) hplt.1 hplt.2
      clear hb1 hps hnd hlo hplt HP HSP HPL hx hti hz
      obtain ⟨R, hR⟩ : ∃ R, Bf.all nx (t : Int) N.length ps = R := ⟨_, rfl⟩
      obtain ⟨A, hA⟩ : ∃ A, Bf.all nx (-1) N.length ps = A := ⟨_, rfl⟩
      rw [hR] at HF HNO HS3
      rw [hA] at HF HNO HS2
      clear hR hA
      obtain ⟨L, hL⟩ : ∃ L, N.length = L := ⟨_, rfl⟩
      have HL : Hid (N.length = L) := hL
      rw [hL] at HS2 HS3 HRI hn htl htzL
      clear hL
      go_wp2_with fail
      refine HP2.out.mono ?_
      rintro e w' ⟨rfl, rfl⟩
      go_wp2_with fail
      refine HS2.out.mono ?_
      rintro e w2 ⟨ga, rfl, hoa, hga, hb2⟩
      have HA2 : Hid (OwnR w2 4 ga L L (bv (Sp.bls L A)) ∧ w'.heap.size ≤ ga ∧ Below w'.heap.size w' w2) := ⟨hoa, hga, hb2⟩
      have HS4 : Hid (Calls Try.prog 23 #[.pointer (some ⟨gb, 0, none⟩), .slice (adr gs) ps.length c, .int .i64 (t : Int)] w2 (RchE w2 L R)) := HS3.out w2 hb2
      clear hoa hga hb2 HS2 HS3
      go_wp2_with fail
      refine HS4.out.mono ?_
      rintro e w3 ⟨gr, rfl, hor, hgr, hb3⟩
      have HA3 : Hid (OwnR w3 4 ga L L (bv (Sp.bls L A)) ∧ OwnR w3 4 gr L L (bv (Sp.bls L R)) ∧ w'.heap.size ≤ ga ∧ ga ≠ gr ∧ Below w.heap.size w w3 ∧ w.heap.size ≤ ga) := ⟨HA2.out.1.keep (hb3.block ga HA2.out.1.lt), hor, HA2.out.2.1, (fun e => by have := HA2.out.1.lt; omega), belT HF.out.1 (belT HA2.out.2.2 hb3), Nat.le_trans HF.out.1.size HA2.out.2.1⟩
      clear hor hgr hb3 HS4 HA2
      have hct : w3.cell? ⟨ga, t, none⟩ = some (.bool (decide (t ∈ A.ord))) := HA3.out.1.cell (by simp [bv, bls_at A htl])
      by_cases hin : t ∈ A.ord
      · rw [decide_eq_true hin] at hct
        go_wp2_with fail
        go_loopw [13] (fun v13 wr => ∃ i : Nat, v13 = .int .i64 (i : Int) ∧ i ≤ L ∧ Hid (OwnR wr 4 ga L L (bv (Sp.mix L A R i)) ∧ OwnR wr 4 gr L L (bv (Sp.bls L R)) ∧ Below w.heap.size w wr)) (fun v13 _ => L - (intOf v13).toNat)
        case atStart => exact ⟨0, rfl, Nat.zero_le _, by rw [mix_0]; exact HA3.out.1, HA3.out.2.1, HA3.out.2.2.2.2.1⟩
        case round =>
          obtain ⟨i, rfl, hi, HR⟩ := hrel
          by_cases hlt : i < L
          · have hltz : (i : Int) < (L : Int) := by omega
            have hca : wr.cell? ⟨ga, i, none⟩ = some (.bool (decide (i ∈ A.ord))) := HR.out.1.cell (by simp [bv, mix_at A R hlt])
            have hcr : wr.cell? ⟨gr, i, none⟩ = some (.bool (decide (i ∈ R.ord))) := HR.out.2.1.cell (by simp [bv, bls_at R hlt])
            have hfa := HR.out.1.free i
            have HF2 : Hid (∀ u : Bool, u = (decide (i ∈ A.ord) && !decide (i ∈ R.ord)) → OwnR (wr.setCell ⟨ga, i, none⟩ (.bool u)) 4 ga L L (bv (Sp.mix L A R (i + 1))) ∧ OwnR (wr.setCell ⟨ga, i, none⟩ (.bool u)) 4 gr L L (bv (Sp.bls L R)) ∧ Below w.heap.size w (wr.setCell ⟨ga, i, none⟩ (.bool u))) := fun u hu => by
              have hbb := HR.out.2.2
              have e : ∀ k, k ≠ ga → (wr.setCell ⟨ga, i, none⟩ (.bool u)).heap[k]? = wr.heap[k]? := fun k hk => Below.heap_setCell wr _ _ k hk
              refine ⟨?_, HR.out.2.1.keep (e gr (Ne.symm HA3.out.2.2.2.1)), hbb.os, hbb.tape, hbb.output, by simpa [World.setCell] using hbb.size, fun k hk => (e k (by have := HA3.out.2.2.2.2.2; omega)).trans (hbb.block k hk)⟩
              rw [mix_set, ← hu, show bv ((Sp.mix L A R i).set i u) = (bv (Sp.mix L A R i)).set i (.bool u) from List.map_set]
              exact HR.out.1.set i (.bool u)
            by_cases h1 : i ∈ A.ord
            · rw [decide_eq_true h1] at hca HF2
              by_cases h2 : i ∈ R.ord
              · rw [decide_eq_true h2] at hcr HF2
                go_wp2_with fail
                go_roundw
                case rel => exact ⟨i + 1, by go_num, by omega, HF2.out _ rfl⟩
                case measure => simp [intOf]; omega
              · rw [decide_eq_false h2] at hcr HF2
                go_wp2_with fail
                go_roundw
                case rel => exact ⟨i + 1, by go_num, by omega, HF2.out _ rfl⟩
                case measure => simp [intOf]; omega
            · rw [decide_eq_false h1] at hca HF2
              go_wp2_with fail
              go_roundw
              case rel => exact ⟨i + 1, by go_num, by omega, HF2.out _ (by simp)⟩
              case measure => simp [intOf]; omega
          · obtain rfl : i = L := by omega
            have HR2 : Hid (Calls Try.prog 22 #[.pointer (some ⟨gb, 0, none⟩), .slice (some ⟨ga, 0, none⟩) i i] wr (RfE wr (Sp.rfs N (Sp.upn i (Sp.wo R A.ord))))) := by
              have := HRI.out (Sp.mix i A R i) ga wr HR.out.2.2 HR.out.1
              rw [mks_mix] at this; exact this
            clear HRI
            go_wp2_with fail
            refine HR2.out.mono ?_
            rintro e w6 ⟨gs6, c6, rfl, h1, h2, h3⟩
            have HF3 : Hid (NdR w6 gs6 c6 (Sp.rfs N (Sp.upn i (Sp.wo R A.ord))) ∧ (∀ g, gs6 = some g → w.heap.size ≤ g) ∧ Below w.heap.size w w6) := ⟨h1, fun g hg => Nat.le_trans HR.out.2.2.size (h2 g hg), belT HR.out.2.2 h3⟩
            clear h1 h2 h3
            go_wp2_with fail
            go_ret2
            exact ⟨HF3.out.2.2, .inr ⟨_, gs6, c6, by rw [HF.out.2, HL.out], rfl, HF3.out.1, HF3.out.2.1⟩⟩
      · rw [decide_eq_false hin] at hct
        have HF4 : Hid (Sp.keeps N nx l x = some []) := by
          show _ = _
          rw [HF.out.2, HNO.out hin]; simp [Sp.upn, Sp.rfs]
        go_wp2_with fail
        go_ret2
        exact ⟨HA3.out.2.2.2.2.1, .inr ⟨[], none, 0, HF4.out, rfl, ⟨fun _ => ⟨rfl, rfl⟩, fun g hg => by cases hg⟩, fun g hg => by cases hg⟩⟩
  · have hz : Sp.plc N x = -1 := by unfold Sp.plc; rw [if_neg hx]
    rw [hz] at HP2
    have HF : Hid (Below w.heap.size w w1 ∧ Sp.keeps N nx l x = none) := ⟨hb1, by unfold Sp.keeps; cases Sp.pls N l with | none => rfl | some q => simp [hx]⟩
    rcases h with ⟨hn0, rfl⟩ | ⟨ps, gs, c, hps, rfl, hnd, hlo⟩
    · clear hb1 hn0
      go_wp2_with fail
      refine HP2.out.mono ?_
      rintro e w' ⟨rfl, rfl⟩
      go_wp2_with fail
      go_ret2
      exact ⟨HF.out.1, .inl ⟨HF.out.2, rfl⟩⟩
    · clear hb1 hps hnd hlo
      go_wp2_with fail
      refine HP2.out.mono ?_
      rintro e w' ⟨rfl, rfl⟩
      go_wp2_with fail
      go_ret2
      exact ⟨HF.out.1, .inl ⟨HF.out.2, rfl⟩⟩
end Go.Proofs.Ytilhheianbbbjaa

/- tenonlaw14.same: two rows of references that are the same; the one is written over. -/
namespace Go.Proofs.Ytilhheianbbbjaa
open Go.RowKit Go.ChangeMaps

structure SmI (w : World) (B : Nat) (m : Nat) (gs : Option Nat) (c : Nat) (wr : World) : Prop where
  bel : Below B w wr
  row : ∃ l2 : List Int, l2.length = m ∧ NdR wr gs c l2
  oth : ∀ k, k < w.heap.size → gs ≠ some k → wr.heap[k]? = w.heap[k]?
theorem SmI.put {w wr : World} {B m g c i : Nat} {v : Int} (h : SmI w B m (some g) c wr) (hB : B ≤ g) : SmI w B m (some g) c (wr.setCell ⟨g, i, none⟩ (.int .u64 v)) := by
  obtain ⟨l2, h1, h2⟩ := h.row
  refine ⟨h.bel.setCell hB _, ⟨l2.set i v, by simpa using h1, (fun e => by cases e), fun g' hg => ?_⟩, fun k hk hne => (Below.heap_setCell wr _ _ k (fun e => hne (by rw [e]))).trans (h.oth k hk hne)⟩
  have := (h2.2 g' hg)
  injection hg with hg; subst hg
  have := this.set i (.int .u64 v)
  rw [List.length_set]
  simpa [rv, List.map_set] using this
theorem SmI.cell {w wr : World} {B m g c i : Nat} (h : SmI w B m (some g) c wr) (hi : i < m) : ∃ v, wr.cell? ⟨g, i, none⟩ = some (.int .u64 v) ∧ wr.frozen? ⟨g, i, none⟩ = false := by
  obtain ⟨l2, h1, h2⟩ := h.row
  have ho := h2.2 g rfl
  exact ⟨l2[i]'(by omega), ho.cell (by simp [rv, h1, hi]), ho.free _⟩

set_option maxRecDepth 100000 in
set_option maxHeartbeats 4000000 in
theorem same_any (B : Nat) (gs gt : Option Nat) (c d : Nat) (l : List Int) (w : World) (h : NdR w gs c l) (k : NdR w gt d l) (hB : ∀ g, gs = some g → B ≤ g) (hBw : B ≤ w.heap.size) (hl : l.length ≤ 8192) :
    Calls Try.prog 14 #[.slice (adr gs) l.length c, .slice (adr gt) l.length d] w fun e w' => e = .returned (.bool true) ∧ Below B w w' ∧ ∀ k, k < w.heap.size → gs ≠ some k → w'.heap[k]? = w.heap[k]? := by
  have HH : Hid (NdR w gs c l ∧ NdR w gt d l ∧ ∀ g, gs = some g → B ≤ g) := ⟨h, k, hB⟩
  clear h k hB
  go_enter Try.func14, Try.ntmps14
  go_wp2_with fail
  go_loopw [5] (fun v5 wr => ∃ i : Nat, v5 = .int .i64 i ∧ i ≤ l.length ∧ Hid (Below w.heap.size w wr)) (fun v5 _ => l.length - (intOf v5).toNat)
  case atStart => exact ⟨0, rfl, Nat.zero_le _, Below.refl _ _⟩
  case round =>
    obtain ⟨i, rfl, hi, HS⟩ := hrel
    by_cases hlt : i < l.length
    · have hltz : (i : Int) < (l.length : Int) := by omega
      obtain ⟨x, hx⟩ : ∃ x, l[i]? = some x := ⟨_, List.getElem?_eq_getElem hlt⟩
      obtain ⟨g, rfl⟩ : ∃ g, gs = some g := by
        cases gs with
        | some g => exact ⟨g, rfl⟩
        | none => have := (HH.out.1.1 rfl).1; rw [this] at hlt; simp at hlt
      obtain ⟨g2, rfl⟩ : ∃ g, gt = some g := by
        cases gt with
        | some g => exact ⟨g, rfl⟩
        | none => have := (HH.out.2.1.1 rfl).1; rw [this] at hlt; simp at hlt
      have ho := HH.out.1.2 g rfl
      have ho2 := HH.out.2.1.2 g2 rfl
      have hc1 : wr.cell? ⟨g, i, none⟩ = some (.int .u64 x) := by rw [World.cell?_of_block (w := w) (HS.out.block g ho.lt)]; exact ho.cell (by simp [rv, hx])
      have hc2 : wr.cell? ⟨g2, i, none⟩ = some (.int .u64 x) := by rw [World.cell?_of_block (w := w) (HS.out.block g2 ho2.lt)]; exact ho2.cell (by simp [rv, hx])
      have ha1 : adr (some g) = some ⟨g, 0, none⟩ := rfl
      have ha2 : adr (some g2) = some ⟨g2, 0, none⟩ := rfl
      clear ho ho2 hx
      go_wp2_with fail
      go_region
      all_goals go_wp2_with fail
      all_goals go_roundw
      case rel => exact ⟨i + 1, by go_num, by omega, HS.out.drew⟩
      case measure => simp [intOf]; omega
    · obtain rfl : i = l.length := by omega
      go_wp2_with fail
      have HS0 : Hid (SmI w B l.length gs c wr) := ⟨⟨HS.out.os, HS.out.tape, HS.out.output, HS.out.size, fun k hk => HS.out.block k (by omega)⟩, ⟨l, rfl, HH.out.1.keep (fun g hg => HS.out.block g (HH.out.1.2 g hg).lt)⟩, fun k hk _ => HS.out.block k hk⟩
      clear HS
      go_loopw [6] (fun v6 wr => ∃ i : Nat, v6 = .int .i64 i ∧ i ≤ l.length ∧ Hid (SmI w B l.length gs c wr)) (fun v6 _ => l.length - (intOf v6).toNat)
      case atStart => exact ⟨0, rfl, Nat.zero_le _, HS0.out⟩
      case round =>
        clear HS0
        obtain ⟨i, rfl, hi2, HS⟩ := hrel
        by_cases hlt2 : i < l.length
        · have hltz : (i : Int) < (l.length : Int) := by omega
          obtain ⟨g, rfl⟩ : ∃ g, gs = some g := by
            cases gs with
            | some g => exact ⟨g, rfl⟩
            | none => have := (HH.out.1.1 rfl).1; rw [this] at hlt2; simp at hlt2
          obtain ⟨v, hcv, hfv⟩ := HS.out.cell hlt2
          have ha1 : adr (some g) = some ⟨g, 0, none⟩ := rfl
          have HP : Hid (SmI w B l.length (some g) c (wr.setCell ⟨g, i, none⟩ (.int .u64 4711))) := HS.out.put (HH.out.2.2 g rfl)
          go_wp2_with fail
          go_roundw
          case rel => exact ⟨i + 1, by go_num, by omega, HP.out⟩
          case measure => simp [intOf]; omega
        · obtain rfl : i = l.length := by omega
          obtain ⟨l2, hl2, hnd⟩ := HS.out.row
          obtain ⟨g', c', w4, hap, ho4, hgr4, hor4⟩ := appR gs c l2 wr hnd 4712 (by omega) 22
          rw [hl2] at hap
          have HF2 : Hid (∀ k, k < w.heap.size → gs ≠ some k → w4.heap[k]? = w.heap[k]?) := fun k hk hne => by
            have hkw : k < wr.heap.size := Nat.lt_of_lt_of_le hk HS.out.bel.size
            exact ((hgr4.block k (by rw [al_size]; omega) (fun e => hne e.symm)).trans (Below.heap_alloc wr _ k hkw)).trans (HS.out.oth k hk hne)
          have HF : Hid (Below B w w4) := by
            have hz : B ≤ wr.heap.size := Nat.le_trans hBw HS.out.bel.size
            have h1 := HS.out.bel.alloc hz (.cells #[.int .u64 4712] 25)
            exact h1.grown hgr4 (by rw [al_size]; omega) (fun k hk => HH.out.2.2 k hk)
          clear hnd ho4 hgr4 hor4
          go_wp2_with (at_builtin; refine wpList_ranS _ rfl _ _ 22 22 rfl _ _ _ _ rfl rfl hap ?_)
          go_ret
          exact ⟨rfl, HF.out, HF2.out⟩
end Go.Proofs.Ytilhheianbbbjaa

/- == of edges and of calls; edges as the source of an append. -/
namespace Go.Proofs.Ytilhheianbbbjaa
open Go.RowKit

theorem Try.fldE : (Try.prog.fieldsOf 41).toList = [⟨"From", 25, 0, false, "", "", 0⟩, ⟨"To", 25, 1, false, "", "", 8⟩] := by kernel_rfl
theorem eq_ed (x y x' y' : Int) (W : World) : (Op.equalIn 10000 41 (.agg #[.int .u64 x, .int .u64 y]) (.agg #[.int .u64 x', .int .u64 y'])).run Try.prog W = .ok (x == x' && y == y') W := by
  rw [run_equalIn_struct (P := Try.prog) W 9999 41 _ _ (by kernel_rfl) (by kernel_rfl), Try.fldE]
  have u3 : Try.prog.underlying 25 = some (.int .u64) := by kernel_rfl
  have pa : ∀ (V : World) (n i : Int), (part 25 #[.int .u64 n, .int .u64 i] 0).run Try.prog V = .ok (.int .u64 n) V := fun V n i => by kernel_rfl
  have pc : ∀ (V : World) (n i : Int), (part 25 #[.int .u64 n, .int .u64 i] 1).run Try.prog V = .ok (.int .u64 i) V := fun V n i => by kernel_rfl
  have qc : ∀ (V : World) (m n : Int), (Op.equalIn 9999 25 (.int .u64 m) (.int .u64 n)).run Try.prog V = .ok (m == n) V := fun V m n => run_equalIn_int V 9998 25 .u64 .u64 _ _ u3
  have en : ("From" : String) ≠ "_" := by decide
  have ea : ("To" : String) ≠ "_" := by decide
  simp only [Op.eqFields, if_pos en, if_pos ea, Sem.run_bind, pa, Result.andThen_ok, Sem.run_ite, qc, pc, Sem.run_pure]
  by_cases h1 : x = x'
  · by_cases h2 : y = y'
    · simp [h1, h2]
    · simp [h1, h2]
  · simp [h1]
theorem neq_ed (x y x' y' : Int) (W : World) : (binOp .neq 41 (.agg #[.int .u64 x, .int .u64 y]) (.agg #[.int .u64 x', .int .u64 y'])).run Try.prog W = .ok (.bool (!(x == x' && y == y'))) W := by
  rw [run_neq_struct, eq_ed]; rfl
@[go_sem] theorem eqg_ed (p q : Operand) (xs ys : Array Value) (W : World) : (eqGuard .neq 41 p q (.agg xs) (.agg ys)).run Try.prog W = .ok () W := run_eqGuard_agg W _ _ _ _ _ _ (by kernel_rfl)
theorem ev_at : ∀ (E : List (Int × Int)) (j : Nat) (u : Value), (ev E)[j]? = some u → ∃ t e, E[t]? = some e ∧ ((j = t * 2 ∧ u = .int .u64 e.1) ∨ (j = t * 2 + 1 ∧ u = .int .u64 e.2))
  | [], j, u, h => by simp [ev] at h
  | p :: E, 0, u, h => by simp [ev] at h; exact ⟨0, p, rfl, .inl ⟨rfl, h.symm⟩⟩
  | p :: E, 1, u, h => by simp [ev] at h; exact ⟨0, p, rfl, .inr ⟨rfl, h.symm⟩⟩
  | p :: E, j + 2, u, h => by
    obtain ⟨t, e, h1, h2⟩ := ev_at E j u (by simpa [ev] using h)
    exact ⟨t + 1, e, by simpa using h1, by rcases h2 with ⟨h2, h3⟩ | ⟨h2, h3⟩; exact .inl ⟨by omega, h3⟩; exact .inr ⟨by omega, h3⟩⟩
theorem ev_one (E : List (Int × Int)) : ∀ u ∈ ev E, u.oneCell' = true := fun u hu => by
  obtain ⟨j, hj⟩ := List.mem_iff_getElem?.1 hu
  obtain ⟨t, e, _, ⟨_, rfl⟩ | ⟨_, rfl⟩⟩ := ev_at E j u hj <;> rfl
theorem EdgesAt.src {w : World} {B : Nat} {a : Option Addr} {E : List (Int × Int)} (h : EdgesAt w B a E) (c : Nat) : Src Try.prog 2 23 (.slice a E.length c) E.length (ev E) w := by
  by_cases hx : E = []
  · subst hx
    rcases h.nil rfl with rfl | ⟨b, o, rfl⟩
    · exact Src.ofNil _ Try.undEd c
    · exact Src.ofSlice _ Try.undEd ⟨b, o, none⟩ 0 c [] rfl (fun j u hj => by simp at hj) (fun u hu => by simp at hu)
  · obtain ⟨b, o, rfl⟩ : ∃ b o, a = some ⟨b, o, none⟩ := by
      cases E with
      | nil => exact absurd rfl hx
      | cons e E => obtain ⟨b, o, h1, _⟩ := h.row 0 e rfl; exact ⟨b, o, h1⟩
    refine Src.ofSlice _ Try.undEd ⟨b, o, none⟩ E.length c (ev E) (by rw [ev_len]) (fun j u hj => ?_) (ev_one E)
    rw [addN]
    obtain ⟨t, e, he, h2⟩ := ev_at E j u hj
    obtain ⟨b', o', e', _, h3, h4⟩ := h.row t e he
    simp at e'
    obtain ⟨rfl, rfl⟩ := e'
    rcases h2 with ⟨rfl, rfl⟩ | ⟨rfl, rfl⟩
    · exact h3
    · rw [← Nat.add_assoc]; exact h4
theorem OwnK.alloc0 (w : World) (e : TypeId) (k : Nat) : OwnK (w.alloc (.cells #[] e)) e k w.heap.size 0 0 [] := ⟨by simp, #[], heap_alloc_new w _, Nat.le_refl _, by simp [maxLen], by simp, by simp⟩
end Go.Proofs.Ytilhheianbbbjaa

