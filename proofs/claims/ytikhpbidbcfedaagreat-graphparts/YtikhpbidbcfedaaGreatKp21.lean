/- graph.Ring: of the rings with the fewest nodes, the least. -/
import Derived.Test.YtikhpbidbcfedaaGreatKp20
namespace Go.Proofs.YtikhpbidbcfedaaGreat
open Go.RowKit Go.ChangeMaps

theorem rgs_bd {nx : Nat → List Nat} {L : Nat} (hlt : ∀ i, (nx i).Pairwise (· < ·)) (hb : ∀ i, ∀ x ∈ nx i, x < L) : ∀ k, k ≤ L → (∀ x ∈ Sp.rgs nx L k, x < L) ∧ (Sp.rgs nx L k).length ≤ L
  | 0, _ => by simp [Sp.rgs]
  | k + 1, hk => by
    rw [Sp.rgs]
    split
    · rename_i h
      obtain ⟨p, hw, _⟩ := (rfm_rng hlt hb (show k < L by omega) h.1).way
      exact ⟨hw.bd, nd_len hw.nd hw.bd⟩
    · exact rgs_bd hlt hb k (by omega)
theorem rfm_bd {nx : Nat → List Nat} {L : Nat} (hlt : ∀ i, (nx i).Pairwise (· < ·)) (hb : ∀ i, ∀ x ∈ nx i, x < L) {k : Nat} (hk : k < L) : (Sp.rfm nx L k).length ≤ L := by
  by_cases h : Sp.rfm nx L k = []
  · rw [h]; simp
  · obtain ⟨p, hw, _⟩ := (rfm_rng hlt hb hk h).way
    exact nd_len hw.nd hw.bd
theorem rgs_new {nx : Nat → List Nat} {L k : Nat} (h1 : 0 < (Sp.rfm nx L k).length) (h2 : (Sp.rgs nx L k).length = 0 ∨ (Sp.rfm nx L k).length < (Sp.rgs nx L k).length) : Sp.rgs nx L (k + 1) = Sp.rfm nx L k := by
  rw [Sp.rgs, if_pos ⟨fun e => by rw [e] at h1; simp at h1, h2.imp_left fun h => List.length_eq_zero_iff.1 h⟩]
theorem rgs_old {nx : Nat → List Nat} {L k : Nat} (h : (Sp.rfm nx L k).length = 0 ∨ (Sp.rgs nx L k).length ≠ 0 ∧ ¬ (Sp.rfm nx L k).length < (Sp.rgs nx L k).length) : Sp.rgs nx L (k + 1) = Sp.rgs nx L k := by
  rw [Sp.rgs, if_neg]
  rintro ⟨h1, h2⟩
  rcases h with h | ⟨h3, h4⟩
  · exact h1 (List.length_eq_zero_iff.1 h)
  · rcases h2 with h2 | h2
    · rw [h2] at h3; exact h3 rfl
    · exact h4 h2
structure RbI (w : World) (L gi : Nat) (l : List Nat) (gs : Option Nat) (c : Nat) (wr : World) : Prop where
  bel : Below w.heap.size w wr
  own : OwnR wr 3 gi L L (iv (List.replicate L (-1)))
  row : NdI wr gs c (l.map fun j : Nat => (j : Int))
  lo : ∀ g, gs = some g → w.heap.size ≤ g ∧ g ≠ gi
def RiE (w : World) (l : List Int) (e : Ending) (w' : World) : Prop := ∃ gs c, e = .returned (.tuple #[.slice (adr gs) l.length c, .bool (decide (0 < l.length))]) ∧ NdR w' gs c l ∧ (∀ g, gs = some g → w.heap.size ≤ g) ∧ Below w.heap.size w w'

set_option maxRecDepth 100000 in
set_option maxHeartbeats 8000000 in
theorem Ring_any (gb : Nat) (N : List Int) (nx : Nat → List Nat) (w : World) (hg : GRE w gb N nx) (hb : ∀ i, ∀ x ∈ nx i, x < N.length) (hn : N.length ≤ 4096) (hnl : ∀ p, (nx p).length ≤ 4096) (hlt : ∀ i, (nx i).Pairwise (· < ·)) :
    Calls Tryz.prog 19 #[.pointer (some ⟨gb, 0, none⟩)] w (RiE w (Sp.rfs N (Sp.rgs nx N.length N.length))) := by
  obtain ⟨gn, cn, lo, xb, bl, cp, h⟩ := hg
  have HN : Hid (Calls Tryz.prog 38 #[.pointer (some ⟨gb, 0, none⟩)] w fun e w' => ∃ gi, e = .returned (.slice (some ⟨gi, 0, none⟩) N.length N.length) ∧ OwnR w' 3 gi N.length N.length (iv (List.replicate N.length (-1))) ∧ w.heap.size ≤ gi ∧ Below w.heap.size w w') := nobodies_any gb N nx gn cn lo xb bl cp w h hn
  have HG : Hid (GR w gb N nx gn cn lo xb bl cp) := h
  have HRF : Hid (∀ (gi a : Nat) (W : World), Below w.heap.size w W → w.heap.size ≤ gi → OwnR W 3 gi N.length N.length (iv (List.replicate N.length (-1))) → a < N.length → Calls Tryz.prog 39 #[.pointer (some ⟨gb, 0, none⟩), .int .i64 (a : Int), .slice (some ⟨gi, 0, none⟩) N.length N.length] W (RnE W N.length gi (Sp.rfm nx N.length a))) := fun gi a W hW hgi ho ha => ringFrom_any w gb N nx gn cn lo xb bl cp gi a W h hW hgi ho ha hb hn hnl hlt
  have HBD : Hid ((∀ k, k ≤ N.length → (∀ x ∈ Sp.rgs nx N.length k, x < N.length) ∧ (Sp.rgs nx N.length k).length ≤ N.length) ∧ ∀ k, k < N.length → (Sp.rfm nx N.length k).length ≤ N.length) := ⟨fun k hk => rgs_bd hlt hb k hk, fun k hk => rfm_bd hlt hb hk⟩
  have hrf := fun (g : Option Nat) (c2 : Nat) (l : List Nat) (W : World) (hW : Below w.heap.size w W) (hi : InI W (adr g) l) (hl : ∀ x ∈ l, x < N.length) (hll : l.length ≤ 4096) => refs_any gb N nx gn cn lo xb bl cp (adr g) c2 l W (h.keep hW) hi hl (by omega)
  have HRS : Hid (∀ (g : Option Nat) (c2 : Nat) (l : List Nat) (W : World), Below w.heap.size w W → InI W (adr g) l → (∀ x ∈ l, x < N.length) → l.length ≤ 4096 → Calls Tryz.prog 32 #[.pointer (some ⟨gb, 0, none⟩), .slice (adr g) l.length c2] W (RfE W (Sp.rfs N l))) := hrf
  have HC0 : Hid (∀ W : World, Below w.heap.size w W → W.cell? ⟨gb, 0, none⟩ = some (.slice (adr gn) N.length cn)) := fun W hW => (h.keep hW).c0
  clear h hb hnl hlt hrf
  obtain ⟨L, hL⟩ : ∃ L, N.length = L := ⟨_, rfl⟩
  rw [hL] at hn HN HRF HBD HRS HC0 ⊢
  go_enter Tryz.func19, Tryz.ntmps19
  go_wp2_with fail
  refine HN.out.mono ?_
  rintro e w1 ⟨gi, rfl, ho, hgi, hb1⟩
  have hc0 := HC0.out w1 hb1
  have H0 : Hid (RbI w L gi (Sp.rgs nx L 0) none 0 w1) := ⟨hb1, ho, ⟨fun _ => ⟨rfl, rfl⟩, fun g hg => by cases hg⟩, fun g hg => by cases hg⟩
  have HGI : Hid (w.heap.size ≤ gi) := hgi
  clear ho hb1 hgi
  go_wp2_with fail
  clear hc0
  go_loopw [4, 15] (fun v4 v15 wr => ∃ (k : Nat) (gs : Option Nat) (c : Nat), v15 = .int .i64 (k : Int) ∧ k ≤ L ∧ v4 = .slice (adr gs) (Sp.rgs nx L k).length c ∧ Hid (RbI w L gi (Sp.rgs nx L k) gs c wr)) (fun _ v15 _ => L - (intOf v15).toNat)
  case atStart => exact ⟨0, none, 0, rfl, Nat.zero_le _, rfl, H0.out⟩
  case round =>
    as_aux_lemma =>
    clear H0
    obtain ⟨k, gs, c, rfl, hk, rfl, HR⟩ := hrel
    by_cases hkL : k < L
    · have hkz : (k : Int) < (L : Int) := by omega
      have HC := HRF.out gi k wr HR.out.bel HGI.out HR.out.own hkL
      have HCC : Hid (Calls Tryz.prog 39 #[.pointer (some ⟨gb, 0, none⟩), .int .i64 (k : Int), .slice (some ⟨gi, 0, none⟩) L L] wr (RnE wr L gi (Sp.rfm nx L k))) := HC
      have hl1 := HBD.out.2 k hkL
      have hl2 := (HBD.out.1 k hk).2
      clear HC
      go_wp2_with fail
      refine HCC.out.mono ?_
      rintro e w2 ⟨gs2, c2, rfl, q1, q2, q3, q4⟩
      have hbb : Below w.heap.size w w2 := kw_below HR.out.bel q4 HGI.out HR.out.bel.size
      have HNEW : Hid (RbI w L gi (Sp.rfm nx L k) gs2 c2 w2) := ⟨hbb, q3, q1, fun g hg => ⟨Nat.le_trans HR.out.bel.size (q2 g hg), fun e => by have := q2 g hg; have := HR.out.own.lt; omega⟩⟩
      have HOLD : Hid (RbI w L gi (Sp.rgs nx L k) gs c w2) := ⟨hbb, q3, HR.out.row.keep (fun g hg => q4.block g (HR.out.row.2 g hg).lt (HR.out.lo g hg).2), HR.out.lo⟩
      clear q1 q2 q3 q4 hbb HR HCC
      by_cases hA : 0 < (Sp.rfm nx L k).length
      · have hAz : (0 : Int) < ((Sp.rfm nx L k).length : Int) := by omega
        by_cases hB : (Sp.rgs nx L k).length = 0
        · have hBz : (((Sp.rgs nx L k).length : Int) == 0) = true := by simp [hB]
          have HE : Hid (Sp.rgs nx L (k + 1) = Sp.rfm nx L k) := rgs_new hA (.inl hB)
          go_wp2_with fail
          go_roundw
          case rel => exact ⟨k + 1, gs2, c2, by go_num, by omega, by rw [HE.out], by rw [HE.out]; exact HNEW.out⟩
          case measure => simp [intOf]; omega
        · have hBz : (((Sp.rgs nx L k).length : Int) == 0) = false := by rw [beq_eq_false_iff_ne]; omega
          by_cases hC : (Sp.rfm nx L k).length < (Sp.rgs nx L k).length
          · have hCz : ((Sp.rfm nx L k).length : Int) < ((Sp.rgs nx L k).length : Int) := by omega
            have HE : Hid (Sp.rgs nx L (k + 1) = Sp.rfm nx L k) := rgs_new hA (.inr hC)
            go_wp2_with fail
            go_roundw
            case rel => exact ⟨k + 1, gs2, c2, by go_num, by omega, by rw [HE.out], by rw [HE.out]; exact HNEW.out⟩
            case measure => simp [intOf]; omega
          · have hCz : ¬ ((Sp.rfm nx L k).length : Int) < ((Sp.rgs nx L k).length : Int) := by omega
            have HE : Hid (Sp.rgs nx L (k + 1) = Sp.rgs nx L k) := rgs_old (.inr ⟨hB, hC⟩)
            go_wp2_with fail
            go_roundw
            case rel => exact ⟨k + 1, gs, c, by go_num, by omega, by rw [HE.out], by rw [HE.out]; exact HOLD.out⟩
            case measure => simp [intOf]; omega
      · have hAz : ¬ (0 : Int) < ((Sp.rfm nx L k).length : Int) := by omega
        have HE : Hid (Sp.rgs nx L (k + 1) = Sp.rgs nx L k) := rgs_old (.inl (by omega))
        go_wp2_with fail
        go_roundw
        case rel => exact ⟨k + 1, gs, c, by go_num, by omega, by rw [HE.out], by rw [HE.out]; exact HOLD.out⟩
        case measure => simp [intOf]; omega
    · obtain rfl : k = L := by omega
      have hl2 := (HBD.out.1 k hk).2
      have HRS2 : Hid (Calls Tryz.prog 32 #[.pointer (some ⟨gb, 0, none⟩), .slice (adr gs) (Sp.rgs nx k k).length c] wr (RfE wr (Sp.rfs N (Sp.rgs nx k k)))) := HRS.out gs c _ wr HR.out.bel HR.out.row.inI (HBD.out.1 k hk).1 (by omega)
      have HB : Hid (Below w.heap.size w wr) := HR.out.bel
      clear HRS HRF HN
      go_wp2_with fail
      refine HRS2.out.mono ?_
      rintro e w3 ⟨gs3, c3, rfl, q1, q2, q3⟩
      have hle : (Sp.rfs N (Sp.rgs nx k k)).length = (Sp.rgs nx k k).length := by simp [Sp.rfs]
      have HF : Hid (NdR w3 gs3 c3 (Sp.rfs N (Sp.rgs nx k k)) ∧ (∀ g, gs3 = some g → w.heap.size ≤ g) ∧ Below w.heap.size w w3) := ⟨q1, fun g hg => Nat.le_trans HB.out.size (q2 g hg), belT HB.out q3⟩
      have HLE : Hid ((Sp.rfs N (Sp.rgs nx k k)).length = (Sp.rgs nx k k).length) := hle
      clear q1 q2 q3 hle HRS2
      go_wp2_with fail
      go_ret2
      exact ⟨gs3, c3, by rw [HLE.out]; simp, HF.out⟩
end Go.Proofs.YtikhpbidbcfedaaGreat

/- graph.Order: all nodes, each ahead of those to which it leads. -/
namespace Go.Proofs.YtikhpbidbcfedaaGreat
open Go.RowKit Go.ChangeMaps

theorem mk_ints0 (n : Nat) (hn : n ≤ 4096) : ∃ M : Array Value, ∀ W : World, (Instr.makeSlice 60 (.int .i64 (n : Int)) (.int .i64 (n : Int))).run Tryz.prog W = .ok (.slice (some ⟨W.heap.size, 0, none⟩) n n) (W.alloc (.cells M 3)) ∧ OwnR (W.alloc (.cells M 3)) 3 W.heap.size n n (iv (List.replicate n 0)) := by
  obtain ⟨i0, hi, hz0, hz1, hz2⟩ := info_parts Tryz.infoN1
  refine ⟨madeCells (Value.int .i64 0).cells (((n : Nat) : Int).toNat * i0.size), fun W => ⟨?_, ?_⟩⟩
  · have h := run_make (P := Tryz.prog) W 60 3 i0 (.int .i64 0) Tryz.undN1 hi hz0 .i64 .i64 (n : Int) (n : Int) (by omega) (by omega) (by rw [hz2]; omega) (by omega)
    simpa using h
  · refine ⟨by simp [iv], _, heap_alloc_new _ _, Nat.le_refl _, by simp [maxLen]; omega, by rw [size_madeCells, hz1]; simp, ?_⟩
    apply List.ext_getElem?
    intro t
    by_cases ht : t < n
    · rw [List.getElem?_take, if_pos ht]
      simp [iv, ht, madeCells, hz1, Value.cells, Nat.mod_one]
    · rw [List.getElem?_eq_none (by simp [iv]; omega), List.getElem?_eq_none (by simp; omega)]
def Sp.nought (b : List Int) : Int := if (0 : Int) ∈ b then (b.idxOf 0 : Nat) else -1
set_option maxRecDepth 100000 in
set_option maxHeartbeats 4000000 in
theorem index_any (g L : Nat) (b : List Int) (w : World) (ho : OwnR w 3 g L L (iv b)) (hL : L ≤ 4096) :
    Calls Tryz.prog 37 #[.slice (some ⟨g, 0, none⟩) L L, .int .i64 0] w fun e w' => e = .returned (.int .i64 (Sp.nought b)) ∧ w' = w := by
  have hlen : b.length = L := by have := ho.len; simpa [iv] using this
  have HO : Hid (OwnR w 3 g L L (iv b)) := ho
  have HL : Hid (b.length = L) := hlen
  clear ho hlen
  go_enter Tryz.func37, Tryz.ntmps37
  go_wp2_with fail
  go_loopw [8] (fun v8 wr => ∃ i : Nat, v8 = .int .i64 (i : Int) ∧ i ≤ L ∧ Hid ((0 : Int) ∉ b.take i) ∧ wr = w) (fun v8 _ => L - (intOf v8).toNat)
  case atStart => exact ⟨0, rfl, Nat.zero_le _, by show (0 : Int) ∉ _; simp, rfl⟩
  case round =>
    obtain ⟨i, rfl, hi, HA, rfl⟩ := hrel
    by_cases hlt : i < L
    · have hltz : (i : Int) < (L : Int) := by omega
      have hib : i < b.length := by rw [HL.out]; exact hlt
      obtain ⟨v, hv⟩ : ∃ v, b[i]? = some v := ⟨_, List.getElem?_eq_getElem hib⟩
      have hcx := HO.out.cell (t := i) (x := .int .i64 v) (by simp [iv, hv])
      by_cases h0 : v = 0
      · have hvb : ((0 : Int) == v) = true := by simp [h0]
        have HF : Hid (Sp.nought b = (i : Int)) := by
          show _ = _
          subst h0
          have hm := List.mem_of_getElem? hv
          rw [Sp.nought, if_pos hm]
          have h1 : b = b.take i ++ 0 :: b.drop (i + 1) := by
            conv => lhs; rw [← List.take_append_drop i b]
            congr 1
            obtain ⟨h1, h2⟩ := List.getElem?_eq_some_iff.1 hv
            rw [← h2]; exact List.drop_eq_getElem_cons h1
          have h2 : b.idxOf 0 = i := by
            rw [h1, List.idxOf_append, if_neg HA.out, List.idxOf_cons_self, List.length_take]
            omega
          rw [h2]
        clear hv h0
        go_wp2_with fail
        go_ret
        rw [HF.out]
        exact ⟨rfl, rfl⟩
      · have hvb : ((0 : Int) == v) = false := by rw [beq_eq_false_iff_ne]; exact fun e => h0 e.symm
        have HA2 : Hid ((0 : Int) ∉ b.take (i + 1)) := by
          show (0 : Int) ∉ _
          rw [List.take_add_one, hv]
          intro h
          rcases List.mem_append.1 h with h | h
          · exact HA.out h
          · simp at h; exact h0 h.symm
        clear hv
        go_wp2_with fail
        go_roundw
        case rel => exact ⟨i + 1, by go_num, by omega, HA2.out, trivial⟩
        case measure => simp [intOf]; omega
    · obtain rfl : i = L := by omega
      have HF : Hid (Sp.nought b = -1) := by
        show _ = _
        have := HA.out
        rw [List.take_of_length_le (by rw [HL.out]; exact Nat.le_refl _)] at this
        rw [Sp.nought, if_neg this]
      go_wp2_with fail
      go_ret
      rw [HF.out]
      exact ⟨rfl, rfl⟩
end Go.Proofs.YtikhpbidbcfedaaGreat

