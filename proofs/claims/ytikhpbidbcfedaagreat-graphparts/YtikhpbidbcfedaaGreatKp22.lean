/- graph.Order: all nodes, each ahead of those to which it leads. -/
import Derived.Test.YtikhpbidbcfedaaGreatKp21
namespace Go.Proofs.YtikhpbidbcfedaaGreat
open Go.RowKit Go.ChangeMaps

def Sp.inc (b : List Int) (n : Nat) (d : Int) : List Int := b.set n (wrap64 (b.getD n 0 + d))
theorem inc_len (b : List Int) (n : Nat) (d : Int) : (Sp.inc b n d).length = b.length := by simp [Sp.inc]
def Sp.incs (l : List Nat) (d : Int) (b : List Int) : List Int := l.foldl (fun b n => Sp.inc b n d) b
theorem incs_snoc {l : List Nat} {d : Int} {b : List Int} {k n : Nat} (h : l[k]? = some n) : Sp.incs (l.take (k + 1)) d b = Sp.inc (Sp.incs (l.take k) d b) n d := by
  rw [List.take_add_one, h]; simp [Sp.incs, List.foldl_append]
theorem incs_len : ∀ (l : List Nat) (d : Int) (b : List Int), (Sp.incs l d b).length = b.length
  | [], _, _ => rfl
  | n :: l, d, b => by show (Sp.incs l d (Sp.inc b n d)).length = _; rw [incs_len l, inc_len]
def Sp.wts (nx : Nat → List Nat) (L : Nat) : Nat → List Int
  | 0 => List.replicate L 0
  | i + 1 => Sp.incs (nx i) 1 (Sp.wts nx L i)
theorem wts_len (nx : Nat → List Nat) (L : Nat) : ∀ i, (Sp.wts nx L i).length = L
  | 0 => by simp [Sp.wts]
  | i + 1 => by rw [Sp.wts, incs_len, wts_len nx L i]
def Sp.ord (nx : Nat → List Nat) (L : Nat) : Nat → Option (List Int × List Nat)
  | 0 => some (Sp.wts nx L L, [])
  | k + 1 => match Sp.ord nx L k with
    | none => none
    | some (b, l) => if (0 : Int) ∈ b then some (Sp.incs (nx (b.idxOf 0)) (-1) (b.set (b.idxOf 0) (-1)), l ++ [b.idxOf 0]) else none
theorem ord_len (nx : Nat → List Nat) (L : Nat) : ∀ k b l, Sp.ord nx L k = some (b, l) → b.length = L ∧ l.length = k ∧ ∀ x ∈ l, x < L
  | 0, b, l, h => by simp [Sp.ord] at h; obtain ⟨rfl, rfl⟩ := h; exact ⟨wts_len nx L L, rfl, by simp⟩
  | k + 1, b, l, h => by
    rw [Sp.ord] at h
    cases ho : Sp.ord nx L k with
    | none => rw [ho] at h; cases h
    | some bl =>
      obtain ⟨b0, l0⟩ := bl
      obtain ⟨h1, h2, h3⟩ := ord_len nx L k b0 l0 ho
      rw [ho] at h
      dsimp only at h
      split at h
      · rename_i hm
        injection h with h; injection h with e1 e2
        subst e1 e2
        have hi : b0.idxOf 0 < L := by rw [← h1]; exact List.idxOf_lt_length_of_mem hm
        refine ⟨by rw [incs_len]; simpa using h1, by simp [h2], fun x hx => ?_⟩
        rcases List.mem_append.1 hx with hx | hx
        · exact h3 x hx
        · simp at hx; omega
      · cases h
theorem ord_none {nx : Nat → List Nat} {L k : Nat} (h : Sp.ord nx L k = none) : ∀ j, Sp.ord nx L (k + j) = none
  | 0 => h
  | j + 1 => by show Sp.ord nx L (k + j + 1) = none; rw [Sp.ord, ord_none h j]
structure OrI (w : World) (L : Nat) (b l : List Int) (gs : Option Nat) (c : Nat) (wr : World) : Prop where
  own : OwnR wr 3 w.heap.size L L (iv b)
  row : NdR wr gs c l
  lo : ∀ g, gs = some g → w.heap.size < g
  bel : Below w.heap.size w wr
theorem OrI.setw {w wr : World} {L : Nat} {b l : List Int} {gs : Option Nat} {c : Nat} (h : OrI w L b l gs c wr) (n : Nat) (v : Int) : OrI w L (b.set n v) l gs c (wr.setCell ⟨w.heap.size, n, none⟩ (.int .i64 v)) :=
  ⟨by rw [show iv (b.set n v) = (iv b).set n (.int .i64 v) from List.map_set]; exact h.own.set n _, h.row.keep (fun g hg => Below.heap_setCell wr _ _ g (by have := h.lo g hg; show g ≠ w.heap.size; omega)), h.lo, h.bel.setCell (Nat.le_refl _) _⟩
theorem OrI.put {w wr w4 : World} {L : Nat} {b l : List Int} {gs : Option Nat} {c g' c' : Nat} {x : Int} (h : OrI w L b l gs c wr) (ho : OwnR w4 25 g' (l.length + 1) c' (rv (l ++ [x]))) (hg : (wr.alloc (.cells #[.int .u64 x] 25)).grownBy w4 gs) (hor : gs = some g' ∨ wr.heap.size < g') : OrI w L b (l ++ [x]) (some g') c' w4 := by
  have hb := h.bel.alloc h.bel.size (.cells #[.int .u64 x] 25)
  have hl := h.own.lt
  refine ⟨h.own.keep ((hg.block _ (by rw [al_size]; omega) (fun e => by have := h.lo _ e.symm; omega)).trans (Below.heap_alloc _ _ _ hl)), ⟨(fun e => by cases e), fun g hgg => ?_⟩, fun g hgg => ?_, hb.grown hg hb.size (fun k hk => Nat.le_of_lt (h.lo k hk))⟩
  · injection hgg with hgg; subst hgg
    simpa using ho
  · injection hgg with hgg; subst hgg
    rcases hor with h1 | h1
    · exact h.lo g' h1
    · omega
def OrE (w : World) (r : Option (List Int)) (e : Ending) (w' : World) : Prop := Below w.heap.size w w' ∧ ((r = none ∧ e = .returned (.tuple #[.slice none 0 0, .int .i64 141])) ∨ ∃ l gs c, r = some l ∧ e = .returned (.tuple #[.slice (adr gs) l.length c, .int .i64 0]) ∧ NdR w' gs c l ∧ ∀ g, gs = some g → w.heap.size ≤ g)

set_option maxRecDepth 100000 in
set_option maxHeartbeats 8000000 in
theorem Order_any (gb : Nat) (N : List Int) (nx : Nat → List Nat) (w : World) (hg : GRE w gb N nx) (hb : ∀ i, ∀ x ∈ nx i, x < N.length) (hn : N.length ≤ 4096) (hnl : ∀ p, (nx p).length ≤ 4096) :
    Calls Tryz.prog 18 #[.pointer (some ⟨gb, 0, none⟩)] w (OrE w ((Sp.ord nx N.length N.length).map fun p => Sp.rfs N p.2)) := by
  obtain ⟨gn, cn, lo, xb, bl, cp, h⟩ := hg
  obtain ⟨M, hM⟩ := mk_ints0 N.length hn
  have HG : Hid (∀ W : World, Below w.heap.size w W → GR W gb N nx gn cn lo xb bl cp) := fun W hW => h.keep hW
  have HB : Hid ((∀ i, ∀ x ∈ nx i, x < N.length) ∧ ∀ p, (nx p).length ≤ 4096) := ⟨hb, hnl⟩
  have hc0 := h.c0
  have hb1 : Below w.heap.size w (w.alloc (.cells M 3)) := (Below.refl _ _).alloc (Nat.le_refl _) _
  have hc2 := (h.keep hb1).c2
  have H0 : Hid (OwnR (w.alloc (.cells M 3)) 3 w.heap.size N.length N.length (iv (Sp.wts nx N.length 0)) ∧ Below w.heap.size w (w.alloc (.cells M 3))) := ⟨(hM w).2, hb1⟩
  have hmake : ∀ W : World, (Instr.makeSlice 60 (.int .i64 (N.length : Int)) (.int .i64 (N.length : Int))).run Tryz.prog W = .ok (.slice (some ⟨W.heap.size, 0, none⟩) N.length N.length) (W.alloc (.cells M 3)) := fun W => (hM W).1
  clear h hM hb hnl hb1
  obtain ⟨L, hL⟩ : ∃ L, N.length = L := ⟨_, rfl⟩
  have HL : Hid (N.length = L) := hL
  rw [hL] at hn hc0 hc2 H0 hmake HB ⊢
  clear hL
  go_enter Tryz.func18, Tryz.ntmps18
  go_wp2_with fail
  clear hc0 hc2 hmake
  go_loopw [24] (fun v24 wr => ∃ i : Nat, v24 = .int .i64 (i : Int) ∧ i ≤ L ∧ Hid (OwnR wr 3 w.heap.size L L (iv (Sp.wts nx L i)) ∧ Below w.heap.size w wr)) (fun v24 _ => L - (intOf v24).toNat)
  case atStart => exact ⟨0, rfl, Nat.zero_le _, H0.out⟩
  case round =>
    as_aux_lemma =>
    clear H0
    obtain ⟨i, rfl, hi, HR⟩ := hrel
    by_cases hiL : i < L
    · have hiz : (i : Int) < (L : Int) := by omega
      have HGk : Hid (GR wr gb N nx gn cn lo xb bl cp) := HG.out wr HR.out.2
      have hcr : wr.cell? ⟨xb, i, none⟩ = some (.slice (adr (bl i)) (nx i).length (cp i)) := (HGk.out.row (by rw [HL.out]; exact hiL)).1
      have hnl := HB.out.2 i
      go_wp2_with fail
      have HR0 : Hid (OwnR wr 3 w.heap.size L L (iv (Sp.incs ((nx i).take 0) 1 (Sp.wts nx L i))) ∧ Below w.heap.size w wr) := HR.out
      clear hcr HGk HR
      as_aux_lemma =>
      go_loopw [30] (fun v30 wr2 => ∃ k : Nat, v30 = .int .i64 (k : Int) ∧ k ≤ (nx i).length ∧ Hid (OwnR wr2 3 w.heap.size L L (iv (Sp.incs ((nx i).take k) 1 (Sp.wts nx L i))) ∧ Below w.heap.size w wr2)) (fun v30 _ => (nx i).length - (intOf v30).toNat)
      case atStart => exact ⟨0, rfl, Nat.zero_le _, HR0.out⟩
      case round =>
        as_aux_lemma =>
        clear HR0
        obtain ⟨k, rfl, hk, HR⟩ := hrel
        by_cases hkl : k < (nx i).length
        · have hkz : (k : Int) < ((nx i).length : Int) := by omega
          obtain ⟨n, hx⟩ : ∃ n, (nx i)[k]? = some n := ⟨_, List.getElem?_eq_getElem hkl⟩
          have HGk : Hid (GR wr gb N nx gn cn lo xb bl cp) := HG.out wr HR.out.2
          obtain ⟨b, hbp, hcx⟩ := (HGk.out.row (by rw [HL.out]; exact hiL)).2 k n hx
          have had : adr (bl i) = some ⟨b, 0, none⟩ := by rw [hbp]; rfl
          have hnL : n < L := HB.out.1 i n (List.mem_of_getElem? hx)
          have hnz : (n : Int) < (L : Int) := by omega
          obtain ⟨B, hB⟩ : ∃ B, Sp.incs ((nx i).take k) 1 (Sp.wts nx L i) = B := ⟨_, rfl⟩
          have HRB : Hid (OwnR wr 3 w.heap.size L L (iv B) ∧ Below w.heap.size w wr) := by rw [← hB]; exact HR.out
          have hBl : B.length = L := by rw [← hB, incs_len, wts_len]
          obtain ⟨v, hv⟩ : ∃ v, B[n]? = some v := ⟨_, List.getElem?_eq_getElem (by omega)⟩
          have hcn := HRB.out.1.cell (t := n) (x := .int .i64 v) (by simp [iv, hv])
          have hfn := HRB.out.1.free n
          have HS : Hid (Sp.incs ((nx i).take (k + 1)) 1 (Sp.wts nx L i) = B.set n (wrap64 (v + 1))) := by
            show _ = _
            rw [incs_snoc hx, hB, Sp.inc, List.getD_eq_getElem?_getD, hv]; rfl
          have HF : Hid (OwnR (wr.setCell ⟨w.heap.size, n, none⟩ (.int .i64 (wrap64 (v + 1)))) 3 w.heap.size L L (iv (Sp.incs ((nx i).take (k + 1)) 1 (Sp.wts nx L i))) ∧ Below w.heap.size w (wr.setCell ⟨w.heap.size, n, none⟩ (.int .i64 (wrap64 (v + 1))))) := by
            show _ ∧ _
            rw [HS.out, show iv (B.set n (wrap64 (v + 1))) = (iv B).set n (.int .i64 (wrap64 (v + 1))) from List.map_set]
            exact ⟨HRB.out.1.set n _, HRB.out.2.setCell (Nat.le_refl _) _⟩
          clear hx HGk hbp hB hv HR
          go_wp2_with fail
          go_roundw
          case rel => exact ⟨k + 1, by go_num, by omega, HF.out⟩
          case measure => simp [intOf]; omega
        · obtain rfl : k = (nx i).length := by omega
          have htk : (nx i).take (nx i).length = nx i := List.take_of_length_le (Nat.le_refl _)
          rw [htk] at HR
          clear htk
          go_wp2_with fail
          go_roundw
          case rel => exact ⟨i + 1, by go_num, by omega, HR.out⟩
          case measure => simp [intOf]; omega
    · obtain rfl : L = i := by omega
      clear hiL hi
      have hc0 := (HG.out wr HR.out.2).c0
      rw [HL.out] at hc0
      have H1 : Hid (OrI w L (Sp.wts nx L L) (Sp.rfs N []) none 0 wr) := ⟨HR.out.1, ⟨fun _ => ⟨rfl, rfl⟩, fun g hg => by cases hg⟩, (fun g hg => by cases hg), HR.out.2⟩
      clear HR
      go_wp2_with fail
      clear hc0
      as_aux_lemma =>
      go_loopw [9, 47] (fun v9 v47 wr2 => ∃ (k : Nat) (b : List Int) (l : List Nat) (gs : Option Nat) (c : Nat), v47 = .int .i64 (k : Int) ∧ k ≤ L ∧ v9 = .slice (adr gs) (Sp.rfs N l).length c ∧ Hid (Sp.ord nx L k = some (b, l)) ∧ Hid (OrI w L b (Sp.rfs N l) gs c wr2)) (fun _ v47 _ => L - (intOf v47).toNat)
      case atStart => exact ⟨0, Sp.wts nx L L, [], none, 0, rfl, Nat.zero_le _, rfl, rfl, H1.out⟩
      case round =>
        as_aux_lemma =>
        clear H1
        obtain ⟨k, b, l, gs, c, rfl, hk, rfl, HO, HR⟩ := hrel
        have hol := ord_len nx L k b l HO.out
        have hll : (Sp.rfs N l).length ≤ 4096 := by simp [Sp.rfs]; omega
        by_cases hkL : k < L
        · have hkz : (k : Int) < (L : Int) := by omega
          have HX : Hid (Calls Tryz.prog 37 #[.slice (some ⟨w.heap.size, 0, none⟩) L L, .int .i64 0] wr fun e w' => e = .returned (.int .i64 (Sp.nought b)) ∧ w' = wr) := index_any w.heap.size L b wr HR.out.own hn
          by_cases h0 : (0 : Int) ∈ b
          · obtain ⟨p, hp⟩ : ∃ p, b.idxOf 0 = p := ⟨_, rfl⟩
            have hpL : p < L := by rw [← hp, ← hol.1]; exact List.idxOf_lt_length_of_mem h0
            have hnt : Sp.nought b = (p : Int) := by rw [Sp.nought, if_pos h0, hp]
            rw [hnt] at HX
            have hpz : (p : Int) < (L : Int) := by omega
            have HO2 : Hid (Sp.ord nx L (k + 1) = some (Sp.incs (nx p) (-1) (b.set p (-1)), l ++ [p])) := by show _ = _; rw [Sp.ord, HO.out]; dsimp only; rw [if_pos h0, hp]
            have hpn : ¬ (p : Int) < 0 := by omega
            obtain ⟨v0, hv0⟩ : ∃ v, b[p]? = some v := ⟨_, List.getElem?_eq_getElem (by omega)⟩
            have hcp := HR.out.own.cell (t := p) (x := .int .i64 v0) (by simp [iv, hv0])
            have hfp := HR.out.own.free p
            have hb2 := (HG.out _ (HR.out.setw p (-1)).bel)
            have hc2 := hb2.c2
            have hcr := (hb2.row (by rw [HL.out]; exact hpL)).1
            have hnl := HB.out.2 p
            have H2 : Hid (OrI w L (Sp.incs ((nx p).take 0) (-1) (b.set p (-1))) (Sp.rfs N l) gs c (wr.setCell ⟨w.heap.size, p, none⟩ (.int .i64 (-1)))) := HR.out.setw p (-1)
            have hbl : (b.set p (-1)).length = L := by simpa using hol.1
            obtain ⟨b1, hb1⟩ : ∃ b1, b.set p (-1) = b1 := ⟨_, rfl⟩
            rw [hb1] at H2 HO2 hbl
            rw [HL.out] at hc2
            obtain ⟨W6, hW6⟩ : ∃ W6, wr.setCell ⟨w.heap.size, p, none⟩ (.int .i64 (-1)) = W6 := ⟨_, rfl⟩
            rw [hW6] at hc2 hcr H2
            clear hb2 hb1 hnt hp hv0 h0 HO HR hol
            go_wp2_with (go_at_call 37; refine HX.out.mono ?_; rintro e w4 ⟨rfl, rfl⟩)
            clear hc2 hcr hcp hfp hW6
            as_aux_lemma =>
            go_loopw [64] (fun v64 wr2 => ∃ j : Nat, v64 = .int .i64 (j : Int) ∧ j ≤ (nx p).length ∧ Hid (OrI w L (Sp.incs ((nx p).take j) (-1) b1) (Sp.rfs N l) gs c wr2)) (fun v64 _ => (nx p).length - (intOf v64).toNat)
            case atStart => exact ⟨0, rfl, Nat.zero_le _, H2.out⟩
            case round =>
              as_aux_lemma =>
              clear H2
              obtain ⟨j, rfl, hj, HR⟩ := hrel
              by_cases hjl : j < (nx p).length
              · have hjz : (j : Int) < ((nx p).length : Int) := by omega
                obtain ⟨n, hx⟩ : ∃ n, (nx p)[j]? = some n := ⟨_, List.getElem?_eq_getElem hjl⟩
                have HGk : Hid (GR wr gb N nx gn cn lo xb bl cp) := HG.out wr HR.out.bel
                obtain ⟨bb, hbp, hcx⟩ := (HGk.out.row (by rw [HL.out]; exact hpL)).2 j n hx
                have had : adr (bl p) = some ⟨bb, 0, none⟩ := by rw [hbp]; rfl
                have hnL : n < L := HB.out.1 p n (List.mem_of_getElem? hx)
                have hnz : (n : Int) < (L : Int) := by omega
                obtain ⟨B, hB⟩ : ∃ B, Sp.incs ((nx p).take j) (-1) b1 = B := ⟨_, rfl⟩
                have hBl : B.length = L := by rw [← hB, incs_len, hbl]
                obtain ⟨v, hv⟩ : ∃ v, B[n]? = some v := ⟨_, List.getElem?_eq_getElem (by omega)⟩
                have HRB : Hid (OrI w L B (Sp.rfs N l) gs c wr) := by rw [← hB]; exact HR.out
                have hcn := HRB.out.own.cell (t := n) (x := .int .i64 v) (by simp [iv, hv])
                have hfn := HRB.out.own.free n
                have HF : Hid (OrI w L (Sp.incs ((nx p).take (j + 1)) (-1) b1) (Sp.rfs N l) gs c (wr.setCell ⟨w.heap.size, n, none⟩ (.int .i64 (wrap64 (v - 1))))) := by
                  have e : Sp.incs ((nx p).take (j + 1)) (-1) b1 = B.set n (wrap64 (v - 1)) := by
                    rw [incs_snoc hx, hB, Sp.inc, List.getD_eq_getElem?_getD, hv]; rfl
                  show OrI _ _ _ _ _ _ _
                  rw [e]; exact HRB.out.setw n _
                clear hx HGk hbp hB hv HR
                go_wp2_with fail
                go_roundw
                case rel => exact ⟨j + 1, by go_num, by omega, HF.out⟩
                case measure => simp [intOf]; omega
              · obtain rfl : j = (nx p).length := by omega
                have htk : (nx p).take (nx p).length = nx p := List.take_of_length_le (Nat.le_refl _)
                rw [htk] at HR
                clear htk
                have hc0 := (HG.out wr HR.out.bel).c0
                rw [HL.out] at hc0
                obtain ⟨y, hy⟩ : ∃ y, N[p]? = some y := ⟨_, List.getElem?_eq_getElem (by rw [HL.out]; exact hpL)⟩
                have hnds := (HG.out wr HR.out.bel).nds
                obtain ⟨gN, rfl⟩ : ∃ g, gn = some g := by
                  cases gn with
                  | some g => exact ⟨g, rfl⟩
                  | none => have h1 := hnds.1 rfl; rw [h1] at hy; simp at hy
                have hcy : wr.cell? ⟨gN, p, none⟩ = some (.int .u64 y) := (hnds.2 gN rfl).cell (by simp [rv, hy])
                have hadN : adr (some gN) = some ⟨gN, 0, none⟩ := rfl
                obtain ⟨g', c', w4, hap, ho4, hgr4, hor4⟩ := appR gs c (Sp.rfs N l) wr HR.out.row y (by omega) 22
                have HF2 : Hid (OrI w L (Sp.incs (nx p) (-1) b1) (Sp.rfs N (l ++ [p])) (some g') c' w4 ∧ (Sp.rfs N (l ++ [p])).length = (Sp.rfs N l).length + 1) := by
                  have e : Sp.rfs N (l ++ [p]) = Sp.rfs N l ++ [y] := by simp [Sp.rfs, List.getD_eq_getElem?_getD, hy]
                  exact ⟨by rw [e]; exact HR.out.put ho4 hgr4 hor4, by rw [e]; simp⟩
                clear ho4 hgr4 hor4 hy hnds HR
                go_wp2_with (at_builtin; refine wpList_ranS _ rfl _ _ 22 22 rfl _ _ _ _ rfl rfl hap ?_)
                rw [← hadN]
                go_roundw
                case rel => exact ⟨k + 1, _, _, some g', c', by go_num, by omega, by rw [HF2.out.2]; rfl, HO2.out, HF2.out.1⟩
                case measure => simp [intOf]; omega
          · have hnt : Sp.nought b = -1 := by rw [Sp.nought, if_neg h0]
            rw [hnt] at HX
            have HNN : Hid (Sp.ord nx L L = none) := by
              have h1 : Sp.ord nx L (k + 1) = none := by rw [Sp.ord, HO.out]; dsimp only; rw [if_neg h0]
              have := ord_none h1 (L - (k + 1))
              rwa [show k + 1 + (L - (k + 1)) = L by omega] at this
            have HB2 : Hid (Below w.heap.size w wr) := HR.out.bel
            clear HR HO hnt h0 hol
            go_wp2_with (go_at_call 37; refine HX.out.mono ?_; rintro e w4 ⟨rfl, rfl⟩)
            go_ret2
            exact ⟨HB2.out, .inl ⟨by rw [HNN.out]; rfl, rfl⟩⟩
        · obtain rfl : k = L := by omega
          clear hol
          go_wp2_with fail
          go_ret2
          exact ⟨HR.out.bel, .inr ⟨_, gs, c, by rw [HO.out]; rfl, rfl, HR.out.row, fun g hg => Nat.le_of_lt (HR.out.lo g hg)⟩⟩
end Go.Proofs.YtikhpbidbcfedaaGreat

