/- tenonref14.reach: who is reached. -/
import Derived.Test.YtilhheianbbbjaaK21
import Derived.Test.YtilhheianbbbjaaK16
namespace Go.Proofs.Ytilhheianbbbjaa
open Go.RowKit Go.ChangeMaps

theorem Try.infoB2 : (Try.prog.info? 4).map (fun i => (i.zero, i.size, i.bytes)) = some (some (.bool false), 1, 1) := by kernel_rfl
theorem Try.undB2 : Try.prog.underlying 54 = some (.slice 4) := by kernel_rfl
theorem mk_bls (n : Nat) (hn : n ≤ 4096) : ∃ Z, (∀ W : World, (Instr.makeSlice 54 (.int .i64 (n : Int)) (.int .i64 (n : Int))).run Try.prog W = .ok (.slice (some ⟨W.heap.size, 0, none⟩) n n) (W.alloc (.cells Z 4))) ∧ ∀ W : World, OwnR (W.alloc (.cells Z 4)) 4 W.heap.size n n (bv (List.replicate n false)) := by
  obtain ⟨i0, hi, hz0, hz1, hz2⟩ := info_parts Try.infoB2
  obtain ⟨Z, hM⟩ : ∃ Z, Z = madeCells (Value.bool false).cells (((n : Nat) : Int).toNat * i0.size) := ⟨_, rfl⟩
  have hMs : Z.size = n := by rw [hM, size_madeCells, hz1]; simp
  have hMt : ∀ t, t < n → Z[t]? = some (.bool false) := fun t ht => by rw [hM]; simp [madeCells, hz1, ht, Value.cells, Nat.mod_one]
  refine ⟨Z, fun W => ?_, fun W => ?_⟩
  · have h := run_make (P := Try.prog) W 54 4 i0 (.bool false) Try.undB2 hi hz0 .i64 .i64 (n : Int) (n : Int) (by omega) (by omega) (by rw [hz2]; omega) (by omega)
    rw [← hM] at h; simpa using h
  · refine ⟨by simp [bv], Z, heap_alloc_new _ _, Nat.le_refl _, by simp [maxLen]; omega, hMs, ?_⟩
    apply List.ext_getElem?
    intro t
    by_cases ht : t < n
    · rw [List.getElem?_take, if_pos ht]
      have := hMt t ht
      simp [bv, ht]
      simpa using this.symm
    · rw [List.getElem?_eq_none (by simp [bv]; omega), List.getElem?_eq_none (by simp; omega)]
theorem bls_no (L : Nat) : Sp.bls L Bf.no = List.replicate L false := by
  apply List.ext_getElem?
  intro t
  by_cases ht : t < L
  · rw [bls_at _ ht]; simp [Bf.no, ht]
  · rw [List.getElem?_eq_none (by rw [bls_len]; omega), List.getElem?_eq_none (by simp; omega)]
def RchE (w : World) (L : Nat) (s : Bf) (e : Ending) (w' : World) : Prop := ∃ gi, e = .returned (.slice (some ⟨gi, 0, none⟩) L L) ∧ OwnR w' 4 gi L L (bv (Sp.bls L s)) ∧ w.heap.size ≤ gi ∧ Below w.heap.size w w'

set_option maxRecDepth 100000 in
set_option maxHeartbeats 8000000 in
theorem reach_any (gb : Nat) (N : List Int) (nx : Nat → List Nat) (gn : Option Nat) (cn lo xb : Nat) (bl : Nat → Option Nat) (cp : Nat → Nat) (a : Option Addr) (cap : Nat) (src : List Nat) (wo : Int) (w : World) (h : GR w gb N nx gn cn lo xb bl cp) (hs : InI w a src) (hsb : ∀ x ∈ src, x < N.length) (hb : ∀ i, ∀ x ∈ nx i, x < N.length) (hn : N.length ≤ 4096) (hl : src.length * 8 ≤ 140737488355328) (hnl : ∀ p, (nx p).length ≤ 4096) :
    Calls Try.prog 23 #[.pointer (some ⟨gb, 0, none⟩), .slice a src.length cap, .int .i64 wo] w (RchE w N.length (Bf.all nx wo N.length src)) := by
  obtain ⟨Z, hmake, hZ⟩ := mk_bls N.length hn
  have HG : Hid (GR w gb N nx gn cn lo xb bl cp ∧ InI w a src) := ⟨h, hs⟩
  have HB : Hid ((∀ x ∈ src, x < N.length) ∧ (∀ i, ∀ x ∈ nx i, x < N.length) ∧ ∀ p, (nx p).length ≤ 4096) := ⟨hsb, hb, hnl⟩
  have H0 : Hid (SrI w N.length w.heap.size Bf.no none 0 (w.alloc (.cells Z 4))) := ⟨(Below.refl _ _).alloc (Nat.le_refl _) _, by rw [bls_no]; exact hZ w, ⟨fun _ => ⟨rfl, rfl⟩, fun g hg => by cases hg⟩, ⟨Nat.le_refl _, fun g hg => by cases hg⟩, Bok.no _⟩
  have hc0 := h.c0
  clear h hs hsb hb hnl hZ
  obtain ⟨L, hL⟩ : ∃ L, N.length = L := ⟨_, rfl⟩
  have HL : Hid (N.length = L) := hL
  rw [hL] at hmake H0 hc0 hn
  rw [hL]
  clear hL
  go_enter Try.func23, Try.ntmps23
  go_wp2_with fail
  clear hmake
  go_loopw [8, 9] (fun v8 v9 wr => ∃ (i : Nat) (gs : Option Nat) (c m : Nat), v9 = .int .i64 i ∧ i ≤ src.length ∧ v8 = .slice (adr gs) m c ∧ Hid (m = (Bf.ini wo (src.take i) Bf.no).ord.length) ∧ Hid (SrI w L w.heap.size (Bf.ini wo (src.take i) Bf.no) gs c wr)) (fun _ v9 _ => src.length - (intOf v9).toNat)
  case atStart => exact ⟨0, none, 0, 0, rfl, Nat.zero_le _, rfl, rfl, H0.out⟩
  case round =>
    obtain ⟨i, gs, c, m, rfl, hi, rfl, HM, HS⟩ := hrel
    by_cases hlt : i < src.length
    · have hltz : (i : Int) < (src.length : Int) := by omega
      obtain ⟨n, hx⟩ : ∃ n, src[i]? = some n := ⟨_, List.getElem?_eq_getElem hlt⟩
      obtain ⟨b, o, rfl, hcx, hbl⟩ : ∃ b o, a = some ⟨b, o, none⟩ ∧ wr.cell? ⟨b, o + i, none⟩ = some (.int .i64 (n : Nat)) ∧ b < w.heap.size := by
        obtain ⟨b, o, h1, h2, h3⟩ := HG.out.2 i (.int .i64 (n : Nat)) (by simp [iv, hx])
        exact ⟨b, o, h1, by rw [World.cell?_of_block (w := w) (HS.out.bel.block b h2)]; exact h3, h2⟩
      have hnL : n < L := by rw [← HL.out]; exact HB.out.1 n (List.mem_of_getElem? hx)
      have hnz : (n : Int) < (L : Int) := by omega
      obtain ⟨hci, hfi⟩ := HS.out.at_ hnL
      have HN : Hid (Bf.ini wo (src.take (i + 1)) Bf.no = (Bf.ini wo (src.take i) Bf.no).met wo n n 0) := ini_snoc hx
      clear hx
      generalize Bf.ini wo (src.take i) Bf.no = s at *
      by_cases hwo : (n : Int) = wo
      · have hwb : ((n : Int) != wo) = false := by simp [hwo]
        have HF : Hid (s.met wo n n 0 = s) := by show _ = _; unfold Bf.met; rw [if_neg (fun h => h.1 hwo)]
        clear hci hfi
        go_wp2_with fail
        go_roundw
        case rel => exact ⟨i + 1, gs, c, m, by go_num, by omega, rfl, by show _ = _; rw [HN.out, HF.out]; exact HM.out, by show SrI _ _ _ _ _ _ _; rw [HN.out, HF.out]; exact HS.out⟩
        case measure => simp [intOf]; omega
      · have hwb : ((n : Int) != wo) = true := by simp [hwo]
        by_cases hin : n ∈ s.ord
        · rw [decide_eq_true hin] at hci
          have HF : Hid (s.met wo n n 0 = s) := by show _ = _; unfold Bf.met; rw [if_neg (fun h => h.2 hin)]
          clear hfi
          go_wp2_with fail
          go_roundw
          case rel => exact ⟨i + 1, gs, c, m, by go_num, by omega, rfl, by show _ = _; rw [HN.out, HF.out]; exact HM.out, by show SrI _ _ _ _ _ _ _; rw [HN.out, HF.out]; exact HS.out⟩
          case measure => simp [intOf]; omega
        · rw [decide_eq_false hin] at hci
          have HF : Hid (s.met wo n n 0 = s.put n n 0) := by show _ = _; unfold Bf.met; rw [if_pos ⟨hwo, hin⟩]
          have hml : m ≤ 4096 := by rw [HM.out]; have := HS.out.ok.len; omega
          have hgi := HS.out.bls.lt
          have hoI : NdI (wr.setCell ⟨w.heap.size, n, none⟩ (.bool true)) gs c (s.ord.map fun j : Nat => (j : Int)) := HS.out.ord.keep (fun g hg => Below.heap_setCell wr _ _ g (HS.out.lo.2 g hg).2)
          obtain ⟨W5, hW5⟩ : ∃ W5, wr.setCell ⟨w.heap.size, n, none⟩ (.bool true) = W5 := ⟨_, rfl⟩
          have hcx2 : W5.cell? ⟨b, o + i, none⟩ = some (.int .i64 (n : Nat)) := by
            rw [← hW5, World.cell?_of_block (w := wr) (Below.heap_setCell wr _ _ b (show b ≠ w.heap.size by omega))]; exact hcx
          rw [hW5] at hoI
          obtain ⟨g', c', w4, hap, ho4, hgr4, hor4⟩ := appI gs c (s.ord.map fun j : Nat => (j : Int)) W5 hoI (n : Int) (by rw [List.length_map, ← HM.out]; omega) 46
          rw [List.length_map, ← HM.out] at hap
          rw [List.length_map] at ho4
          have HF2 : Hid (SrI w L w.heap.size (s.put n n 0) (some g') c' w4) := HS.out.put hnL hin ho4 (by rw [hW5]; exact hgr4) (by rw [hW5]; exact hor4)
          clear ho4 hgr4 hor4 hoI hgi
          go_wp2_with (at_builtin; refine wpList_ranS _ rfl _ _ 46 46 rfl _ _ _ _ rfl rfl hap ?_)
          go_roundw
          case rel => exact ⟨i + 1, some g', c', m + 1, by go_num, by omega, rfl, by show _ = _; rw [HN.out, HF.out, HM.out]; simp [Bf.put], by show SrI _ _ _ _ _ _ _; rw [HN.out, HF.out]; exact HF2.out⟩
          case measure => simp [intOf]; omega
    · obtain rfl : i = src.length := by omega
      have htk : src.take src.length = src := List.take_of_length_le (Nat.le_refl _)
      rw [htk] at HM HS
      clear htk H0 hi hlt
      have HRN : Hid (∀ k, Bok L (Bf.rnd nx wo (Bf.ini wo src Bf.no) k)) := fun k => Bok.rnd HS.out.ok (by have := HB.out.2.1; rw [HL.out] at this; exact this) k
      have HALL : Hid (Bf.all nx wo L src = Bf.rnd nx wo (Bf.ini wo src Bf.no) L) := rfl
      have HR0 : Hid (Bf.rnd nx wo (Bf.ini wo src Bf.no) 0 = Bf.ini wo src Bf.no) := rfl
      have HSC : Hid (∀ k, Bf.rnd nx wo (Bf.ini wo src Bf.no) (k + 1) = if k < (Bf.rnd nx wo (Bf.ini wo src Bf.no) k).ord.length then Bf.row wo ((Bf.rnd nx wo (Bf.ini wo src Bf.no) k).ord.getD k 0) (nx ((Bf.rnd nx wo (Bf.ini wo src Bf.no) k).ord.getD k 0)) (Bf.rnd nx wo (Bf.ini wo src Bf.no) k) else Bf.rnd nx wo (Bf.ini wo src Bf.no) k) := fun k => rfl
      have HEN : Hid (∀ k, (Bf.rnd nx wo (Bf.ini wo src Bf.no) k).ord.length ≤ k → k ≤ L → Bf.rnd nx wo (Bf.ini wo src Bf.no) L = Bf.rnd nx wo (Bf.ini wo src Bf.no) k) := fun k h1 h2 => rnd_end h1 h2
      rw [← HR0.out] at HM HS
      clear HR0
      generalize Bf.rnd nx wo (Bf.ini wo src Bf.no) = R at HM HS HRN HALL HSC HEN
      go_wp2_with fail
      go_loopw [8, 10] (fun v8 v10 wr => ∃ (k : Nat) (gs : Option Nat) (c m : Nat), v10 = .int .i64 k ∧ k ≤ m ∧ m ≤ L ∧ v8 = .slice (adr gs) m c ∧ Hid (m = (R k).ord.length) ∧ Hid (SrI w L w.heap.size (R k) gs c wr)) (fun _ v10 _ => L - (intOf v10).toNat)
      case atStart => exact ⟨0, gs, c, m, rfl, Nat.zero_le _, by rw [HM.out]; exact HS.out.ok.len, rfl, HM.out, HS.out⟩
      case round =>
        clear HM HS
        obtain ⟨k, gs, c, m, rfl, hk, hmL, rfl, HM, HS⟩ := hrel
        by_cases hkm : k < m
        · have hkz : (k : Int) < (m : Int) := by omega
          have hko : k < (R k).ord.length := by rw [← HM.out]; exact hkm
          obtain ⟨p, hp⟩ : ∃ p, (R k).ord[k]? = some p := ⟨_, List.getElem?_eq_getElem hko⟩
          have hpL : p < L := HS.out.ok.bd p (List.mem_of_getElem? hp)
          have hpz : (p : Int) < (L : Int) := by omega
          have HPK : Hid (R (k + 1) = Bf.row wo p (nx p) (R k)) := by
            show _ = _
            rw [HSC.out k, if_pos hko]
            have : (R k).ord.getD k 0 = p := by rw [List.getD_eq_getElem?_getD, hp]; rfl
            rw [this]
          obtain ⟨go, rfl⟩ : ∃ g, gs = some g := by
            cases gs with
            | some g => exact ⟨g, rfl⟩
            | none => have := (HS.out.ord.1 rfl).1; rw [List.map_eq_nil_iff] at this; rw [this] at hko; simp at hko
          have hpc : wr.cell? ⟨go, k, none⟩ = some (.int .i64 (p : Nat)) := (HS.out.ord.2 go rfl).cell (by simp [iv, hp])
          have HGk : Hid (GR wr gb N nx gn cn lo xb bl cp) := HG.out.1.keep HS.out.bel
          have hc2 : wr.cell? ⟨gb, 2, none⟩ = some (.slice (some ⟨xb, 0, none⟩) L L) := by rw [← HL.out]; exact HGk.out.c2
          have hcr : wr.cell? ⟨xb, p, none⟩ = some (.slice (adr (bl p)) (nx p).length (cp p)) := (HGk.out.row (by rw [HL.out]; exact hpL)).1
          have hnl := HB.out.2.2 p
          have hads : adr (some go) = some ⟨go, 0, none⟩ := rfl
          clear hp
          go_wp2_with fail
          go_region
          go_wp2_with fail
          have HS0 : Hid (SrI w L w.heap.size (Bf.row wo p ((nx p).take 0) (R k)) (some go) c wr.drew) := ⟨HS.out.bel.drew, HS.out.bls.keep rfl, HS.out.ord.keep (fun _ _ => rfl), HS.out.lo, HS.out.ok⟩
          have HM0 : Hid (m = (Bf.row wo p ((nx p).take 0) (R k)).ord.length) := HM.out
          have HKL : Hid (k < (R k).ord.length) := hko
          have HML : Hid (m ≤ (R (k + 1)).ord.length) := by rw [HPK.out, HM.out]; exact row_len _ _
          clear hpc hc2 hcr HGk hko HS HM hads
          go_loopw [8, 12] (fun v8 v12 wr2 => ∃ (j : Nat) (gs : Option Nat) (c m : Nat), v12 = .int .i64 j ∧ j ≤ (nx p).length ∧ v8 = .slice (adr gs) m c ∧ Hid (m = (Bf.row wo p ((nx p).take j) (R k)).ord.length) ∧ Hid (SrI w L w.heap.size (Bf.row wo p ((nx p).take j) (R k)) gs c wr2)) (fun _ v12 _ => (nx p).length - (intOf v12).toNat)
          case atStart => exact ⟨0, some go, c, m, rfl, Nat.zero_le _, rfl, HM0.out, HS0.out⟩
          case round =>
            clear HM0 HS0
            obtain ⟨j, gs, c, m, rfl, hj, rfl, HM, HS⟩ := hrel
            by_cases hlt : j < (nx p).length
            · have hltz : (j : Int) < ((nx p).length : Int) := by omega
              obtain ⟨n, hx⟩ : ∃ n, (nx p)[j]? = some n := ⟨_, List.getElem?_eq_getElem hlt⟩
              have HGk : Hid (GR wr gb N nx gn cn lo xb bl cp) := HG.out.1.keep HS.out.bel
              obtain ⟨b, hbp, hcx⟩ := (HGk.out.row (by rw [HL.out]; exact hpL)).2 j n hx
              have hbl : b < w.heap.size := HG.out.1.nxt.lt.2 p b (by rw [HL.out]; exact hpL) hbp
              have had : adr (bl p) = some ⟨b, 0, none⟩ := by rw [hbp]; rfl
              have hnL : n < L := by rw [← HL.out]; exact HB.out.2.1 p n (List.mem_of_getElem? hx)
              have hnz : (n : Int) < (L : Int) := by omega
              obtain ⟨hci, hfi⟩ := HS.out.at_ hnL
              have HN : Hid (∃ q, Bf.row wo p ((nx p).take (j + 1)) (R k) = (Bf.row wo p ((nx p).take j) (R k)).met wo n p q) := ⟨_, row_snoc hx⟩
              clear hx HGk hbp
              obtain ⟨q, hN⟩ := HN.out
              have HN2 : Hid (Bf.row wo p ((nx p).take (j + 1)) (R k) = (Bf.row wo p ((nx p).take j) (R k)).met wo n p q) := hN
              clear hN HN
              generalize Bf.row wo p ((nx p).take j) (R k) = s at *
              by_cases hwo : (n : Int) = wo
              · have hwb : ((n : Int) != wo) = false := by simp [hwo]
                have HF : Hid (s.met wo n p q = s) := by show _ = _; unfold Bf.met; rw [if_neg (fun h => h.1 hwo)]
                clear hci hfi
                go_wp2_with fail
                go_roundw
                case rel => exact ⟨j + 1, gs, c, m, by go_num, by omega, rfl, by show _ = _; rw [HN2.out, HF.out]; exact HM.out, by show SrI _ _ _ _ _ _ _; rw [HN2.out, HF.out]; exact HS.out⟩
                case measure => simp [intOf]; omega
              · have hwb : ((n : Int) != wo) = true := by simp [hwo]
                by_cases hin : n ∈ s.ord
                · rw [decide_eq_true hin] at hci
                  have HF : Hid (s.met wo n p q = s) := by show _ = _; unfold Bf.met; rw [if_neg (fun h => h.2 hin)]
                  clear hfi
                  go_wp2_with fail
                  go_roundw
                  case rel => exact ⟨j + 1, gs, c, m, by go_num, by omega, rfl, by show _ = _; rw [HN2.out, HF.out]; exact HM.out, by show SrI _ _ _ _ _ _ _; rw [HN2.out, HF.out]; exact HS.out⟩
                  case measure => simp [intOf]; omega
                · rw [decide_eq_false hin] at hci
                  have HF : Hid (s.met wo n p q = s.put n p q) := by show _ = _; unfold Bf.met; rw [if_pos ⟨hwo, hin⟩]
                  have hml : m ≤ 4096 := by rw [HM.out]; have := HS.out.ok.len; omega
                  have hoI : NdI (wr.setCell ⟨w.heap.size, n, none⟩ (.bool true)) gs c (s.ord.map fun j : Nat => (j : Int)) := HS.out.ord.keep (fun g hg => Below.heap_setCell wr _ _ g (HS.out.lo.2 g hg).2)
                  obtain ⟨W5, hW5⟩ : ∃ W5, wr.setCell ⟨w.heap.size, n, none⟩ (.bool true) = W5 := ⟨_, rfl⟩
                  have hcx2 : W5.cell? ⟨b, j, none⟩ = some (.int .i64 (n : Nat)) := by
                    rw [← hW5, World.cell?_of_block (w := wr) (Below.heap_setCell wr _ _ b (show b ≠ w.heap.size by omega))]; exact hcx
                  rw [hW5] at hoI
                  obtain ⟨g', c', w4, hap, ho4, hgr4, hor4⟩ := appI gs c (s.ord.map fun j : Nat => (j : Int)) W5 hoI (n : Int) (by rw [List.length_map, ← HM.out]; omega) 46
                  rw [List.length_map, ← HM.out] at hap
                  rw [List.length_map] at ho4
                  have HF2 : Hid (SrI w L w.heap.size (s.put n p q) (some g') c' w4) := HS.out.put hnL hin ho4 (by rw [hW5]; exact hgr4) (by rw [hW5]; exact hor4)
                  clear ho4 hgr4 hor4 hoI
                  go_wp2_with (at_builtin; refine wpList_ranS _ rfl _ _ 46 46 rfl _ _ _ _ rfl rfl hap ?_)
                  rw [← had]
                  go_roundw
                  case rel => exact ⟨j + 1, some g', c', m + 1, by go_num, by omega, rfl, by show _ = _; rw [HN2.out, HF.out, HM.out]; simp [Bf.put], by show SrI _ _ _ _ _ _ _; rw [HN2.out, HF.out]; exact HF2.out⟩
                  case measure => simp [intOf]; omega
            · obtain rfl : j = (nx p).length := by omega
              have htk : (nx p).take (nx p).length = nx p := List.take_of_length_le (Nat.le_refl _)
              rw [htk, ← HPK.out] at HM HS
              clear htk
              go_wp2_with fail
              go_roundw
              case rel => exact ⟨k + 1, gs, c, m, by go_num, by have := HKL.out; have := HML.out; have := HM.out; omega, by rw [HM.out]; exact HS.out.ok.len, rfl, HM.out, HS.out⟩
              case measure => simp [intOf]; omega
        · have HF : Hid (Bf.all nx wo L src = R k) := by
            show _ = _
            rw [HALL.out]; exact HEN.out k (by rw [← HM.out]; omega) (by omega)
          go_wp2_with fail
          go_ret
          exact ⟨w.heap.size, rfl, by rw [HF.out]; exact HS.out.bls, Nat.le_refl _, HS.out.bel⟩
end Go.Proofs.Ytilhheianbbbjaa

