/- tenonref14.far: how far each place is. -/
import Derived.Test.YtilhheianbbbjaaK23
import Derived.Test.YtilhheianbbbjaaK27
import Derived.Test.YtilhheianbbbjaaK29
namespace Go.Proofs.Ytilhheianbbbjaa
open Go.RowKit Go.ChangeMaps

def Sp.dsl (L : Nat) (s : Bf) : List Int := (List.range L).map s.dst
theorem dsl_len (L : Nat) (s : Bf) : (Sp.dsl L s).length = L := by simp [Sp.dsl]
theorem dsl_at {L i : Nat} (s : Bf) (h : i < L) : (Sp.dsl L s)[i]? = some (s.dst i) := by simp [Sp.dsl, h]
theorem dsl_put {L n p k : Nat} {s : Bf} : Sp.dsl L (s.put n p k) = (Sp.dsl L s).set n (k : Int) := by
  apply List.ext_getElem?
  intro t
  rw [List.getElem?_set, dsl_len]
  by_cases ht : t < L
  · rw [dsl_at _ ht, dsl_at _ ht]
    by_cases e : n = t
    · subst e; simp [Bf.dst, Bf.put, ht]
    · rw [if_neg e]; simp [Bf.dst, Bf.put, Ne.symm e]
  · rw [List.getElem?_eq_none (by rw [dsl_len]; omega), List.getElem?_eq_none (by rw [dsl_len]; omega)]
    by_cases e : n = t
    · subst e; simp [ht]
    · simp [e]
theorem dsl_no (L : Nat) : Sp.dsl L Bf.no = List.replicate L (-1) := by
  apply List.ext_getElem?
  intro t
  by_cases ht : t < L
  · rw [dsl_at _ ht]; simp [Bf.dst, Bf.no, ht]
  · rw [List.getElem?_eq_none (by rw [dsl_len]; omega), List.getElem?_eq_none (by simp; omega)]
structure FrI (w : World) (L gi : Nat) (s : Bf) (gs : Option Nat) (c : Nat) (wr : World) : Prop where
  bel : Below w.heap.size w wr
  out : OwnR wr 3 gi L L (iv (Sp.dsl L s))
  ord : NdI wr gs c (s.ord.map fun j : Nat => (j : Int))
  lo : w.heap.size ≤ gi ∧ ∀ g, gs = some g → w.heap.size ≤ g ∧ g ≠ gi
  ok : Bok L s
  lvb : ∀ x ∈ s.ord, s.lv x < s.ord.length
theorem FrI.at_ {w wr : World} {L gi : Nat} {s : Bf} {gs : Option Nat} {c : Nat} (h : FrI w L gi s gs c wr) {i : Nat} (hi : i < L) : wr.cell? ⟨gi, i, none⟩ = some (.int .i64 (s.dst i)) ∧ wr.frozen? ⟨gi, i, none⟩ = false :=
  ⟨h.out.cell (by simp [iv, dsl_at s hi]), h.out.free _⟩
theorem FrI.put {w wr w4 : World} {L gi : Nat} {s : Bf} {gs : Option Nat} {c g' c' n p k : Nat} (h : FrI w L gi s gs c wr) (hn : n < L) (hno : n ∉ s.ord) (hk : k ≤ s.ord.length)
    (ho : OwnR w4 3 g' (s.ord.length + 1) c' (iv (s.ord.map (fun j : Nat => (j : Int)) ++ [(n : Int)]))) (hg : ((wr.setCell ⟨gi, n, none⟩ (.int .i64 (k : Int))).alloc (.cells #[.int .i64 (n : Int)] 3)).grownBy w4 gs) (hor : gs = some g' ∨ (wr.setCell ⟨gi, n, none⟩ (.int .i64 (k : Int))).heap.size < g') :
    FrI w L gi (s.put n p k) (some g') c' w4 := by
  have hgl := h.out.lt
  have hs : (wr.setCell ⟨gi, n, none⟩ (.int .i64 (k : Int))).heap.size = wr.heap.size := by simp [World.setCell]
  rw [hs] at hor
  have hg' : w.heap.size ≤ g' ∧ g' ≠ gi := by
    rcases hor with h1 | h1
    · exact h.lo.2 g' h1
    · have := h.bel.size; exact ⟨by omega, by omega⟩
  have hgi : w4.heap[gi]? = (wr.setCell ⟨gi, n, none⟩ (.int .i64 (k : Int))).heap[gi]? := (hg.block gi (by rw [al_size, hs]; omega) (fun e => by have := (h.lo.2 gi e.symm).2; exact this rfl)).trans (Below.heap_alloc _ _ gi (by rw [hs]; exact hgl))
  have hb1 : Below w.heap.size w (wr.setCell ⟨gi, n, none⟩ (.int .i64 (k : Int))) := ⟨h.bel.os, h.bel.tape, h.bel.output, by rw [hs]; exact h.bel.size, fun k hk => (Below.heap_setCell wr _ _ k (show k ≠ gi by have := h.lo.1; omega)).trans (h.bel.block k hk)⟩
  have hb2 := hb1.alloc hb1.size (.cells #[.int .i64 (n : Int)] 3)
  refine ⟨hb2.grown hg hb2.size (fun k hk => (h.lo.2 k hk).1), ?_, ⟨(fun e => by cases e), fun g hgg => ?_⟩, ⟨h.lo.1, fun g hgg => ?_⟩, ?_, ?_⟩
  · have h1 := (h.out.set n (.int .i64 (k : Int))).keep hgi
    rw [dsl_put]
    rw [show iv ((Sp.dsl L s).set n (k : Int)) = (iv (Sp.dsl L s)).set n (.int .i64 (k : Int)) from List.map_set]
    exact h1
  · injection hgg with hgg; subst hgg
    have : (s.put n p k).ord = s.ord ++ [n] := rfl
    rw [this, List.map_append]
    simpa using ho
  · injection hgg with hgg; subst hgg; exact hg'
  · refine ⟨?_, fun x hx => ?_⟩
    · simp only [Bf.put, List.nodup_append]; exact ⟨h.ok.nd, by simp, fun x hx y hy => by simp at hy; subst hy; exact fun e => hno (e ▸ hx)⟩
    · simp [Bf.put] at hx; rcases hx with hx | rfl
      · exact h.ok.bd x hx
      · exact hn
  · intro x hx
    simp only [Bf.put, List.mem_append, List.mem_singleton] at hx
    simp only [Bf.put, List.length_append, List.length_singleton]
    by_cases e : x = n
    · rw [if_pos e]; omega
    · rw [if_neg e]; have := h.lvb x (hx.resolve_right e); omega
theorem Bok.put' {L n p k : Nat} (_ : Bok L Bf.no) (hn : n < L) : Bok L (Bf.no.put n p k) := ⟨by simp [Bf.put, Bf.no], fun x hx => by simp [Bf.put, Bf.no] at hx; rw [hx]; exact hn⟩
def FarE (w : World) (L : Nat) (s : Bf) (e : Ending) (w' : World) : Prop := ∃ gi, e = .returned (.slice (some ⟨gi, 0, none⟩) L L) ∧ OwnR w' 3 gi L L (iv (Sp.dsl L s)) ∧ w.heap.size ≤ gi ∧ Below w.heap.size w w'

set_option maxRecDepth 100000 in
set_option maxHeartbeats 8000000 in
theorem far_any (gb : Nat) (N : List Int) (nx : Nat → List Nat) (gn : Option Nat) (cn lo xb : Nat) (bl : Nat → Option Nat) (cp : Nat → Nat) (t0 : Nat) (w : World) (h : GR w gb N nx gn cn lo xb bl cp) (hsb : t0 < N.length) (hb : ∀ i, ∀ x ∈ nx i, x < N.length) (hn : N.length ≤ 4096) (hnl : ∀ p, (nx p).length ≤ 4096) :
    Calls Try.prog 28 #[.pointer (some ⟨gb, 0, none⟩), .int .i64 (t0 : Int)] w (FarE w N.length (Bf.all nx (-1) N.length [t0])) := by
  obtain ⟨Z, hmake, hZ⟩ := mk_ints N.length hn
  have HG : Hid (GR w gb N nx gn cn lo xb bl cp) := h
  have HB : Hid (t0 < N.length ∧ (∀ i, ∀ x ∈ nx i, x < N.length) ∧ ∀ p, (nx p).length ≤ 4096) := ⟨hsb, hb, hnl⟩
  have H0 : Hid (OwnR (w.alloc (.cells Z 3)) 3 w.heap.size N.length N.length (iv (Sp.nos N.length 0)) ∧ Below w.heap.size w (w.alloc (.cells Z 3))) := ⟨by simpa [Sp.nos] using hZ w, (Below.refl _ _).alloc (Nat.le_refl _) _⟩
  have hc0 := h.c0
  clear h hb hnl hZ
  obtain ⟨L, hL⟩ : ∃ L, N.length = L := ⟨_, rfl⟩
  have HL : Hid (N.length = L) := hL
  rw [hL] at hmake H0 hc0 hn hsb ⊢
  clear hL
  have htz : (t0 : Int) < (L : Int) := by omega
  go_enter Try.func28, Try.ntmps28
  go_wp2_with fail
  clear hmake
  go_loopw [6] (fun v6 wr => ∃ i : Nat, v6 = .int .i64 (i : Int) ∧ i ≤ L ∧ Hid (OwnR wr 3 w.heap.size L L (iv (Sp.nos L i)) ∧ Below w.heap.size w wr)) (fun v6 _ => L - (intOf v6).toNat)
  case atStart => exact ⟨0, rfl, Nat.zero_le _, H0.out⟩
  case round =>
    clear H0
    obtain ⟨i, rfl, hi, HS⟩ := hrel
    by_cases hlt : i < L
    · have hltz : (i : Int) < (L : Int) := by omega
      have hci : wr.cell? ⟨w.heap.size, i, none⟩ = some (.int .i64 0) := HS.out.1.cell (by simp only [iv, Sp.nos, List.map_append, List.map_replicate]; rw [List.getElem?_append_right (by simp), List.length_replicate, Nat.sub_self, List.getElem?_replicate, if_pos (by omega)])
      have hfi := HS.out.1.free i
      have HF : Hid (OwnR (wr.setCell ⟨w.heap.size, i, none⟩ (.int .i64 (-1))) 3 w.heap.size L L (iv (Sp.nos L (i + 1))) ∧ Below w.heap.size w (wr.setCell ⟨w.heap.size, i, none⟩ (.int .i64 (-1)))) := by
        refine ⟨?_, HS.out.2.os, HS.out.2.tape, HS.out.2.output, by simpa [World.setCell] using HS.out.2.size, fun k hk => (Below.heap_setCell wr _ _ k (show k ≠ w.heap.size by omega)).trans (HS.out.2.block k hk)⟩
        have h1 := HS.out.1.set i (.int .i64 (-1))
        have h2 : iv (Sp.nos L (i + 1)) = (iv (Sp.nos L i)).set i (.int .i64 (-1)) := by
          rw [show (iv (Sp.nos L i)).set i (.int .i64 (-1)) = iv ((Sp.nos L i).set i (-1)) from List.map_set.symm]
          congr 1
          unfold Sp.nos
          rw [List.set_append_right _ _ (by simp)]
          obtain ⟨d, hd⟩ : ∃ d, L - i = d + 1 := ⟨L - i - 1, by omega⟩
          rw [hd, show L - (i + 1) = d by omega, List.replicate_succ (n := d), List.length_replicate, Nat.sub_self, List.set_cons_zero, List.replicate_succ' (n := i), List.append_assoc]; rfl
        rw [h2]; exact h1
      go_wp2_with fail
      go_roundw
      case rel => exact ⟨i + 1, by go_num, by omega, HF.out⟩
      case measure => simp [intOf]; omega
    · obtain rfl : L = i := by omega
      have HFI : Hid (∀ (W4 : World), (wr.setCell ⟨w.heap.size, t0, none⟩ (.int .i64 0)).alloc (.cells #[.int .i64 (t0 : Int)] 3) = W4 → FrI w L w.heap.size (Bf.ini (-1) [t0] Bf.no) (some wr.heap.size) 1 W4) := fun W4 hW4 => by
        have h1 : OwnR wr 3 w.heap.size L L (iv (Sp.dsl L Bf.no)) := by have := HS.out.1; rw [dsl_no]; simpa [Sp.nos] using this
        have hz : (wr.setCell ⟨w.heap.size, t0, none⟩ (.int .i64 0)).heap.size = wr.heap.size := by simp [World.setCell]
        have e : Bf.ini (-1) [t0] Bf.no = Bf.no.put t0 t0 0 := by simp [Bf.ini, Bf.met, Bf.no]
        have hgl := h1.lt
        rw [e, ← hW4]
        refine ⟨?_, ?_, ⟨(fun e => by cases e), fun g hg => ?_⟩, ⟨Nat.le_refl _, fun g hg => ?_⟩, ?_, by simp [Bf.put, Bf.no]⟩
        · have hb1 : Below w.heap.size w (wr.setCell ⟨w.heap.size, t0, none⟩ (.int .i64 0)) := ⟨HS.out.2.os, HS.out.2.tape, HS.out.2.output, by rw [hz]; exact HS.out.2.size, fun k hk => (Below.heap_setCell wr _ _ k (show k ≠ w.heap.size by omega)).trans (HS.out.2.block k hk)⟩
          exact hb1.alloc hb1.size _
        · rw [dsl_put, show iv ((Sp.dsl L Bf.no).set t0 ((0 : Nat) : Int)) = (iv (Sp.dsl L Bf.no)).set t0 (.int .i64 0) from List.map_set]
          exact (h1.set t0 (.int .i64 0)).keep (Below.heap_alloc _ _ _ (by rw [hz]; exact hgl))
        · injection hg with hg; subst hg
          have := OwnR.alloc0 w 3
          refine ⟨by simp [iv, Bf.put, Bf.no], #[.int .i64 (t0 : Int)], ?_, by simp [Bf.put, Bf.no], by simp [maxLen], rfl, by simp [iv, Bf.put, Bf.no]⟩
          have h3 := heap_alloc_new (wr.setCell ⟨w.heap.size, t0, none⟩ (.int .i64 0)) (.cells #[.int .i64 (t0 : Int)] 3)
          rw [hz] at h3; exact h3
        · injection hg with hg; subst hg; exact ⟨HS.out.2.size, by omega⟩
        · exact (Bok.no L).put' hsb
      have hct0 : wr.cell? ⟨w.heap.size, t0, none⟩ = some (.int .i64 (-1)) := HS.out.1.cell (by simp [iv, Sp.nos, hsb])
      have hft0 := HS.out.1.free t0
      have HALL : Hid (Bf.all nx (-1) L [t0] = Bf.rnd nx (-1) (Bf.ini (-1) [t0] Bf.no) L) := rfl
      have HR0 : Hid (Bf.rnd nx (-1) (Bf.ini (-1) [t0] Bf.no) 0 = Bf.ini (-1) [t0] Bf.no) := rfl
      have HSC : Hid (∀ k, Bf.rnd nx (-1) (Bf.ini (-1) [t0] Bf.no) (k + 1) = if k < (Bf.rnd nx (-1) (Bf.ini (-1) [t0] Bf.no) k).ord.length then Bf.row (-1) ((Bf.rnd nx (-1) (Bf.ini (-1) [t0] Bf.no) k).ord.getD k 0) (nx ((Bf.rnd nx (-1) (Bf.ini (-1) [t0] Bf.no) k).ord.getD k 0)) (Bf.rnd nx (-1) (Bf.ini (-1) [t0] Bf.no) k) else Bf.rnd nx (-1) (Bf.ini (-1) [t0] Bf.no) k) := fun k => rfl
      have HEN : Hid (∀ k, (Bf.rnd nx (-1) (Bf.ini (-1) [t0] Bf.no) k).ord.length ≤ k → k ≤ L → Bf.rnd nx (-1) (Bf.ini (-1) [t0] Bf.no) L = Bf.rnd nx (-1) (Bf.ini (-1) [t0] Bf.no) k) := fun k h1 h2 => rnd_end h1 h2
      generalize Bf.rnd nx (-1) (Bf.ini (-1) [t0] Bf.no) = R at HALL HSC HEN HR0
      go_wp2_with fail
      go_loopw [7, 8] (fun v8 v10 wr => ∃ (k : Nat) (gs : Option Nat) (c m : Nat), v10 = .int .i64 k ∧ k ≤ m ∧ m ≤ L ∧ v8 = .slice (adr gs) m c ∧ Hid (m = (R k).ord.length) ∧ Hid (FrI w L w.heap.size (R k) gs c wr)) (fun _ v10 _ => L - (intOf v10).toNat)
      case atStart => exact ⟨0, some wr.heap.size, 1, 1, rfl, Nat.zero_le _, by omega, rfl, by show _ = _; rw [HR0.out]; simp [Bf.ini, Bf.met, Bf.no, Bf.put], by show FrI _ _ _ _ _ _ _; rw [HR0.out]; exact HFI.out _ rfl⟩
      case round =>
        clear HS
        obtain ⟨k, gs, c, m, rfl, hk, hmL, rfl, HM, HS⟩ := hrel
        by_cases hkm : k < m
        · have hkz : (k : Int) < (m : Int) := by omega
          have hko : k < (R k).ord.length := by rw [← HM.out]; exact hkm
          obtain ⟨p, hp⟩ : ∃ p, (R k).ord[k]? = some p := ⟨_, List.getElem?_eq_getElem hko⟩
          have hpL : p < L := HS.out.ok.bd p (List.mem_of_getElem? hp)
          have hpz : (p : Int) < (L : Int) := by omega
          have HPK : Hid (R (k + 1) = Bf.row (-1) p (nx p) (R k)) := by
            show _ = _
            rw [HSC.out k, if_pos hko]
            have : (R k).ord.getD k 0 = p := by rw [List.getD_eq_getElem?_getD, hp]; rfl
            rw [this]
          obtain ⟨go, rfl⟩ : ∃ g, gs = some g := by
            cases gs with
            | some g => exact ⟨g, rfl⟩
            | none => have := (HS.out.ord.1 rfl).1; rw [List.map_eq_nil_iff] at this; rw [this] at hko; simp at hko
          have hpc : wr.cell? ⟨go, k, none⟩ = some (.int .i64 (p : Nat)) := (HS.out.ord.2 go rfl).cell (by simp [iv, hp])
          have HGk : Hid (GR wr gb N nx gn cn lo xb bl cp) := HG.out.keep HS.out.bel
          have hc2 : wr.cell? ⟨gb, 2, none⟩ = some (.slice (some ⟨xb, 0, none⟩) L L) := by rw [← HL.out]; exact HGk.out.c2
          have hcr : wr.cell? ⟨xb, p, none⟩ = some (.slice (adr (bl p)) (nx p).length (cp p)) := (HGk.out.row (by rw [HL.out]; exact hpL)).1
          have hnl := HB.out.2.2 p
          have hads : adr (some go) = some ⟨go, 0, none⟩ := rfl
          have HPO : Hid ((R k).ord[k]? = some p) := hp
          clear hp
          go_wp2_with fail
          go_region
          go_wp2_with fail
          have HS0 : Hid (FrI w L w.heap.size (Bf.row (-1) p ((nx p).take 0) (R k)) (some go) c wr.drew) := ⟨HS.out.bel.drew, HS.out.out.keep rfl, HS.out.ord.keep (fun _ _ => rfl), HS.out.lo, HS.out.ok, HS.out.lvb⟩
          have HM0 : Hid (m = (Bf.row (-1) p ((nx p).take 0) (R k)).ord.length) := HM.out
          have HKL : Hid (k < (R k).ord.length) := hko
          have HML : Hid (m ≤ (R (k + 1)).ord.length) := by rw [HPK.out, HM.out]; exact row_len _ _
          clear hpc hc2 hcr HGk hko HS HM hads
          go_loopw [7, 10] (fun v8 v12 wr2 => ∃ (j : Nat) (gs : Option Nat) (c m : Nat), v12 = .int .i64 j ∧ j ≤ (nx p).length ∧ v8 = .slice (adr gs) m c ∧ Hid (m = (Bf.row (-1) p ((nx p).take j) (R k)).ord.length) ∧ Hid (FrI w L w.heap.size (Bf.row (-1) p ((nx p).take j) (R k)) gs c wr2)) (fun _ v12 _ => (nx p).length - (intOf v12).toNat)
          case atStart => exact ⟨0, some go, c, m, rfl, Nat.zero_le _, rfl, HM0.out, HS0.out⟩
          case round =>
            clear HM0 HS0
            obtain ⟨j, gs, c, m, rfl, hj, rfl, HM, HS⟩ := hrel
            by_cases hlt : j < (nx p).length
            · have hltz : (j : Int) < ((nx p).length : Int) := by omega
              obtain ⟨n, hx⟩ : ∃ n, (nx p)[j]? = some n := ⟨_, List.getElem?_eq_getElem hlt⟩
              have HGk : Hid (GR wr gb N nx gn cn lo xb bl cp) := HG.out.keep HS.out.bel
              obtain ⟨b, hbp, hcx⟩ := (HGk.out.row (by rw [HL.out]; exact hpL)).2 j n hx
              have hbl : b < w.heap.size := HG.out.nxt.lt.2 p b (by rw [HL.out]; exact hpL) hbp
              have had : adr (bl p) = some ⟨b, 0, none⟩ := by rw [hbp]; rfl
              have hnL : n < L := by rw [← HL.out]; exact HB.out.2.1 p n (List.mem_of_getElem? hx)
              have hnz : (n : Int) < (L : Int) := by omega
              obtain ⟨hci, hfi⟩ := HS.out.at_ hnL
              have HN2 : Hid (Bf.row (-1) p ((nx p).take (j + 1)) (R k) = (Bf.row (-1) p ((nx p).take j) (R k)).met (-1) n p ((Bf.row (-1) p ((nx p).take j) (R k)).lv p + 1)) := row_snoc hx
              have hpk : (Bf.row (-1) p ((nx p).take j) (R k)).ord[k]? = some p := row_pre _ _ HPO.out
              clear hx HGk hbp
              generalize Bf.row (-1) p ((nx p).take j) (R k) = s at *
              by_cases hin : n ∈ s.ord
              · have hdz : ¬ (s.dst n < 0) := by simp only [Bf.dst, if_pos hin]; omega
                have HF : Hid (s.met (-1) n p (s.lv p + 1) = s) := by show _ = _; unfold Bf.met; rw [if_neg (fun h => h.2 hin)]
                clear hfi
                go_wp2_with fail
                go_roundw
                case rel => exact ⟨j + 1, gs, c, m, by go_num, by omega, rfl, by show _ = _; rw [HN2.out, HF.out]; exact HM.out, by show FrI _ _ _ _ _ _ _; rw [HN2.out, HF.out]; exact HS.out⟩
                case measure => simp [intOf]; omega
              · have hdz : s.dst n < 0 := by simp only [Bf.dst, if_neg hin]; omega
                have HF : Hid (s.met (-1) n p (s.lv p + 1) = s.put n p (s.lv p + 1)) := by show _ = _; unfold Bf.met; rw [if_pos ⟨by omega, hin⟩]
                have hml : m ≤ 4096 := by rw [HM.out]; have := HS.out.ok.len; omega
                have hpm := List.mem_of_getElem? hpk
                have hlv := HS.out.lvb p hpm
                obtain ⟨go2, rfl⟩ : ∃ g, gs = some g := by
                  cases gs with
                  | some g => exact ⟨g, rfl⟩
                  | none => have := (HS.out.ord.1 rfl).1; rw [List.map_eq_nil_iff] at this; rw [this] at hpm; simp at hpm
                have hads : adr (some go2) = some ⟨go2, 0, none⟩ := rfl
                have hpc : wr.cell? ⟨go2, k, none⟩ = some (.int .i64 (p : Nat)) := (HS.out.ord.2 go2 rfl).cell (by simp [iv, hpk])
                have hkm2 : k < m := by rw [HM.out]; exact (List.getElem?_eq_some_iff.1 hpk).1
                have hkz2 : (k : Int) < (m : Int) := by omega
                have hdp : wr.cell? ⟨w.heap.size, p, none⟩ = some (.int .i64 (s.lv p : Int)) := by
                  have := (HS.out.at_ hpL).1
                  simpa only [Bf.dst, if_pos hpm] using this
                obtain ⟨V, hV⟩ : ∃ V, s.lv p = V := ⟨_, rfl⟩
                rw [hV] at hdp HF HN2 hlv
                have hwr : IntKind.i64.wrap ((V : Int) + 1) = (V : Int) + 1 := by
                  have h9 := HS.out.ok.len
                  exact Go.wrap_small _ (by omega) (by omega)
                have hoI : NdI (wr.setCell ⟨w.heap.size, n, none⟩ (.int .i64 ((V : Int) + 1))) (some go2) c (s.ord.map fun j : Nat => (j : Int)) := HS.out.ord.keep (fun g hg => Below.heap_setCell wr _ _ g (HS.out.lo.2 g hg).2)
                obtain ⟨W5, hW5⟩ : ∃ W5, (wr.setCell ⟨w.heap.size, n, none⟩ (.int .i64 ((V : Int) + 1))).drew = W5 := ⟨_, rfl⟩
                have hcx2 : W5.cell? ⟨b, j, none⟩ = some (.int .i64 (n : Nat)) := by
                  rw [← hW5]; show (wr.setCell ⟨w.heap.size, n, none⟩ (.int .i64 ((V : Int) + 1))).cell? _ = _
                  rw [World.cell?_of_block (w := wr) (Below.heap_setCell wr _ _ b (show b ≠ w.heap.size by omega))]; exact hcx
                have hoI5 : NdI W5 (some go2) c (s.ord.map fun j : Nat => (j : Int)) := by rw [← hW5]; exact hoI.keep (fun _ _ => rfl)
                obtain ⟨g', c', w4, hap, ho4, hgr4, hor4⟩ := appI (some go2) c (s.ord.map fun j : Nat => (j : Int)) W5 hoI5 (n : Int) (by rw [List.length_map, ← HM.out]; omega) 46
                rw [List.length_map, ← HM.out] at hap
                rw [List.length_map] at ho4
                have HF2 : Hid (FrI w L w.heap.size (s.put n p (V + 1)) (some g') c' w4) := HS.out.put (k := V + 1) hnL hin (by omega) ho4 (by
                  rw [← hW5] at hgr4
                  exact ⟨hgr4.os, hgr4.tape, hgr4.output, hgr4.size, hgr4.block⟩) (by rw [← hW5] at hor4; exact hor4)
                clear ho4 hgr4 hor4 hoI hoI5 hV
                rw [hads] at hap
                go_wp2_with fail
                go_region
                try rw [hW5]
                go_wp2_with (at_builtin; refine wpList_ranS _ rfl _ _ 46 46 rfl _ _ _ _ rfl rfl hap ?_)
                rw [← had]
                go_roundw
                case rel => exact ⟨j + 1, some g', c', m + 1, by go_num, by omega, rfl, by show _ = _; rw [HN2.out, HF.out, HM.out]; simp [Bf.put], by show FrI _ _ _ _ _ _ _; rw [HN2.out, HF.out]; exact HF2.out⟩
                case measure => simp [intOf]; omega
            · obtain rfl : j = (nx p).length := by omega
              have htk : (nx p).take (nx p).length = nx p := List.take_of_length_le (Nat.le_refl _)
              rw [htk, ← HPK.out] at HM HS
              clear htk
              go_wp2_with fail
              go_roundw
              case rel => exact ⟨k + 1, gs, c, m, by go_num, by have := HKL.out; have := HML.out; have := HM.out; omega, by rw [HM.out]; exact HS.out.ok.len, rfl, HM.out, HS.out⟩
              case measure => simp [intOf]; omega
        · have HF : Hid (Bf.all nx (-1) L [t0] = R k) := by
            show _ = _
            rw [HALL.out]; exact HEN.out k (by rw [← HM.out]; omega) (by omega)
          go_wp2_with fail
          go_ret
          exact ⟨w.heap.size, rfl, by rw [HF.out]; exact HS.out.out, Nat.le_refl _, HS.out.bel⟩
end Go.Proofs.Ytilhheianbbbjaa

