/- tenonlaw14.GraphOnce's first function literal: a node is entered. -/
import Derived.Test.YtikhpbidbcfedaaGreatKo38
import Derived.Test.YtikhpbidbcfedaaGreatKo17
namespace Go.Proofs.YtikhpbidbcfedaaGreat
open Go.RowKit Go.ChangeMaps

theorem rfs_in {N : List Int} (hN : N.Pairwise (· < ·)) {l : List Nat} {j : Nat} {x : Int} (hx : N[j]? = some x) (hl : ∀ y ∈ l, y < N.length) : x ∈ Sp.rfs N l ↔ j ∈ l := by
  rw [rfs_mem hl]
  refine ⟨fun ⟨i, hi, h⟩ => ?_, fun h => ⟨j, h, hx⟩⟩
  have h1 := idx_at2 (lt_nd hN) h
  have h2 := idx_at2 (lt_nd hN) hx
  rw [← h2, h1]; exact hi
theorem OnI.setk {N : List Int} {E : List (Int × Int)} {a2 : Option Addr} {cap2 be bi bo bp bk m0 : Nat} {s : On} {W : World} (h : OnI N E a2 cap2 be bi bo bp bk m0 s W) (hB : OnB E a2 be bi bo bp bk m0) (v : Bool) : OnI N E a2 cap2 be bi bo bp bk m0 ⟨s.i, s.o, s.p, v⟩ (W.setCell ⟨bk, 0, none⟩ (.bool v)) := by
  have e : ∀ j, j ≠ bk → (W.setCell ⟨bk, 0, none⟩ (.bool v)).heap[j]? = W.heap[j]? := fun j hj => Below.heap_setCell W _ _ j hj
  obtain ⟨gi, ci, go, co, gp, cp, h1, h2, h3, h4, h5, h6, h7, h8⟩ := h.rows
  have ho := hB.ord
  refine ⟨?_, (e be (by omega)).trans h.e, ⟨gi, ci, go, co, gp, cp, (e bi (by omega)).trans h1, (e bo (by omega)).trans h2, (e bp (by omega)).trans h3, h4.keep (fun g hg => e g (by have := h7 g (.inl hg); omega)), h5.keep (fun g hg => e g (by have := h7 g (.inr (.inl hg)); omega)), h6.keep (fun g hg => e g (by have := h7 g (.inr (.inr hg)); omega)), h7, h8⟩, fun t x hx => ?_, h.len, h.bd, by simpa [World.setCell] using h.sz⟩
  · rw [Sort.setCell_eq]; show (W.heap.modify bk _)[bk]? = _
    rw [Array.getElem?_modify, if_pos rfl, h.k]
    rfl
  · obtain ⟨b, o, e1, h9, h10⟩ := h.ev t x hx
    have hbl := e b (by have := hB.old t x hx b o e1; omega)
    exact ⟨b, o, e1, by rw [World.cell?_of_block (w := W) hbl]; exact h9, by rw [World.cell?_of_block (w := W) hbl]; exact h10⟩

set_option maxRecDepth 100000 in
set_option maxHeartbeats 16000000 in
theorem on1_any (N : List Int) (nx : Nat → List Nat) (E : List (Int × Int)) (a2 : Option Addr) (cap2 be bi bo bp bk m0 : Nat) (hN : N.Pairwise (· < ·)) (hE : ∀ i j x y, N[i]? = some x → N[j]? = some y → ((x, y) ∈ E ↔ j ∈ nx i)) (hl2 : E.length * 16 ≤ 140737488355328) (hB : OnB E a2 be bi bo bp bk m0) (s : On) (j : Nat) (x : Int) (W : World)
    (hx : N[j]? = some x) (h : OnI N E a2 cap2 be bi bo bp bk m0 s W) (hz : s.i.length + s.o.length < 16384) :
    Calls Tryz.prog 24 #[.int .u64 x, .pointer (some ⟨bk, 0, none⟩), .pointer (some ⟨bi, 0, none⟩), .pointer (some ⟨bp, 0, none⟩), .pointer (some ⟨be, 0, none⟩)] W fun e W' => e = .returned (.bool true) ∧ OnI N E a2 cap2 be bi bo bp bk m0 ((Sp.on nx).enter s j).2 W' ∧ KwO (Sp.onM bi bo bp bk m0) W W' := by
  obtain ⟨i, o, p, k⟩ := s
  have HI : Hid (OnI N E a2 cap2 be bi bo bp bk m0 ⟨i, o, p, k⟩ W) := h
  have HB : Hid (OnB E a2 be bi bo bp bk m0) := hB
  have HST : Hid (∀ W8 : World, Below W.heap.size W W8 → Hid (OnI N E a2 cap2 be bi bo bp bk m0 ⟨i, o, p, Sp.onE nx ⟨i, o, p, k⟩ j⟩ (W8.setCell ⟨bk, 0, none⟩ (.bool (Sp.onE nx ⟨i, o, p, k⟩ j))) ∧ KwO (Sp.onM bi bo bp bk m0) W (W8.setCell ⟨bk, 0, none⟩ (.bool (Sp.onE nx ⟨i, o, p, k⟩ j))))) := fun W8 hW8 => ⟨(h.keep hB hW8.size (fun q h1 _ => hW8.block q h1)).setk hB _, (⟨hW8.os, hW8.tape, hW8.output, hW8.size, fun q h1 _ => hW8.block q h1⟩ : KwO (Sp.onM bi bo bp bk m0) W W8).set (.inl fun _ => .inr (.inr (.inr (.inl rfl)))) _⟩
  have hbk : ∀ W8 : World, Below W.heap.size W W8 → W8.cell? ⟨bk, 0, none⟩ = some (.bool k) ∧ W8.frozen? ⟨bk, 0, none⟩ = false := fun W8 hW8 => by
    have := (hW8.block bk (Array.getElem?_eq_some_iff.1 h.k).1).trans h.k
    exact ⟨by simp [World.cell?, this], by simp [World.frozen?, this]⟩
  obtain ⟨gi, ci, go, co, gp, cp, h1, h2, h3, h4, h5, h6, h7, h8⟩ := h.rows
  dsimp only at h1 h2 h3 h4 h5 h6 hz
  have hlen : p.length ≤ i.length := h.len
  have hbdi : ∀ y ∈ i, y < N.length := fun y hy => h.bd y (.inl hy)
  have hbdp : ∀ y ∈ p, y < N.length := fun y hy => h.bd y (.inr (.inr hy))
  have hheld0 : W.drew.cell? ⟨bk, 0, none⟩ = some (.bool k) ∧ W.drew.cell? ⟨bi, 0, none⟩ = some (.slice (adr gi) i.length ci) ∧ W.drew.cell? ⟨bp, 0, none⟩ = some (.slice (adr gp) p.length cp) ∧ W.drew.cell? ⟨be, 0, none⟩ = some (.slice a2 E.length cap2) := by
    have k1 : W.cell? ⟨bk, 0, none⟩ = some (.bool k) := by simp [World.cell?, h.k]
    have k2 : W.cell? ⟨bi, 0, none⟩ = some (.slice (adr gi) i.length ci) := by simp [World.cell?, h1]
    have k3 : W.cell? ⟨bp, 0, none⟩ = some (.slice (adr gp) p.length cp) := by simp [World.cell?, h3]
    have k4 : W.cell? ⟨be, 0, none⟩ = some (.slice a2 E.length cap2) := by simp [World.cell?, h.e]
    exact ⟨k1, k2, k3, k4⟩
  have HC1 : Hid (∀ W8 : World, Below W.heap.size W W8 → Calls Tryz.prog 12 #[.slice (adr gi) i.length ci, .int .u64 x] W8 fun e w' => e = .returned (.bool (decide (j ∈ i))) ∧ Below W8.heap.size W8 w') := fun W8 hW8 => by
    have := rHas_any (adr gi) ci (Sp.rfs N i) x W8 (h4.rfv.keep hW8) (by rw [show (Sp.rfs N i).length = i.length by simp [Sp.rfs]]; omega)
    rw [show (Sp.rfs N i).length = i.length by simp [Sp.rfs]] at this
    rwa [decide_eq_decide.2 (rfs_in hN hx hbdi)] at this
  have hEV := h.ev
  have hlast : p ≠ [] → ∃ (q gp' : Nat) (y : Int), p.length = q + 1 ∧ gp = some gp' ∧ W.drew.cell? ⟨gp', q, none⟩ = some (.int .u64 y) ∧ ∀ W8 : World, Below W.heap.size W W8 → Calls Tryz.prog 13 #[.slice a2 E.length cap2, .int .u64 y, .int .u64 x] W8 fun e w' => e = .returned (.bool (decide (j ∈ nx (p.getD (p.length - 1) 0)))) ∧ Below W8.heap.size W8 w' := fun hp => by
    have hpl := List.length_pos_iff.2 hp
    obtain ⟨z, hq⟩ : ∃ z, p[p.length - 1]? = some z := ⟨_, List.getElem?_eq_getElem (by omega)⟩
    have hqb := hbdp _ (List.mem_of_getElem? hq)
    obtain ⟨yv, hy⟩ : ∃ v, N[z]? = some v := ⟨_, List.getElem?_eq_getElem hqb⟩
    have hr : (Sp.rfs N p)[p.length - 1]? = some yv := by
      unfold Sp.rfs
      rw [List.getElem?_map, hq, Option.map_some, List.getD_eq_getElem?_getD, hy]; rfl
    obtain ⟨gp', e1, kp⟩ := h6.at_ hr
    refine ⟨p.length - 1, gp', _, by omega, e1, kp, fun W8 hW8 => ?_⟩
    have := edge_any a2 cap2 E yv x W8 (hEV.keep hW8) hl2
    have hz : p.getD (p.length - 1) 0 = z := by rw [List.getD_eq_getElem?_getD, hq]; rfl
    have hiff : (yv, x) ∈ E ↔ j ∈ nx (p.getD (p.length - 1) 0) := by rw [hz]; exact hE z j _ x hy hx
    rwa [decide_eq_decide.2 hiff] at this
  have hkeep : ∀ (W1 W2 : World), Below W1.heap.size W1 W2 → ∀ (b q : Nat) (v : Value), W1.cell? ⟨b, q, none⟩ = some v → W2.cell? ⟨b, q, none⟩ = some v := fun W1 W2 hb b q v hv => by rw [World.cell?_of_block (w := W1) (hb.block b (World.block_lt_of_cell? _ _ hv))]; exact hv
  clear h1 h2 h3 h4 h5 h6 h7 h8 hEV h hB hbdi hbdp
  go_enter Tryz.func24, Tryz.ntmps24
  go_wp2_with fail
  go_upto_region 1 with fail
  go_cut [6] from 7 (fun v6 wc => v6 = .bool false ∧ Hid (OnI N E a2 cap2 be bi bo bp bk m0 ⟨i, o, p, Sp.onE nx ⟨i, o, p, k⟩ j⟩ wc ∧ KwO (Sp.onM bi bo bp bk m0) W wc))
  case first =>
    cases k with
    | false =>
      have HVV : Hid (Sp.onE nx ⟨i, o, p, false⟩ j = false) := rfl
      refine wp_region_mark (fun Z => Z.cell? ⟨bk, 0, none⟩ = some (.bool false) ∧ Z.cell? ⟨bi, 0, none⟩ = some (.slice (adr gi) i.length ci) ∧ Z.cell? ⟨bp, 0, none⟩ = some (.slice (adr gp) p.length cp) ∧ Z.cell? ⟨be, 0, none⟩ = some (.slice a2 E.length cap2)) 23 (by kernel_rfl) ?_
      have hBB : Below W.heap.size W W.drew := (Below.refl _ _).drew
      have hHeld : (fun Z : World => Z.cell? ⟨bk, 0, none⟩ = some (.bool false) ∧ Z.cell? ⟨bi, 0, none⟩ = some (.slice (adr gi) i.length ci) ∧ Z.cell? ⟨bp, 0, none⟩ = some (.slice (adr gp) p.length cp) ∧ Z.cell? ⟨be, 0, none⟩ = some (.slice a2 E.length cap2)) W.drew := hheld0
      dsimp only at hHeld
      refine tkM (i := 0) (v := ?_) [22, 7, 6, 1] rfl (by kernel_rfl) (by rfl) ?_ (by assumption) ?_
      rotate_left
      · intro Z hSw; (try dsimp only at hSw); go_simp; try (with_reducible rfl)
      simp only [Act.put, lsA, lsB, lsC]
      refine tkF (i := 1) (v := ?_) rfl (by kernel_rfl) (by rfl) ?_ (.inr (by assumption)) ?_
      rotate_left
      · intro Z hSw; go_simp; try (with_reducible rfl)
      simp only [Act.put, lsA, lsB, lsC]
      refine tkS (i := 2) rfl (by kernel_rfl) (by rfl) (.inr (by assumption)) ?_
      simp only [Act.put, lsA, lsB, lsC]
      refine tkS (i := 3) rfl (by kernel_rfl) (by rfl) (.inr (by assumption)) ?_
      simp only [Act.put, lsA, lsB, lsC]
      refine tkS (i := 4) rfl (by kernel_rfl) (by rfl) (.inr (by assumption)) ?_
      simp only [Act.put, lsA, lsB, lsC]
      refine tkS (i := 5) rfl (by kernel_rfl) (by rfl) (.inr (by assumption)) ?_
      simp only [Act.put, lsA, lsB, lsC]
      refine tkF (i := 6) (v := ?_) rfl (by kernel_rfl) (by rfl) ?_ (.inr (by assumption)) ?_
      rotate_left
      · intro Z hSw; go_simp; try (with_reducible rfl)
      simp only [Act.put, lsA, lsB, lsC]
      refine tkF (i := 7) (v := ?_) rfl (by kernel_rfl) (by rfl) ?_ (.inr (by assumption)) ?_
      rotate_left
      · intro Z hSw; go_simp; try (with_reducible rfl)
      simp only [Act.put, lsA, lsB, lsC]
      refine tkS (i := 8) rfl (by kernel_rfl) (by rfl) (.inr (by assumption)) ?_
      simp only [Act.put, lsA, lsB, lsC]
      refine tkS (i := 9) rfl (by kernel_rfl) (by rfl) (.inr (by assumption)) ?_
      simp only [Act.put, lsA, lsB, lsC]
      refine tkS (i := 10) rfl (by kernel_rfl) (by rfl) (.inr (by assumption)) ?_
      simp only [Act.put, lsA, lsB, lsC]
      refine tkS (i := 11) rfl (by kernel_rfl) (by rfl) (.inr (by assumption)) ?_
      simp only [Act.put, lsA, lsB, lsC]
      refine tkS (i := 12) rfl (by kernel_rfl) (by rfl) (.inr (by assumption)) ?_
      simp only [Act.put, lsA, lsB, lsC]
      refine tkS (i := 13) rfl (by kernel_rfl) (by rfl) (.inr (by assumption)) ?_
      simp only [Act.put, lsA, lsB, lsC]
      refine tkS (i := 14) rfl (by kernel_rfl) (by rfl) (.inr (by assumption)) ?_
      simp only [Act.put, lsA, lsB, lsC]
      refine tkS (i := 15) rfl (by kernel_rfl) (by rfl) (.inr (by assumption)) ?_
      simp only [Act.put, lsA, lsB, lsC]
      refine tkS (i := 16) rfl (by kernel_rfl) (by rfl) (.inr (by assumption)) ?_
      simp only [Act.put, lsA, lsB, lsC]
      refine tkS (i := 17) rfl (by kernel_rfl) (by rfl) (.inr (by assumption)) ?_
      simp only [Act.put, lsA, lsB, lsC]
      refine tkS (i := 18) rfl (by kernel_rfl) (by rfl) (.inr (by assumption)) ?_
      simp only [Act.put, lsA, lsB, lsC]
      refine tkS (i := 19) rfl (by kernel_rfl) (by rfl) (.inr (by assumption)) ?_
      simp only [Act.put, lsA, lsB, lsC]
      refine tkS (i := 20) rfl (by kernel_rfl) (by rfl) (.inr (by assumption)) ?_
      simp only [Act.put, lsA, lsB, lsC]
      refine tkS (i := 21) rfl (by kernel_rfl) (by rfl) (.inr (by assumption)) ?_
      simp only [Act.put, lsA, lsB, lsC]
      refine tkF (i := 22) (v := ?_) rfl (by kernel_rfl) (by rfl) ?_ (.inr (by assumption)) ?_
      rotate_left
      · intro Z hSw; go_simp; try (with_reducible rfl)
      simp only [Act.put, lsA, lsB, lsC]
      obtain ⟨kk, kf⟩ := hbk W.drew hBB
      refine tkO (i := 23) (by kernel_rfl) rfl (fun K0 hK => ?_)
      go_simp
      refine hK.out _ _ (.inl (by kernel_rfl)) ?_
      clear hK K0
      refine wpAnyM_done (by kernel_rfl) ?_ _
      have HFIN := HST.out W.drew hBB
      rw [HVV.out] at HFIN
      clear hHeld
      go_wp2_with fail
      go_meet
      refine ⟨rfl, ?_⟩
      rw [HVV.out]
      exact HFIN
    | true =>
      by_cases hj : j ∈ i
      · have HVV : Hid (Sp.onE nx ⟨i, o, p, true⟩ j = false) := by show _ = _; unfold Sp.onE; simp [hj]
        rw [decide_eq_true hj] at HC1
        refine wp_region_mark (fun Z => Z.cell? ⟨bk, 0, none⟩ = some (.bool true) ∧ Z.cell? ⟨bi, 0, none⟩ = some (.slice (adr gi) i.length ci) ∧ Z.cell? ⟨bp, 0, none⟩ = some (.slice (adr gp) p.length cp) ∧ Z.cell? ⟨be, 0, none⟩ = some (.slice a2 E.length cap2)) 23 (by kernel_rfl) ?_
        have hBB : Below W.heap.size W W.drew := (Below.refl _ _).drew
        have hHeld : (fun Z : World => Z.cell? ⟨bk, 0, none⟩ = some (.bool true) ∧ Z.cell? ⟨bi, 0, none⟩ = some (.slice (adr gi) i.length ci) ∧ Z.cell? ⟨bp, 0, none⟩ = some (.slice (adr gp) p.length cp) ∧ Z.cell? ⟨be, 0, none⟩ = some (.slice a2 E.length cap2)) W.drew := hheld0
        dsimp only at hHeld
        refine tkM (i := 0) (v := ?_) [22, 7, 6, 1] rfl (by kernel_rfl) (by rfl) ?_ (by assumption) ?_
        rotate_left
        · intro Z hSw; (try dsimp only at hSw); go_simp; try (with_reducible rfl)
        simp only [Act.put, lsA, lsB, lsC]
        refine tkF (i := 1) (v := ?_) rfl (by kernel_rfl) (by rfl) ?_ (.inr (by assumption)) ?_
        rotate_left
        · intro Z hSw; go_simp; try (with_reducible rfl)
        simp only [Act.put, lsA, lsB, lsC]
        refine tkM (i := 2) (v := ?_) [22, 7, 6, 5, 4] rfl (by kernel_rfl) (by rfl) ?_ (by assumption) ?_
        rotate_left
        · intro Z hSw; (try dsimp only at hSw); go_simp; try (with_reducible rfl)
        simp only [Act.put, lsA, lsB, lsC]
        refine tkF (i := 3) (v := ?_) rfl (by kernel_rfl) (by rfl) ?_ (.inr (by assumption)) ?_
        rotate_left
        · intro Z hSw; go_simp; try (with_reducible rfl)
        simp only [Act.put, lsA, lsB, lsC]
        refine tkO (i := 4) (by kernel_rfl) rfl (fun K0 hK => ?_)
        go_simp
        refine (HC1.out W.drew (Below.refl _ _).drew).mono ?_
        rintro e w8 ⟨rfl, hb8⟩
        have hHeld2 := (⟨hkeep _ _ hb8 _ _ _ hHeld.1, hkeep _ _ hb8 _ _ _ hHeld.2.1, hkeep _ _ hb8 _ _ _ hHeld.2.2.1, hkeep _ _ hb8 _ _ _ hHeld.2.2.2⟩ : (fun Z : World => Z.cell? ⟨bk, 0, none⟩ = some (.bool true) ∧ Z.cell? ⟨bi, 0, none⟩ = some (.slice (adr gi) i.length ci) ∧ Z.cell? ⟨bp, 0, none⟩ = some (.slice (adr gp) p.length cp) ∧ Z.cell? ⟨be, 0, none⟩ = some (.slice a2 E.length cap2)) w8)
        have hBB2 : Below W.heap.size W w8 := belT hBB hb8
        clear hb8 hHeld hBB
        have hHeld := hHeld2
        have hBB := hBB2
        clear hHeld2 hBB2
        try dsimp only at hHeld
        go_wp2_with fail
        refine hK.out _ _ (.inr hHeld) ?_
        clear hK K0
        refine tkF (i := 5) (v := ?_) rfl (by kernel_rfl) (by rfl) ?_ (.inr (by assumption)) ?_
        rotate_left
        · intro Z hSw; go_simp; try (with_reducible rfl)
        simp only [Act.put, lsA, lsB, lsC]
        refine tkF (i := 6) (v := ?_) rfl (by kernel_rfl) (by rfl) ?_ (.inr (by assumption)) ?_
        rotate_left
        · intro Z hSw; go_simp; try (with_reducible rfl)
        simp only [Act.put, lsA, lsB, lsC]
        refine tkF (i := 7) (v := ?_) rfl (by kernel_rfl) (by rfl) ?_ (.inr (by assumption)) ?_
        rotate_left
        · intro Z hSw; go_simp; try (with_reducible rfl)
        simp only [Act.put, lsA, lsB, lsC]
        refine tkS (i := 8) rfl (by kernel_rfl) (by rfl) (.inr (by assumption)) ?_
        simp only [Act.put, lsA, lsB, lsC]
        refine tkS (i := 9) rfl (by kernel_rfl) (by rfl) (.inr (by assumption)) ?_
        simp only [Act.put, lsA, lsB, lsC]
        refine tkS (i := 10) rfl (by kernel_rfl) (by rfl) (.inr (by assumption)) ?_
        simp only [Act.put, lsA, lsB, lsC]
        refine tkS (i := 11) rfl (by kernel_rfl) (by rfl) (.inr (by assumption)) ?_
        simp only [Act.put, lsA, lsB, lsC]
        refine tkS (i := 12) rfl (by kernel_rfl) (by rfl) (.inr (by assumption)) ?_
        simp only [Act.put, lsA, lsB, lsC]
        refine tkS (i := 13) rfl (by kernel_rfl) (by rfl) (.inr (by assumption)) ?_
        simp only [Act.put, lsA, lsB, lsC]
        refine tkS (i := 14) rfl (by kernel_rfl) (by rfl) (.inr (by assumption)) ?_
        simp only [Act.put, lsA, lsB, lsC]
        refine tkS (i := 15) rfl (by kernel_rfl) (by rfl) (.inr (by assumption)) ?_
        simp only [Act.put, lsA, lsB, lsC]
        refine tkS (i := 16) rfl (by kernel_rfl) (by rfl) (.inr (by assumption)) ?_
        simp only [Act.put, lsA, lsB, lsC]
        refine tkS (i := 17) rfl (by kernel_rfl) (by rfl) (.inr (by assumption)) ?_
        simp only [Act.put, lsA, lsB, lsC]
        refine tkS (i := 18) rfl (by kernel_rfl) (by rfl) (.inr (by assumption)) ?_
        simp only [Act.put, lsA, lsB, lsC]
        refine tkS (i := 19) rfl (by kernel_rfl) (by rfl) (.inr (by assumption)) ?_
        simp only [Act.put, lsA, lsB, lsC]
        refine tkS (i := 20) rfl (by kernel_rfl) (by rfl) (.inr (by assumption)) ?_
        simp only [Act.put, lsA, lsB, lsC]
        refine tkS (i := 21) rfl (by kernel_rfl) (by rfl) (.inr (by assumption)) ?_
        simp only [Act.put, lsA, lsB, lsC]
        refine tkF (i := 22) (v := ?_) rfl (by kernel_rfl) (by rfl) ?_ (.inr (by assumption)) ?_
        rotate_left
        · intro Z hSw; go_simp; try (with_reducible rfl)
        simp only [Act.put, lsA, lsB, lsC]
        obtain ⟨kk, kf⟩ := hbk w8 hBB
        refine tkO (i := 23) (by kernel_rfl) rfl (fun K0 hK => ?_)
        go_simp
        refine hK.out _ _ (.inl (by kernel_rfl)) ?_
        clear hK K0
        refine wpAnyM_done (by kernel_rfl) ?_ _
        have HFIN := HST.out w8 hBB
        rw [HVV.out] at HFIN
        clear hHeld
        go_wp2_with fail
        go_meet
        refine ⟨rfl, ?_⟩
        rw [HVV.out]
        exact HFIN
      · rw [decide_eq_false hj] at HC1
        by_cases hp : p = []
        · have HVV : Hid (Sp.onE nx ⟨i, o, p, true⟩ j = true) := by show _ = _; unfold Sp.onE; simp [hj, hp]
          have hp0 : p.length = 0 := by rw [hp]; rfl
          rw [hp0] at hheld0
          clear hlast hp hj
          refine wp_region_mark (fun Z => Z.cell? ⟨bk, 0, none⟩ = some (.bool true) ∧ Z.cell? ⟨bi, 0, none⟩ = some (.slice (adr gi) i.length ci) ∧ Z.cell? ⟨bp, 0, none⟩ = some (.slice (adr gp) 0 cp) ∧ Z.cell? ⟨be, 0, none⟩ = some (.slice a2 E.length cap2)) 23 (by kernel_rfl) ?_
          have hBB : Below W.heap.size W W.drew := (Below.refl _ _).drew
          have hHeld : (fun Z : World => Z.cell? ⟨bk, 0, none⟩ = some (.bool true) ∧ Z.cell? ⟨bi, 0, none⟩ = some (.slice (adr gi) i.length ci) ∧ Z.cell? ⟨bp, 0, none⟩ = some (.slice (adr gp) 0 cp) ∧ Z.cell? ⟨be, 0, none⟩ = some (.slice a2 E.length cap2)) W.drew := hheld0
          dsimp only at hHeld
          refine tkM (i := 0) (v := ?_) [22, 7, 6, 1] rfl (by kernel_rfl) (by rfl) ?_ (by assumption) ?_
          rotate_left
          · intro Z hSw; (try dsimp only at hSw); go_simp; try (with_reducible rfl)
          simp only [Act.put, lsA, lsB, lsC]
          refine tkF (i := 1) (v := ?_) rfl (by kernel_rfl) (by rfl) ?_ (.inr (by assumption)) ?_
          rotate_left
          · intro Z hSw; go_simp; try (with_reducible rfl)
          simp only [Act.put, lsA, lsB, lsC]
          refine tkM (i := 2) (v := ?_) [22, 7, 6, 5, 4] rfl (by kernel_rfl) (by rfl) ?_ (by assumption) ?_
          rotate_left
          · intro Z hSw; (try dsimp only at hSw); go_simp; try (with_reducible rfl)
          simp only [Act.put, lsA, lsB, lsC]
          refine tkF (i := 3) (v := ?_) rfl (by kernel_rfl) (by rfl) ?_ (.inr (by assumption)) ?_
          rotate_left
          · intro Z hSw; go_simp; try (with_reducible rfl)
          simp only [Act.put, lsA, lsB, lsC]
          refine tkO (i := 4) (by kernel_rfl) rfl (fun K0 hK => ?_)
          go_simp
          refine (HC1.out W.drew (Below.refl _ _).drew).mono ?_
          rintro e w8 ⟨rfl, hb8⟩
          have hHeld2 := (⟨hkeep _ _ hb8 _ _ _ hHeld.1, hkeep _ _ hb8 _ _ _ hHeld.2.1, hkeep _ _ hb8 _ _ _ hHeld.2.2.1, hkeep _ _ hb8 _ _ _ hHeld.2.2.2⟩ : (fun Z : World => Z.cell? ⟨bk, 0, none⟩ = some (.bool true) ∧ Z.cell? ⟨bi, 0, none⟩ = some (.slice (adr gi) i.length ci) ∧ Z.cell? ⟨bp, 0, none⟩ = some (.slice (adr gp) 0 cp) ∧ Z.cell? ⟨be, 0, none⟩ = some (.slice a2 E.length cap2)) w8)
          have hBB2 : Below W.heap.size W w8 := belT hBB hb8
          clear hb8 hHeld hBB
          have hHeld := hHeld2
          have hBB := hBB2
          clear hHeld2 hBB2
          try dsimp only at hHeld
          go_wp2_with fail
          refine hK.out _ _ (.inr hHeld) ?_
          clear hK K0
          refine tkF (i := 5) (v := ?_) rfl (by kernel_rfl) (by rfl) ?_ (.inr (by assumption)) ?_
          rotate_left
          · intro Z hSw; go_simp; try (with_reducible rfl)
          simp only [Act.put, lsA, lsB, lsC]
          refine tkF (i := 6) (v := ?_) rfl (by kernel_rfl) (by rfl) ?_ (.inr (by assumption)) ?_
          rotate_left
          · intro Z hSw; go_simp; try (with_reducible rfl)
          simp only [Act.put, lsA, lsB, lsC]
          refine tkF (i := 7) (v := ?_) rfl (by kernel_rfl) (by rfl) ?_ (.inr (by assumption)) ?_
          rotate_left
          · intro Z hSw; go_simp; try (with_reducible rfl)
          simp only [Act.put, lsA, lsB, lsC]
          refine tkM (i := 8) (v := ?_) [22, 21, 11, 10, 9] rfl (by kernel_rfl) (by rfl) ?_ (by assumption) ?_
          rotate_left
          · intro Z hSw; (try dsimp only at hSw); go_simp; try (with_reducible rfl)
          simp only [Act.put, lsA, lsB, lsC]
          refine tkF (i := 9) (v := ?_) rfl (by kernel_rfl) (by rfl) ?_ (.inr (by assumption)) ?_
          rotate_left
          · intro Z hSw; go_simp; try (with_reducible rfl)
          simp only [Act.put, lsA, lsB, lsC]
          refine tkF (i := 10) (v := ?_) rfl (by kernel_rfl) (by rfl) ?_ (.inr (by assumption)) ?_
          rotate_left
          · intro Z hSw; go_simp; try (with_reducible rfl)
          simp only [Act.put, lsA, lsB, lsC]
          refine tkF (i := 11) (v := ?_) rfl (by kernel_rfl) (by rfl) ?_ (.inr (by assumption)) ?_
          rotate_left
          · intro Z hSw; go_simp; try (with_reducible rfl)
          simp only [Act.put, lsA, lsB, lsC]
          refine tkS (i := 12) rfl (by kernel_rfl) (by rfl) (.inr (by assumption)) ?_
          simp only [Act.put, lsA, lsB, lsC]
          refine tkS (i := 13) rfl (by kernel_rfl) (by rfl) (.inr (by assumption)) ?_
          simp only [Act.put, lsA, lsB, lsC]
          refine tkS (i := 14) rfl (by kernel_rfl) (by rfl) (.inr (by assumption)) ?_
          simp only [Act.put, lsA, lsB, lsC]
          refine tkS (i := 15) rfl (by kernel_rfl) (by rfl) (.inr (by assumption)) ?_
          simp only [Act.put, lsA, lsB, lsC]
          refine tkS (i := 16) rfl (by kernel_rfl) (by rfl) (.inr (by assumption)) ?_
          simp only [Act.put, lsA, lsB, lsC]
          refine tkS (i := 17) rfl (by kernel_rfl) (by rfl) (.inr (by assumption)) ?_
          simp only [Act.put, lsA, lsB, lsC]
          refine tkS (i := 18) rfl (by kernel_rfl) (by rfl) (.inr (by assumption)) ?_
          simp only [Act.put, lsA, lsB, lsC]
          refine tkS (i := 19) rfl (by kernel_rfl) (by rfl) (.inr (by assumption)) ?_
          simp only [Act.put, lsA, lsB, lsC]
          refine tkS (i := 20) rfl (by kernel_rfl) (by rfl) (.inr (by assumption)) ?_
          simp only [Act.put, lsA, lsB, lsC]
          refine tkF (i := 21) (v := ?_) rfl (by kernel_rfl) (by rfl) ?_ (.inr (by assumption)) ?_
          rotate_left
          · intro Z hSw; go_simp; try (with_reducible rfl)
          simp only [Act.put, lsA, lsB, lsC]
          refine tkF (i := 22) (v := ?_) rfl (by kernel_rfl) (by rfl) ?_ (.inr (by assumption)) ?_
          rotate_left
          · intro Z hSw; go_simp; try (with_reducible rfl)
          simp only [Act.put, lsA, lsB, lsC]
          obtain ⟨kk, kf⟩ := hbk w8 hBB
          refine tkO (i := 23) (by kernel_rfl) rfl (fun K0 hK => ?_)
          go_simp
          refine hK.out _ _ (.inl (by kernel_rfl)) ?_
          clear hK K0
          refine wpAnyM_done (by kernel_rfl) ?_ _
          have HFIN := HST.out w8 hBB
          rw [HVV.out] at HFIN
          clear hHeld
          go_wp2_with fail
          go_meet
          refine ⟨rfl, ?_⟩
          rw [HVV.out]
          exact HFIN
        · obtain ⟨q, gp', y, hq, rfl, kq, hc2⟩ := hlast hp
          obtain ⟨v, hvv⟩ : ∃ v, decide (j ∈ nx (p.getD (p.length - 1) 0)) = v := ⟨_, rfl⟩
          rw [hvv] at hc2
          have HVV : Hid (Sp.onE nx ⟨i, o, p, true⟩ j = v) := by show _ = _; unfold Sp.onE; simp [hj]; rw [← hvv]; simp [hp]
          rw [hq] at hheld0
          have hheld1 := hheld0
          have hheld0 : W.drew.cell? ⟨bk, 0, none⟩ = some (.bool true) ∧ W.drew.cell? ⟨bi, 0, none⟩ = some (.slice (adr gi) i.length ci) ∧ W.drew.cell? ⟨bp, 0, none⟩ = some (.slice (adr (some gp')) (q + 1) cp) ∧ W.drew.cell? ⟨be, 0, none⟩ = some (.slice a2 E.length cap2) ∧ W.drew.cell? ⟨gp', q, none⟩ = some (.int .u64 y) := ⟨hheld1.1, hheld1.2.1, hheld1.2.2.1, hheld1.2.2.2, kq⟩
          have HC2 : Hid (∀ W8 : World, Below W.heap.size W W8 → Calls Tryz.prog 13 #[.slice a2 E.length cap2, .int .u64 y, .int .u64 x] W8 fun e w' => e = .returned (.bool v) ∧ Below W8.heap.size W8 w') := hc2
          have ead : adr (some gp') = some ⟨gp', 0, none⟩ := rfl
          have hqz : (q : Int) < (q : Int) + 1 := by omega
          have hq9 : q < 16384 := by omega
          have hw1 : IntKind.i64.wrap (q : Int) = (q : Int) := Go.wrap_small _ (by omega) (by omega)
          have hw2 : IntKind.i64.wrap ((q : Int) + 1 - 1) = (q : Int) := by rw [show (q : Int) + 1 - 1 = (q : Int) by omega]; exact hw1
          have hq1 : (((q : Int) + 1) == 0) = false := by simp; omega
          clear hlast hvv hheld1 hc2 hj hp hq kq
          refine wp_region_mark (fun Z => Z.cell? ⟨bk, 0, none⟩ = some (.bool true) ∧ Z.cell? ⟨bi, 0, none⟩ = some (.slice (adr gi) i.length ci) ∧ Z.cell? ⟨bp, 0, none⟩ = some (.slice (adr (some gp')) (q + 1) cp) ∧ Z.cell? ⟨be, 0, none⟩ = some (.slice a2 E.length cap2) ∧ Z.cell? ⟨gp', q, none⟩ = some (.int .u64 y)) 23 (by kernel_rfl) ?_
          have hBB : Below W.heap.size W W.drew := (Below.refl _ _).drew
          have hHeld : (fun Z : World => Z.cell? ⟨bk, 0, none⟩ = some (.bool true) ∧ Z.cell? ⟨bi, 0, none⟩ = some (.slice (adr gi) i.length ci) ∧ Z.cell? ⟨bp, 0, none⟩ = some (.slice (adr (some gp')) (q + 1) cp) ∧ Z.cell? ⟨be, 0, none⟩ = some (.slice a2 E.length cap2) ∧ Z.cell? ⟨gp', q, none⟩ = some (.int .u64 y)) W.drew := hheld0
          dsimp only at hHeld
          refine tkM (i := 0) (v := ?_) [22, 7, 6, 1] rfl (by kernel_rfl) (by rfl) ?_ (by assumption) ?_
          rotate_left
          · intro Z hSw; (try dsimp only at hSw); go_simp; try (with_reducible rfl)
          simp only [Act.put, lsA, lsB, lsC]
          refine tkF (i := 1) (v := ?_) rfl (by kernel_rfl) (by rfl) ?_ (.inr (by assumption)) ?_
          rotate_left
          · intro Z hSw; go_simp; try (with_reducible rfl)
          simp only [Act.put, lsA, lsB, lsC]
          refine tkM (i := 2) (v := ?_) [22, 7, 6, 5, 4] rfl (by kernel_rfl) (by rfl) ?_ (by assumption) ?_
          rotate_left
          · intro Z hSw; (try dsimp only at hSw); go_simp; try (with_reducible rfl)
          simp only [Act.put, lsA, lsB, lsC]
          refine tkF (i := 3) (v := ?_) rfl (by kernel_rfl) (by rfl) ?_ (.inr (by assumption)) ?_
          rotate_left
          · intro Z hSw; go_simp; try (with_reducible rfl)
          simp only [Act.put, lsA, lsB, lsC]
          refine tkO (i := 4) (by kernel_rfl) rfl (fun K0 hK => ?_)
          go_simp
          refine (HC1.out W.drew (Below.refl _ _).drew).mono ?_
          rintro e w8 ⟨rfl, hb8⟩
          have hHeld2 := (⟨hkeep _ _ hb8 _ _ _ hHeld.1, hkeep _ _ hb8 _ _ _ hHeld.2.1, hkeep _ _ hb8 _ _ _ hHeld.2.2.1, hkeep _ _ hb8 _ _ _ hHeld.2.2.2.1, hkeep _ _ hb8 _ _ _ hHeld.2.2.2.2⟩ : (fun Z : World => Z.cell? ⟨bk, 0, none⟩ = some (.bool true) ∧ Z.cell? ⟨bi, 0, none⟩ = some (.slice (adr gi) i.length ci) ∧ Z.cell? ⟨bp, 0, none⟩ = some (.slice (adr (some gp')) (q + 1) cp) ∧ Z.cell? ⟨be, 0, none⟩ = some (.slice a2 E.length cap2) ∧ Z.cell? ⟨gp', q, none⟩ = some (.int .u64 y)) w8)
          have hBB2 : Below W.heap.size W w8 := belT hBB hb8
          clear hb8 hHeld hBB
          have hHeld := hHeld2
          have hBB := hBB2
          clear hHeld2 hBB2
          try dsimp only at hHeld
          go_wp2_with fail
          refine hK.out _ _ (.inr hHeld) ?_
          clear hK K0
          refine tkF (i := 5) (v := ?_) rfl (by kernel_rfl) (by rfl) ?_ (.inr (by assumption)) ?_
          rotate_left
          · intro Z hSw; go_simp; try (with_reducible rfl)
          simp only [Act.put, lsA, lsB, lsC]
          refine tkF (i := 6) (v := ?_) rfl (by kernel_rfl) (by rfl) ?_ (.inr (by assumption)) ?_
          rotate_left
          · intro Z hSw; go_simp; try (with_reducible rfl)
          simp only [Act.put, lsA, lsB, lsC]
          refine tkF (i := 7) (v := ?_) rfl (by kernel_rfl) (by rfl) ?_ (.inr (by assumption)) ?_
          rotate_left
          · intro Z hSw; go_simp; try (with_reducible rfl)
          simp only [Act.put, lsA, lsB, lsC]
          refine tkM (i := 8) (v := ?_) [22, 21, 11, 10, 9] rfl (by kernel_rfl) (by rfl) ?_ (by assumption) ?_
          rotate_left
          · intro Z hSw; (try dsimp only at hSw); go_simp; try (with_reducible rfl)
          simp only [Act.put, lsA, lsB, lsC]
          refine tkF (i := 9) (v := ?_) rfl (by kernel_rfl) (by rfl) ?_ (.inr (by assumption)) ?_
          rotate_left
          · intro Z hSw; go_simp; try (with_reducible rfl)
          simp only [Act.put, lsA, lsB, lsC]
          refine tkF (i := 10) (v := ?_) rfl (by kernel_rfl) (by rfl) ?_ (.inr (by assumption)) ?_
          rotate_left
          · intro Z hSw; go_simp; try (with_reducible rfl)
          simp only [Act.put, lsA, lsB, lsC]
          refine tkF (i := 11) (v := ?_) rfl (by kernel_rfl) (by rfl) ?_ (.inr (by assumption)) ?_
          rotate_left
          · intro Z hSw; go_simp; try (with_reducible rfl)
          simp only [Act.put, lsA, lsB, lsC]
          refine tkM (i := 12) (v := ?_) [22, 21, 20] rfl (by kernel_rfl) (by rfl) ?_ (by assumption) ?_
          rotate_left
          · intro Z hSw; (try dsimp only at hSw); go_simp; try (with_reducible rfl)
          simp only [Act.put, lsA, lsB, lsC]
          refine tkM (i := 13) (v := ?_) [22, 21, 20, 18, 17] rfl (by kernel_rfl) (by rfl) ?_ (by assumption) ?_
          rotate_left
          · intro Z hSw; (try dsimp only at hSw); go_simp; try (with_reducible rfl)
          simp only [Act.put, lsA, lsB, lsC]
          refine tkM (i := 14) (v := ?_) [22, 21, 20, 18, 17, 16, 15] rfl (by kernel_rfl) (by rfl) ?_ (by assumption) ?_
          rotate_left
          · intro Z hSw; (try dsimp only at hSw); go_simp; try (with_reducible rfl)
          simp only [Act.put, lsA, lsB, lsC]
          refine tkF (i := 15) (v := ?_) rfl (by kernel_rfl) (by rfl) ?_ (.inr (by assumption)) ?_
          rotate_left
          · intro Z hSw; go_simp; try (with_reducible rfl)
          simp only [Act.put, lsA, lsB, lsC]
          refine tkF (i := 16) (v := ?_) rfl (by kernel_rfl) (by rfl) ?_ (.inr (by assumption)) ?_
          rotate_left
          · intro Z hSw; go_simp; try (with_reducible rfl)
          simp only [Act.put, lsA, lsB, lsC]
          refine tkF (i := 17) (v := ?_) rfl (by kernel_rfl) (by rfl) ?_ (.inr (by assumption)) ?_
          rotate_left
          · intro Z hSw; go_simp; try (with_reducible rfl)
          simp only [Act.put, lsA, lsB, lsC]
          refine tkM (i := 18) (v := ?_) [22, 21, 20] rfl (by kernel_rfl) (by rfl) ?_ (by assumption) ?_
          rotate_left
          · intro Z hSw; (try dsimp only at hSw); go_simp; try (with_reducible rfl)
          simp only [Act.put, lsA, lsB, lsC]
          refine tkF (i := 19) (v := ?_) rfl (by kernel_rfl) (by rfl) ?_ (.inr (by assumption)) ?_
          rotate_left
          · intro Z hSw; go_simp; try (with_reducible rfl)
          simp only [Act.put, lsA, lsB, lsC]
          refine tkO (i := 20) (by kernel_rfl) rfl (fun K0 hK => ?_)
          go_simp
          refine (HC2.out w8 hBB).mono ?_
          rintro e w9 ⟨rfl, hb8⟩
          have hHeld2 := (⟨hkeep _ _ hb8 _ _ _ hHeld.1, hkeep _ _ hb8 _ _ _ hHeld.2.1, hkeep _ _ hb8 _ _ _ hHeld.2.2.1, hkeep _ _ hb8 _ _ _ hHeld.2.2.2.1, hkeep _ _ hb8 _ _ _ hHeld.2.2.2.2⟩ : (fun Z : World => Z.cell? ⟨bk, 0, none⟩ = some (.bool true) ∧ Z.cell? ⟨bi, 0, none⟩ = some (.slice (adr gi) i.length ci) ∧ Z.cell? ⟨bp, 0, none⟩ = some (.slice (adr (some gp')) (q + 1) cp) ∧ Z.cell? ⟨be, 0, none⟩ = some (.slice a2 E.length cap2) ∧ Z.cell? ⟨gp', q, none⟩ = some (.int .u64 y)) w9)
          have hBB2 : Below W.heap.size W w9 := belT hBB hb8
          clear hb8 hHeld hBB
          have hHeld := hHeld2
          have hBB := hBB2
          clear hHeld2 hBB2
          try dsimp only at hHeld
          go_wp2_with fail
          refine hK.out _ _ (.inr hHeld) ?_
          clear hK K0
          refine tkF (i := 21) (v := ?_) rfl (by kernel_rfl) (by rfl) ?_ (.inr (by assumption)) ?_
          rotate_left
          · intro Z hSw; go_simp; try (with_reducible rfl)
          simp only [Act.put, lsA, lsB, lsC]
          refine tkF (i := 22) (v := ?_) rfl (by kernel_rfl) (by rfl) ?_ (.inr (by assumption)) ?_
          rotate_left
          · intro Z hSw; go_simp; try (with_reducible rfl)
          simp only [Act.put, lsA, lsB, lsC]
          obtain ⟨kk, kf⟩ := hbk w9 hBB
          refine tkO (i := 23) (by kernel_rfl) rfl (fun K0 hK => ?_)
          go_simp
          refine hK.out _ _ (.inl (by kernel_rfl)) ?_
          clear hK K0
          refine wpAnyM_done (by kernel_rfl) ?_ _
          have HFIN := HST.out w9 hBB
          rw [HVV.out] at HFIN
          clear hHeld
          go_wp2_with fail
          go_meet
          refine ⟨rfl, ?_⟩
          rw [HVV.out]
          exact HFIN
  case rest =>
    obtain ⟨rfl, HI2⟩ := hcut
    clear HC1 HST hbk hheld0 hlast hkeep
    obtain ⟨gi2, ci2, gp2, cp2, F, h1, h3, T0, hfin⟩ := HI2.out.1.put2 HB.out hx
    dsimp only at h1 h3 T0 hfin
    have ho := HB.out.ord
    have lt : ∀ {b : Nat} {o : Obj}, wc.heap[b]? = some o → b < wc.heap.size := fun h => (Array.getElem?_eq_some_iff.1 h).1
    have hold : ∀ {A B : Rst} {l1 l2 : List Int} {W4 : World}, Two2 F m0 l1 l2 x wc A B W4 → W4.cell? ⟨bi, 0, none⟩ = some (.slice (adr gi2) i.length ci2) ∧ W4.cell? ⟨bp, 0, none⟩ = some (.slice (adr gp2) p.length cp2) := fun T => by
      have q1 := (T.kw.block bi (lt h1) (fun hM => by have := hM.1; omega)).trans h1
      have q3 := (T.kw.block bp (lt h3) (fun hM => by have := hM.1; omega)).trans h3
      exact ⟨by simp [World.cell?, q1], by simp [World.cell?, q3]⟩
    have HFI : Hid (∀ g1 c1 g2 c2 W4, Two2 F m0 (Sp.rfs N i) (Sp.rfs N p) x wc (.d g1 c1) (.d g2 c2) W4 → (W4.cell? ⟨bi, 0, none⟩ = some (.slice (adr gi2) i.length ci2) ∧ W4.frozen? ⟨bi, 0, none⟩ = false ∧ ∀ v, (W4.setCell ⟨bi, 0, none⟩ v).cell? ⟨bp, 0, none⟩ = some (.slice (adr gp2) p.length cp2) ∧ (W4.setCell ⟨bi, 0, none⟩ v).frozen? ⟨bp, 0, none⟩ = false) ∧ Hid (OnI N E a2 cap2 be bi bo bp bk m0 ((Sp.on nx).enter ⟨i, o, p, k⟩ j).2 ((W4.setCell ⟨bi, 0, none⟩ (.slice (some ⟨g1, 0, none⟩) (i.length + 1) c1)).setCell ⟨bp, 0, none⟩ (.slice (some ⟨g2, 0, none⟩) (p.length + 1) c2)) ∧ KwO (Sp.onM bi bo bp bk m0) W ((W4.setCell ⟨bi, 0, none⟩ (.slice (some ⟨g1, 0, none⟩) (i.length + 1) c1)).setCell ⟨bp, 0, none⟩ (.slice (some ⟨g2, 0, none⟩) (p.length + 1) c2)))) := fun g1 c1 g2 c2 W4 T => by
      obtain ⟨q1, q2, q3⟩ := hfin g1 c1 g2 c2 W4 T
      exact ⟨q1, q2, HI2.out.2.trans q3⟩
    have hb1 : (Sp.rfs N i).length * 8 ≤ 140737488355328 := by rw [rfs_len2]; omega
    have hb2 : (Sp.rfs N p).length * 8 ≤ 140737488355328 := by rw [rfs_len2]; omega
    have hHeld := hold T0
    clear hfin h1 h3 HI2 ho lt
    go_wp2_with fail
    refine wp_region_mark (fun Z => Z.cell? ⟨bi, 0, none⟩ = some (.slice (adr gi2) i.length ci2) ∧ Z.cell? ⟨bp, 0, none⟩ = some (.slice (adr gp2) p.length cp2)) 7 (by kernel_rfl) ?_
    refine tkF (i := 1) (v := ?_) rfl (by kernel_rfl) (by rfl) ?_ (.inr (by assumption)) ?_
    rotate_left
    · intro Z hSw; go_simp; try (with_reducible rfl)
    simp only [Act.put, lsA, lsB, lsC]
    refine tkF (i := 5) (v := ?_) rfl (by kernel_rfl) (by rfl) ?_ (.inr (by assumption)) ?_
    rotate_left
    · intro Z hSw; go_simp; try (with_reducible rfl)
    simp only [Act.put, lsA, lsB, lsC]
    refine tkM (i := 0) (v := ?_) [3] rfl (by kernel_rfl) (by rfl) ?_ (by assumption) ?_
    rotate_left
    · intro Z hSw; (try dsimp only at hSw); go_simp; try (with_reducible rfl)
    simp only [Act.put, lsA, lsB, lsC]
    refine tkM (i := 4) (v := ?_) [] rfl (by kernel_rfl) (by rfl) ?_ (by assumption) ?_
    rotate_left
    · intro Z hSw; (try dsimp only at hSw); go_simp; try (with_reducible rfl)
    simp only [Act.put, lsA, lsB, lsC]
    refine tkT (i := 2) (j := 6) (by kernel_rfl) rfl rfl (fun K0 hK => ?_) (fun K0 hK => ?_)
    · go_simp
      have T1 := T0.build
      refine hK.out _ _ (.inr (hold T1)) ?_
      clear hK K0 hHeld
      refine tkT (i := 3) (j := 6) (by kernel_rfl) rfl rfl (fun K0 hK => ?_) (fun K0 hK => ?_)
      · obtain ⟨g1, c1, W2, hap1, T2⟩ := T1.app hb1 22
        rw [rfs_len2] at hap1
        refine step_ran (by rfl) _ _ 22 22 (by rfl) _ _ _ (by rfl) (by rfl) hap1 ?_
        refine hK.out _ _ (.inr (hold T2)) ?_
        clear hK K0 hap1
        refine tkO (i := 6) (by kernel_rfl) rfl (fun K0 hK => ?_)
        go_simp
        have T3 := T2.swap.build
        refine hK.out _ _ (.inr (hold T3)) ?_
        clear hK K0
        refine tkO (i := 7) (by kernel_rfl) rfl (fun K0 hK => ?_)
        obtain ⟨g2, c2, W4, hap2, T4⟩ := T3.app hb2 22
        rw [rfs_len2] at hap2
        refine step_ran (by rfl) _ _ 22 22 (by rfl) _ _ _ (by rfl) (by rfl) hap2 ?_
        refine hK.out _ _ (.inl (by kernel_rfl)) ?_
        clear hK K0 hap2
        obtain ⟨⟨f1, f2, f3⟩, HFN⟩ := HFI.out g1 c1 g2 c2 W4 T4.swap
        clear T1 T2 T3 T4 T0
        obtain ⟨f4, f5⟩ := f3 (.slice (some ⟨g1, 0, none⟩) (i.length + 1) c1)
        refine tkO (i := 8) (by kernel_rfl) rfl (fun K0 hK => ?_)
        go_simp
        refine hK.out _ _ (.inl (by kernel_rfl)) ?_
        clear hK K0
        refine tkO (i := 9) (by kernel_rfl) rfl (fun K0 hK => ?_)
        go_simp
        refine hK.out _ _ (.inl (by kernel_rfl)) ?_
        clear hK K0 f1 f2 f3 f4 f5
        refine wpAnyM_done (by kernel_rfl) ?_ _
        go_wp2_with fail
        go_ret
        exact ⟨rfl, HFN.out⟩
      · go_simp
        have T2 := T1.swap.build
        refine hK.out _ _ (.inr (hold T2)) ?_
        clear hK K0
        refine tkO (i := 3) (by kernel_rfl) rfl (fun K0 hK => ?_)
        obtain ⟨g1, c1, W3, hap1, T3⟩ := T2.swap.app hb1 22
        rw [rfs_len2] at hap1
        refine step_ran (by rfl) _ _ 22 22 (by rfl) _ _ _ (by rfl) (by rfl) hap1 ?_
        refine hK.out _ _ (.inr (hold T3)) ?_
        clear hK K0 hap1
        refine tkO (i := 7) (by kernel_rfl) rfl (fun K0 hK => ?_)
        obtain ⟨g2, c2, W4, hap2, T4⟩ := T3.swap.app hb2 22
        rw [rfs_len2, al_size] at hap2
        refine step_ran (by rfl) _ _ 22 22 (by rfl) _ _ _ (by rfl) (by rfl) hap2 ?_
        refine hK.out _ _ (.inl (by kernel_rfl)) ?_
        clear hK K0 hap2
        obtain ⟨⟨f1, f2, f3⟩, HFN⟩ := HFI.out g1 c1 g2 c2 W4 T4.swap
        clear T1 T2 T3 T4 T0
        obtain ⟨f4, f5⟩ := f3 (.slice (some ⟨g1, 0, none⟩) (i.length + 1) c1)
        refine tkO (i := 8) (by kernel_rfl) rfl (fun K0 hK => ?_)
        go_simp
        refine hK.out _ _ (.inl (by kernel_rfl)) ?_
        clear hK K0
        refine tkO (i := 9) (by kernel_rfl) rfl (fun K0 hK => ?_)
        go_simp
        refine hK.out _ _ (.inl (by kernel_rfl)) ?_
        clear hK K0 f1 f2 f3 f4 f5
        refine wpAnyM_done (by kernel_rfl) ?_ _
        go_wp2_with fail
        go_ret
        exact ⟨rfl, HFN.out⟩
    · go_simp
      have T1 := T0.swap.build
      refine hK.out _ _ (.inr (hold T1)) ?_
      clear hK K0 hHeld
      refine tkO (i := 2) (by kernel_rfl) rfl (fun K0 hK => ?_)
      go_simp
      have T2 := T1.swap.build
      refine hK.out _ _ (.inr (hold T2)) ?_
      clear hK K0
      refine tkO (i := 3) (by kernel_rfl) rfl (fun K0 hK => ?_)
      obtain ⟨g1, c1, W3, hap1, T3⟩ := T2.app hb1 22
      rw [rfs_len2, al_size] at hap1
      refine step_ran (by rfl) _ _ 22 22 (by rfl) _ _ _ (by rfl) (by rfl) hap1 ?_
      refine hK.out _ _ (.inr (hold T3)) ?_
      clear hK K0 hap1
      refine tkO (i := 7) (by kernel_rfl) rfl (fun K0 hK => ?_)
      obtain ⟨g2, c2, W4, hap2, T4⟩ := T3.swap.app hb2 22
      rw [rfs_len2] at hap2
      refine step_ran (by rfl) _ _ 22 22 (by rfl) _ _ _ (by rfl) (by rfl) hap2 ?_
      refine hK.out _ _ (.inl (by kernel_rfl)) ?_
      clear hK K0 hap2
      obtain ⟨⟨f1, f2, f3⟩, HFN⟩ := HFI.out g1 c1 g2 c2 W4 T4.swap
      clear T1 T2 T3 T4 T0
      obtain ⟨f4, f5⟩ := f3 (.slice (some ⟨g1, 0, none⟩) (i.length + 1) c1)
      refine tkO (i := 8) (by kernel_rfl) rfl (fun K0 hK => ?_)
      go_simp
      refine hK.out _ _ (.inl (by kernel_rfl)) ?_
      clear hK K0
      refine tkO (i := 9) (by kernel_rfl) rfl (fun K0 hK => ?_)
      go_simp
      refine hK.out _ _ (.inl (by kernel_rfl)) ?_
      clear hK K0 f1 f2 f3 f4 f5
      refine wpAnyM_done (by kernel_rfl) ?_ _
      go_wp2_with fail
      go_ret
      exact ⟨rfl, HFN.out⟩
end Go.Proofs.YtikhpbidbcfedaaGreat

