/- tenonlaw14.GraphOnce's second function literal: a node is left. -/
import Derived.Test.YtikhpbidbcfedaaGreatKo39
namespace Go.Proofs.YtikhpbidbcfedaaGreat
open Go.RowKit Go.ChangeMaps

theorem OnI.pop {N : List Int} {E : List (Int × Int)} {a2 : Option Addr} {cap2 be bi bo bp bk m0 q : Nat} {s : On} {W : World} (h : OnI N E a2 cap2 be bi bo bp bk m0 s W) (hB : OnB E a2 be bi bo bp bk m0) (hq : s.p.length = q + 1) :
    ∃ gp cp y, W.heap[bp]? = some (.cells #[.slice (some ⟨gp, 0, none⟩) (q + 1) cp] 22 (0, 0)) ∧ q + 1 ≤ cp ∧ m0 ≤ gp ∧ W.cell? ⟨gp, q, none⟩ = some (.int .u64 y) ∧ (∀ j x, N[j]? = some x → N.Pairwise (· < ·) → (s.p[q]? = some j ↔ y = x)) ∧
      OnI N E a2 cap2 be bi bo bp bk m0 ⟨s.i, s.o, s.p.dropLast, s.k⟩ (W.setCell ⟨bp, 0, none⟩ (.slice (some ⟨gp, 0, none⟩) q cp)) := by
  obtain ⟨gi, ci, go, co, gp, cp, h1, h2, h3, h4, h5, h6, h7, h8, h9⟩ := h.rows
  have ho := hB.ord
  obtain ⟨z, hz⟩ : ∃ z, s.p[q]? = some z := ⟨_, List.getElem?_eq_getElem (by omega)⟩
  have hzb := h.bd z (.inr (.inr (List.mem_of_getElem? hz)))
  obtain ⟨y, hy⟩ : ∃ v, N[z]? = some v := ⟨_, List.getElem?_eq_getElem hzb⟩
  have hr : (Sp.rfs N s.p)[q]? = some y := by
    unfold Sp.rfs
    rw [List.getElem?_map, hz, Option.map_some, List.getD_eq_getElem?_getD, hy]; rfl
  obtain ⟨g, rfl, kp⟩ := h6.at_ hr
  have e : ∀ k v, k ≠ bp → (W.setCell ⟨bp, 0, none⟩ v).heap[k]? = W.heap[k]? := fun k v hk => Below.heap_setCell W _ _ k hk
  have hown := h6.2 g rfl
  obtain ⟨cur, c1, c2, c3, c4, c5⟩ := hown.blk
  rw [rfs_len2] at c2
  have hmg := h7 g (.inr (.inr rfl))
  refine ⟨g, cp, y, by rw [h3, hq]; rfl, by omega, hmg, kp, fun j x hx hN => ?_, (e bk _ (by omega)).trans h.k, (e be _ (by omega)).trans h.e, ⟨gi, ci, go, co, some g, cp, (e bi _ (by omega)).trans h1, (e bo _ (by omega)).trans h2, ?_, h4.keep (fun k hk => e k _ (by have := h7 k (.inl hk); omega)), h5.keep (fun k hk => e k _ (by have := h7 k (.inr (.inl hk)); omega)), ⟨(fun e => by cases e), fun k hk => ?_⟩, h7, h8, h9⟩, fun t w hw => ?_, ?_, ?_, by simpa [World.setCell] using h.sz⟩
  · rw [hz]
    refine ⟨fun e => ?_, fun e => ?_⟩
    · injection e with e; subst e
      rw [hy] at hx; injection hx
    · subst e
      have := idx_at2 (lt_nd hN) hx
      have := idx_at2 (lt_nd hN) hy
      congr 1; omega
  · rw [Sort.setCell_eq]; show (W.heap.modify bp _)[bp]? = _
    rw [Array.getElem?_modify, if_pos rfl, h3]
    simp [adr, hq]; rfl
  · injection hk with hk; subst hk
    have hdl : Sp.rfs N s.p.dropLast = (Sp.rfs N s.p).dropLast := by simp [Sp.rfs, List.map_dropLast]
    refine ⟨by simp [rv, Sp.rfs], cur, (e g _ (by omega)).trans c1, by simp [Sp.rfs]; omega, c3, c4, ?_⟩
    have h10 : rv (Sp.rfs N s.p.dropLast) = (rv (Sp.rfs N s.p)).dropLast := by rw [hdl]; simp [rv, List.map_dropLast]
    rw [h10, c5, List.dropLast_eq_take, List.take_take]
    simp only [Sp.rfs, List.length_map, List.length_take, List.length_dropLast, Array.length_toList]
    congr 1
    omega
  · obtain ⟨b, o, e1, h9, h10⟩ := h.ev t w hw
    have hbl := e b (.slice (some ⟨g, 0, none⟩) q cp) (by have := hB.old t w hw b o e1; omega)
    exact ⟨b, o, e1, by rw [World.cell?_of_block (w := W) hbl]; exact h9, by rw [World.cell?_of_block (w := W) hbl]; exact h10⟩
  · have := h.len; simp; omega
  · intro x hx
    rcases hx with hx | hx | hx
    · exact h.bd x (.inl hx)
    · exact h.bd x (.inr (.inl hx))
    · exact h.bd x (.inr (.inr (List.dropLast_subset _ hx)))
theorem OnI.put1 {N : List Int} {E : List (Int × Int)} {a2 : Option Addr} {cap2 be bi bo bp bk m0 j : Nat} {x : Int} {s : On} {W : World} (h : OnI N E a2 cap2 be bi bo bp bk m0 s W) (hB : OnB E a2 be bi bo bp bk m0) (hx : N[j]? = some x) (hl : s.o.length < 16384) :
    ∃ go co, W.cell? ⟨bo, 0, none⟩ = some (.slice (adr go) s.o.length co) ∧ ∃ g' c' W4, (Builtin.append_ #[22, 22] 22 #[.slice (adr go) s.o.length co, .slice (some ⟨W.heap.size, 0, none⟩) 1 1]).run Tryz.prog (W.alloc (.cells #[.int .u64 x] 25)) = .ok (.slice (some ⟨g', 0, none⟩) (s.o.length + 1) c') W4 ∧
      W4.cell? ⟨bo, 0, none⟩ = some (.slice (adr go) s.o.length co) ∧ W4.frozen? ⟨bo, 0, none⟩ = false ∧
      OnI N E a2 cap2 be bi bo bp bk m0 ⟨s.i, s.o ++ [j], s.p, s.k⟩ (W4.setCell ⟨bo, 0, none⟩ (.slice (some ⟨g', 0, none⟩) (s.o.length + 1) c')) ∧ KwO (Sp.onM bi bo bp bk m0) W (W4.setCell ⟨bo, 0, none⟩ (.slice (some ⟨g', 0, none⟩) (s.o.length + 1) c')) := by
  obtain ⟨gi, ci, go, co, gp, cp, h1, h2, h3, h4, h5, h6, h7, h8, h9⟩ := h.rows
  have ho := hB.ord
  have lt : ∀ {b : Nat} {o : Obj}, W.heap[b]? = some o → b < W.heap.size := fun h => (Array.getElem?_eq_some_iff.1 h).1
  have hjL := (List.getElem?_eq_some_iff.1 hx).1
  have hfx : Sp.rfs N (s.o ++ [j]) = Sp.rfs N s.o ++ [x] := by simp [Sp.rfs, List.getD_eq_getElem?_getD, hx]
  obtain ⟨g', c', W4, hap, ho4, hgr, hor⟩ := appR go co (Sp.rfs N s.o) W h5 x (by rw [rfs_len2]; omega) 22
  rw [rfs_len2] at hap
  have old : ∀ k, k < W.heap.size → go ≠ some k → W4.heap[k]? = W.heap[k]? := fun k hk hn => (hgr.block k (by rw [al_size]; omega) (fun e => hn e.symm)).trans (Below.heap_alloc W _ k hk)
  have hgm : m0 ≤ g' := by
    rcases hor with e | e
    · exact h7 g' (.inr (.inl e))
    · have := h.sz; omega
  have ob : ∀ k, k < W.heap.size → k < m0 → W4.heap[k]? = W.heap[k]? := fun k hk hm => old k hk (fun e => by have := h7 k (.inr (.inl e)); omega)
  have e : ∀ k v, k ≠ bo → (W4.setCell ⟨bo, 0, none⟩ v).heap[k]? = W4.heap[k]? := fun k v hk => Below.heap_setCell W4 _ _ k hk
  have o2 := (ob bo (lt h2) (by omega)).trans h2
  have hsz : W.heap.size ≤ W4.heap.size := by have := hgr.size; rw [al_size] at this; omega
  refine ⟨go, co, by simp [World.cell?, h2], g', c', W4, hap, by simp [World.cell?, o2], by simp [World.frozen?, o2], ⟨((e bk _ (by omega)).trans (ob bk (lt h.k) (by omega))).trans h.k, ((e be _ (by omega)).trans (ob be (lt h.e) (by omega))).trans h.e, ⟨gi, ci, some g', c', gp, cp, ((e bi _ (by omega)).trans (ob bi (lt h1) (by omega))).trans h1, ?_, ((e bp _ (by omega)).trans (ob bp (lt h3) (by omega))).trans h3, ?_, ?_, ?_, ?_, ?_, ?_⟩, fun t w hw => ?_, h.len, ?_, by have := h.sz; simp [World.setCell]; omega⟩, ?_⟩
  · rw [Sort.setCell_eq]; show (W4.heap.modify bo _)[bo]? = _
    rw [Array.getElem?_modify, if_pos rfl, o2]
    simp [adr]; rfl
  · exact h4.keep (fun g hg => (e g _ (by have := h7 g (.inl hg); omega)).trans (old g (h4.2 g hg).lt (h8 g hg).1))
  · refine ⟨(fun e => by cases e), fun g hg => ?_⟩
    injection hg with hg; subst hg
    have := ho4.keep (e g' (.slice (some ⟨g', 0, none⟩) (s.o.length + 1) c') (by omega))
    rw [hfx]; simpa using this
  · exact h6.keep (fun g hg => (e g _ (by have := h7 g (.inr (.inr hg)); omega)).trans (old g (h6.2 g hg).lt (fun e2 => h9 g e2 hg)))
  · rintro g (hg | hg | hg)
    · exact h7 g (.inl hg)
    · injection hg with hg; subst hg; exact hgm
    · exact h7 g (.inr (.inr hg))
  · intro g hg
    refine ⟨fun e2 => ?_, (h8 g hg).2⟩
    injection e2 with e2; subst e2
    rcases hor with e3 | e3
    · exact (h8 g' hg).1 e3
    · have := (h4.2 g' hg).lt; omega
  · intro g hg e2
    injection hg with hg; subst hg
    rcases hor with e3 | e3
    · exact h9 g' e3 e2
    · have := (h6.2 g' e2).lt; omega
  · obtain ⟨b, o, e1, h10, h11⟩ := h.ev t w hw
    have hbe := hB.old t w hw b o e1
    have hbl := (e b (.slice (some ⟨g', 0, none⟩) (s.o.length + 1) c') (by omega)).trans (ob b (World.block_lt_of_cell? _ _ h10) (by omega))
    exact ⟨b, o, e1, by rw [World.cell?_of_block (w := W) hbl]; exact h10, by rw [World.cell?_of_block (w := W) hbl]; exact h11⟩
  · intro y hy
    rcases hy with hy | hy | hy
    · exact h.bd y (.inl hy)
    · rcases List.mem_append.1 hy with hy | hy
      · exact h.bd y (.inr (.inl hy))
      · simp at hy; subst hy; exact hjL
    · exact h.bd y (.inr (.inr hy))
  · have hk4 : KwO (Sp.onM bi bo bp bk m0) W W4 := ⟨hgr.os, hgr.tape, hgr.output, hsz, fun k hk hn => old k hk (fun e2 => hn (by
      obtain ⟨cur, hc, _⟩ := (h5.2 k e2).blk
      exact .inr (.inr (.inr (.inr ⟨h7 k (.inr (.inl e2)), cur, _, hc⟩)))))⟩
    exact hk4.set (.inl fun _ => .inr (.inl rfl)) _

set_option maxRecDepth 100000 in
set_option maxHeartbeats 8000000 in
theorem on2_any (N : List Int) (nx : Nat → List Nat) (E : List (Int × Int)) (a2 : Option Addr) (cap2 be bi bo bp bk m0 : Nat) (hN : N.Pairwise (· < ·)) (hB : OnB E a2 be bi bo bp bk m0) (s : On) (j : Nat) (x : Int) (W : World)
    (hx : N[j]? = some x) (h : OnI N E a2 cap2 be bi bo bp bk m0 s W) (hz : s.i.length + s.o.length < 16384) :
    Calls Tryz.prog 25 #[.int .u64 x, .pointer (some ⟨bk, 0, none⟩), .pointer (some ⟨bp, 0, none⟩), .pointer (some ⟨bo, 0, none⟩)] W fun e W' => e = .returned (.bool true) ∧ OnI N E a2 cap2 be bi bo bp bk m0 ((Sp.on nx).leave s j).2 W' ∧ KwO (Sp.onM bi bo bp bk m0) W W' := by
  obtain ⟨i, o, p, k⟩ := s
  have HI : Hid (OnI N E a2 cap2 be bi bo bp bk m0 ⟨i, o, p, k⟩ W) := h
  have HB : Hid (OnB E a2 be bi bo bp bk m0) := hB
  have kb : W.cell? ⟨bk, 0, none⟩ = some (.bool k) ∧ W.frozen? ⟨bk, 0, none⟩ = false := ⟨by simp [World.cell?, h.k], by simp [World.frozen?, h.k]⟩
  have ho := hB.ord
  have hlen : p.length ≤ i.length := h.len
  dsimp only at hz
  have HK1 : Hid (∀ v : Bool, KwO (Sp.onM bi bo bp bk m0) W (W.setCell ⟨bk, 0, none⟩ (.bool v))) := fun v => (KwO.refl _ _).set (.inl fun _ => .inr (.inr (.inr (.inl rfl)))) _
  obtain ⟨kb1, kb2⟩ := kb
  by_cases hp : p = []
  · subst hp
    have HW : Hid (OnI N E a2 cap2 be bi bo bp bk m0 ⟨i, o, [], false⟩ (W.setCell ⟨bk, 0, none⟩ (.bool false))) := h.setk hB false
    obtain ⟨gi, ci, go, co, gp, cp, h1, h2, h3, _⟩ := h.rows
    have k3 : W.cell? ⟨bp, 0, none⟩ = some (.slice (adr gp) 0 cp) := by simp [World.cell?, h3]
    have k3' : (W.setCell ⟨bk, 0, none⟩ (.bool false)).cell? ⟨bp, 0, none⟩ = some (.slice (adr gp) 0 cp) := by
      rw [World.cell?_of_block (w := W) (Below.heap_setCell W _ _ bp (by show bp ≠ bk; omega))]; exact k3
    obtain ⟨go2, co2, q1, g', c', W4, hap, q2, q3, q4, q5⟩ := HW.out.put1 hB hx (by dsimp only; omega)
    have HF : Hid (OnI N E a2 cap2 be bi bo bp bk m0 ((Sp.on nx).leave ⟨i, o, [], k⟩ j).2 (W4.setCell ⟨bo, 0, none⟩ (.slice (some ⟨g', 0, none⟩) (o.length + 1) c')) ∧ KwO (Sp.onM bi bo bp bk m0) W (W4.setCell ⟨bo, 0, none⟩ (.slice (some ⟨g', 0, none⟩) (o.length + 1) c'))) := by
      have hv : Sp.onL ⟨i, o, [], k⟩ j = false := by simp [Sp.onL]
      refine ⟨?_, (HK1.out false).trans q5⟩
      simp only [Sp.on, hv]
      exact q4
    dsimp only at q1 hap q2
    rw [show (W.setCell ⟨bk, 0, none⟩ (.bool false)).heap.size = W.heap.size by simp [World.setCell]] at hap
    clear h1 h2 h3 h hB q4 q5 HW HI ho
    cases k with
    | false =>
      go_enter Tryz.func25, Tryz.ntmps25
      go_wp2_with (at_builtin; refine wpList_ranS _ rfl _ _ 22 22 rfl _ _ _ _ rfl rfl hap ?_)
      go_ret
      exact ⟨rfl, HF.out⟩
    | true =>
      go_enter Tryz.func25, Tryz.ntmps25
      go_wp2_with (at_builtin; refine wpList_ranS _ rfl _ _ 22 22 rfl _ _ _ _ rfl rfl hap ?_)
      go_ret
      exact ⟨rfl, HF.out⟩
  · obtain ⟨q, hq⟩ : ∃ q, p.length = q + 1 := ⟨p.length - 1, by have := List.length_pos_iff.2 hp; omega⟩
    obtain ⟨v, hv⟩ : ∃ v, Sp.onL ⟨i, o, p, k⟩ j = v := ⟨_, rfl⟩
    have hW : OnI N E a2 cap2 be bi bo bp bk m0 ⟨i, o, p, v⟩ (W.setCell ⟨bk, 0, none⟩ (.bool v)) := h.setk hB v
    obtain ⟨gp, cp, y, k3, hcp, hgp, ky, hyx, hP⟩ := hW.pop hB hq
    obtain ⟨go2, co2, q1, g', c', W4, hap, q2, q3, q4, q5⟩ := hP.put1 hB hx (by dsimp only; omega)
    have e1 : ∀ b, b ≠ bk → (W.setCell ⟨bk, 0, none⟩ (.bool v)).heap[b]? = W.heap[b]? := fun b hb => Below.heap_setCell W _ _ b hb
    have kp1 : (W.setCell ⟨bk, 0, none⟩ (.bool v)).cell? ⟨bp, 0, none⟩ = some (.slice (some ⟨gp, 0, none⟩) (q + 1) cp) := by simp [World.cell?, k3]
    have kp2 : (W.setCell ⟨bk, 0, none⟩ (.bool v)).frozen? ⟨bp, 0, none⟩ = false := by simp [World.frozen?, k3]
    have kp : W.cell? ⟨bp, 0, none⟩ = some (.slice (some ⟨gp, 0, none⟩) (q + 1) cp) := by
      rw [← World.cell?_of_block (w := W) (w' := W.setCell ⟨bk, 0, none⟩ (.bool v)) (e1 bp (by omega))]; exact kp1
    have kl : W.cell? ⟨gp, q, none⟩ = some (.int .u64 y) := by
      rw [← World.cell?_of_block (w := W) (w' := W.setCell ⟨bk, 0, none⟩ (.bool v)) (e1 gp (by omega))]; exact ky
    have HF : Hid (OnI N E a2 cap2 be bi bo bp bk m0 ((Sp.on nx).leave ⟨i, o, p, k⟩ j).2 (W4.setCell ⟨bo, 0, none⟩ (.slice (some ⟨g', 0, none⟩) (o.length + 1) c')) ∧ KwO (Sp.onM bi bo bp bk m0) W (W4.setCell ⟨bo, 0, none⟩ (.slice (some ⟨g', 0, none⟩) (o.length + 1) c'))) := by
      refine ⟨?_, ((HK1.out v).set (.inl fun _ => .inr (.inr (.inl rfl))) _).trans q5⟩
      simp only [Sp.on, hv]
      exact q4
    dsimp only at q1 hap q2
    rw [show ((W.setCell ⟨bk, 0, none⟩ (.bool v)).setCell ⟨bp, 0, none⟩ (.slice (some ⟨gp, 0, none⟩) q cp)).heap.size = W.heap.size by simp [World.setCell]] at hap
    have hvx : v = (k && (y == x)) := by
      rw [← hv]
      unfold Sp.onL
      rw [show p.length - 1 = q by omega]
      congr 1
      have := hyx j x hx hN
      dsimp only at this
      by_cases hy : y = x
      · rw [decide_eq_true (this.2 hy)]; simp [hy]
      · rw [decide_eq_false (fun h => hy (this.1 h))]; simp [hy]
    have hq9 : q < 16384 := by omega
    have hqz : (q : Int) < (q : Int) + 1 := by omega
    have hq0 : (0 : Int) < (q : Int) + 1 := by omega
    have hqc : (q : Int) ≤ (cp : Int) := by omega
    have hqc2 : q ≤ cp := by omega
    have hw1 : IntKind.i64.wrap (q : Int) = (q : Int) := Go.wrap_small _ (by omega) (by omega)
    have hw2 : IntKind.i64.wrap ((q : Int) + 1 - 1) = (q : Int) := by rw [show (q : Int) + 1 - 1 = (q : Int) by omega]; exact hw1
    clear k3 hyx hP h hB q4 q5 HI ho hv hW hq hp hlen e1 ky
    cases k with
    | false =>
      obtain rfl : v = false := by rw [hvx]; rfl
      clear hvx
      go_enter Tryz.func25, Tryz.ntmps25
      go_wp2_with (at_builtin; refine wpList_ranS _ rfl _ _ 22 22 rfl _ _ _ _ rfl rfl hap ?_)
      go_ret
      exact ⟨rfl, HF.out⟩
    | true =>
      by_cases hy : y = x
      · obtain rfl : v = true := by rw [hvx]; simp [hy]
        subst hy
        clear hvx
        go_enter Tryz.func25, Tryz.ntmps25
        go_wp2_with (at_builtin; refine wpList_ranS _ rfl _ _ 22 22 rfl _ _ _ _ rfl rfl hap ?_)
        go_ret
        exact ⟨rfl, HF.out⟩
      · obtain rfl : v = false := by rw [hvx]; simp [hy]
        have hyb : (y == x) = false := by simpa using hy
        clear hvx
        go_enter Tryz.func25, Tryz.ntmps25
        go_wp2_with (at_builtin; refine wpList_ranS _ rfl _ _ 22 22 rfl _ _ _ _ rfl rfl hap ?_)
        go_ret
        exact ⟨rfl, HF.out⟩
end Go.Proofs.YtikhpbidbcfedaaGreat

