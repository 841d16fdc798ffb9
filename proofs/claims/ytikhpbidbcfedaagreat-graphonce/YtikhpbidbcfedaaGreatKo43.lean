/- tenonlaw14.GraphOnce returns true. -/
import Derived.Test.YtikhpbidbcfedaaGreatKo35
import Derived.Test.YtikhpbidbcfedaaGreatKo42
namespace Go.Proofs.YtikhpbidbcfedaaGreat
open Go.RowKit Go.ChangeMaps

set_option maxRecDepth 100000 in
set_option maxHeartbeats 16000000 in
theorem GraphOnce_any (a : Option Addr) (cap : Nat) (nodes : List Int) (a2 : Option Addr) (cap2 : Nat) (E : List (Int × Int)) (a3 : Option Addr) (cap3 : Nat) (l : List Int) (w : World)
    (h1 : RefsAt w w.heap.size a nodes) (h2 : EdgesAt w w.heap.size a2 E) (h3 : RefsAt w w.heap.size a3 l) (hl1 : nodes.length * 8 ≤ 140737488355328) (hl2 : E.length * 16 ≤ 140737488355328) (hl3 : l.length * 8 ≤ 140737488355328) :
    Calls Tryz.prog 6 #[.slice a nodes.length cap, .slice a2 E.length cap2, .slice a3 l.length cap3] w fun e w' => e = .returned (.bool true) ∧ Below w.heap.size w w' := by
  have hmf : ∀ (fn : Fn) (first cap : Array Value) (w : World), (Instr.makeFunc fn first cap).run Tryz.prog w = .ok (.func fn first cap) w := fun _ _ _ _ => rfl
  obtain ⟨w0, hw0⟩ : ∃ w0, w.alloc (.cells #[.slice a2 E.length cap2] 23) = w0 := ⟨_, rfl⟩
  have H0 : Hid (Below w.heap.size w w0 ∧ w0.heap[w.heap.size]? = some (.cells #[.slice a2 E.length cap2] 23 (0, 0)) ∧ w0.heap.size = w.heap.size + 1) := ⟨by rw [← hw0]; exact (Below.refl _ _).alloc (Nat.le_refl _) _, by rw [← hw0]; exact heap_alloc_new w _, by rw [← hw0, al_size]⟩
  have HV := lives_any w0
  have HMK : Hid (∀ W : World, Below w.heap.size w W → Calls Tryz.prog 9 #[.slice a nodes.length cap, .slice a2 E.length cap2] W fun e w' => ∃ p, e = .returned (.tuple #[.pointer p, .int .i64 (Sp.mkE nodes E)]) ∧ MkE W nodes E p w') := fun W hW => Make_any a cap nodes a2 cap2 E w.heap.size W (h1.keep hW) (h2.keep hW.block) hW.size hl1 hl2
  have HBD : Hid (∀ x ∈ nodes, 0 ≤ x ∧ x < 18446744073709551616) := h1.bd
  have HLR : Hid (∀ W : World, Below w.heap.size w W → RefsAt W W.heap.size a3 l) := fun W hW => (h3.keep hW).mono3 hW.size
  have HEV : Hid (∀ W : World, Below w.heap.size w W → EgV W a2 E) := fun W hW => (h2.keep hW.block).egv
  have HA2 : Hid (∀ (t : Nat) (x : Int × Int), E[t]? = some x → ∀ b o, a2 = some ⟨b, o, none⟩ → b < w.heap.size) := fun t x hx b o e => by

    obtain ⟨b', o', e', h, _⟩ := h2.row t x hx
    rw [e] at e'; injection e' with e'; injection e' with e1 e2
    omega
  clear h1 h2 h3 hl1
  go_enter Tryz.func6, Tryz.ntmps6
  go_wp2_with fail

  refine HV.mono ?_
  rintro e w1 ⟨rfl, hb1⟩
  have H1 : Hid (Below w0.heap.size w0 w1 ∧ Below w.heap.size w w1) := ⟨hb1, belT H0.out.1 hb1⟩
  have kbe : w1.cell? ⟨w.heap.size, 0, none⟩ = some (.slice a2 E.length cap2) := by
    have := (hb1.block w.heap.size (by have := H0.out.2.2; omega)).trans H0.out.2.1
    simp [World.cell?, this]
  clear hb1 HV
  go_wp2_with fail
  refine (HMK.out w1 H1.out.2).mono ?_
  rintro e w2 ⟨p, rfl, hmE⟩
  have HM : Hid (MkE w1 nodes E p w2) := hmE
  have H2 : Hid (Below w1.heap.size w1 w2 ∧ Below w.heap.size w w2) := ⟨hmE.1, belT H1.out.2 hmE.1⟩
  clear hmE HMK kbe
  by_cases hk : Sp.mkE nodes E ≠ 0
  · obtain rfl := HM.out.2.2 hk
    go_wp2_with fail
    go_ret
    exact ⟨rfl, H2.out.2⟩
  have hk0 : Sp.mkE nodes E = 0 := Classical.byContradiction fun h => hk h
  clear hk
  obtain ⟨gb, rfl, hg⟩ := HM.out.2.1 hk0
  rw [hk0]
  obtain ⟨q1, q2, q3, q4, q5⟩ := mkE_parts hk0
  have hN0 : (Sp.srt nodes).length ≤ 4096 ∧ (Sp.srt nodes).Pairwise (· < ·) ∧ ∀ x ∈ Sp.srt nodes, 0 ≤ x ∧ x < 18446744073709551616 := ⟨by rw [srt_len]; exact q1, srt_lt q4, fun x hx => HBD.out x (srt_mem.1 hx)⟩
  obtain ⟨N, hN⟩ : ∃ N, Sp.srt nodes = N := ⟨_, rfl⟩
  rw [hN] at hg hN0
  have hNX : (∀ i, ∀ x ∈ Sp.nx N E i, x < N.length) ∧ (∀ p, (Sp.nx N E p).length ≤ 4096) ∧ ∀ i, (Sp.nx N E i).Pairwise (· < ·) :=
    ⟨fun t j hj => (nx_mem.1 hj).1, fun t => Nat.le_trans (by unfold Sp.nx; exact List.length_filter_le _ _) (by simp; exact hN0.1), nx_lt _ _⟩
  have hEN : ∀ i j x y, N[i]? = some x → N[j]? = some y → ((x, y) ∈ E ↔ j ∈ Sp.nx N E i) := fun i j x y hi hj => by
    rw [nx_mem, List.getD_eq_getElem?_getD, List.getD_eq_getElem?_getD, hi, hj]
    exact ⟨fun h => ⟨(List.getElem?_eq_some_iff.1 hj).1, h⟩, fun h => h.2⟩
  have HGE : Hid (∀ W : World, (∀ k, w1.heap.size ≤ k ∧ k < w2.heap.size → W.heap[k]? = w2.heap[k]?) → GrE W (fun k => w1.heap.size ≤ k ∧ k < w2.heap.size) gb N (Sp.nx N E)) := fun W hW => hg.keep hW
  have HRC : Hid (∀ W : World, (∀ k, w1.heap.size ≤ k ∧ k < w2.heap.size → W.heap[k]? = w2.heap[k]?) → Below w.heap.size w W → Calls Tryz.prog 10 #[.pointer (some ⟨gb, 0, none⟩), .slice a3 l.length cap3] W (ReE W (Sp.reach N (Sp.nx N E) l) 140)) := fun W hW hb => pReach_any _ gb N (Sp.nx N E) a3 cap3 l W (HGE.out W hW) (HLR.out W hb) hl3 hN0.1 hNX.1 hNX.2.1
  obtain ⟨W3, hW3⟩ : ∃ W3, ((((w2.alloc (.cells #[.slice none 0 0] 22)).alloc (.cells #[.slice none 0 0] 22)).alloc (.cells #[.slice none 0 0] 22)).alloc (.cells #[.bool true] 4)) = W3 := ⟨_, rfl⟩
  have HB3 : Hid (Below w2.heap.size w2 W3 ∧ W3.heap.size = w2.heap.size + 4 ∧ W3.heap[w2.heap.size]? = some (.cells #[.slice none 0 0] 22 (0, 0)) ∧ W3.heap[w2.heap.size + 1]? = some (.cells #[.slice none 0 0] 22 (0, 0)) ∧ W3.heap[w2.heap.size + 2]? = some (.cells #[.slice none 0 0] 22 (0, 0)) ∧ W3.heap[w2.heap.size + 3]? = some (.cells #[.bool true] 4 (0, 0))) := by
    rw [← hW3]
    refine ⟨((((Below.refl _ _).alloc (Nat.le_refl _) _).alloc (by simp only [al_size]; omega) _).alloc (by simp only [al_size]; omega) _).alloc (by simp only [al_size]; omega) _, by simp only [al_size], ?_, ?_, ?_, ?_⟩
    · rw [Below.heap_alloc _ _ _ (by simp only [al_size]; omega), Below.heap_alloc _ _ _ (by simp only [al_size]; omega), Below.heap_alloc _ _ _ (by simp only [al_size]; omega)]; exact heap_alloc_new _ _
    · rw [Below.heap_alloc _ _ _ (by simp only [al_size]; omega), Below.heap_alloc _ _ _ (by simp only [al_size]; omega)]; have := heap_alloc_new (w2.alloc (.cells #[.slice none 0 0] 22)) (.cells #[.slice none 0 0] 22); rw [al_size] at this; exact this
    · rw [Below.heap_alloc _ _ _ (by simp only [al_size]; omega)]; have := heap_alloc_new ((w2.alloc (.cells #[.slice none 0 0] 22)).alloc (.cells #[.slice none 0 0] 22)) (.cells #[.slice none 0 0] 22); simp only [al_size] at this; exact this
    · have := heap_alloc_new (((w2.alloc (.cells #[.slice none 0 0] 22)).alloc (.cells #[.slice none 0 0] 22)).alloc (.cells #[.slice none 0 0] 22)) (.cells #[.bool true] 4); simp only [al_size] at this; exact this
  have hs1 : w.heap.size + 1 ≤ w1.heap.size := by have := H0.out.2.2; have := H1.out.1.size; omega
  have hs2 : w1.heap.size ≤ w2.heap.size := H2.out.1.size
  have hbe3 : W3.heap[w.heap.size]? = some (.cells #[.slice a2 E.length cap2] 23 (0, 0)) := (((HB3.out.1.block w.heap.size (by omega)).trans (H2.out.1.block w.heap.size (by omega))).trans (H1.out.1.block w.heap.size (by have := H0.out.2.2; omega))).trans H0.out.2.1
  have HW3 : Hid (Below w.heap.size w W3) := belT H2.out.2 HB3.out.1
  have HOB : Hid (∀ m0, W3.heap.size < m0 → OnB E a2 w.heap.size w2.heap.size (w2.heap.size + 1) (w2.heap.size + 2) (w2.heap.size + 3) m0) := fun m0 hm => ⟨HA2.out, by have := HB3.out.2.1; omega⟩
  have HWK : Hid (Calls Tryz.prog 23 #[.pointer (some ⟨gb, 0, none⟩), .slice a3 l.length cap3, .func (.func 24) #[] #[.pointer (some ⟨w2.heap.size + 3, 0, none⟩), .pointer (some ⟨w2.heap.size, 0, none⟩), .pointer (some ⟨w2.heap.size + 2, 0, none⟩), .pointer (some ⟨w.heap.size, 0, none⟩)], .func (.func 25) #[] #[.pointer (some ⟨w2.heap.size + 3, 0, none⟩), .pointer (some ⟨w2.heap.size + 2, 0, none⟩), .pointer (some ⟨w2.heap.size + 1, 0, none⟩)]] W3
      (WalkF On (Sp.on (Sp.nx N E)) N (Sp.nx N E) (fun m0 => Sp.onM w2.heap.size (w2.heap.size + 1) (w2.heap.size + 2) (w2.heap.size + 3) m0) (fun m0 s W => OnI N E a2 cap2 w.heap.size w2.heap.size (w2.heap.size + 1) (w2.heap.size + 2) (w2.heap.size + 3) m0 s W) l ⟨[], [], [], true⟩ W3)) := by
    obtain ⟨gs, c, mb, xb, G, es, ck, bl, cp, lo, hgp⟩ := HGE.out W3 (fun k hk => HB3.out.1.block k hk.2)
    have hz3 := HB3.out.2.1
    refine Walk_anyO (zf := fun s : On => s.i.length + s.o.length) (s := (⟨[], [], [], true⟩ : On)) _ gb N (Sp.nx N E) gs c mb xb G es ck bl cp lo a3 cap3 l W3 hgp (fun k hk => ⟨by omega, fun m0 o hm h => ?_⟩) (fun m0 eb h1 h2 => on_visP hN0.2.1 hEN hl2 (HOB.out m0 (by omega)) (by omega) h1 h2) (fun m0 X hX hm hs => ?_) (by simp; omega) (HLR.out W3 HW3.out) hl3 hN0.1 (fun t _ => hNX.2.1 t) (fun t _ => hNX.1 t)
    · rcases h with h | h | h | h | ⟨h, _⟩ <;> omega
    · obtain ⟨_, _, c1, c2, c3, c4⟩ := HB3.out
      have hx : ∀ k, k < W3.heap.size → X.heap[k]? = W3.heap[k]? := fun k hk => hX.block k hk
      exact ⟨(hx _ (by omega)).trans c4, (hx _ (by omega)).trans hbe3, ⟨none, 0, none, 0, none, 0, (hx _ (by omega)).trans c1, (hx _ (by omega)).trans c2, (hx _ (by omega)).trans c3, ⟨fun _ => ⟨rfl, rfl⟩, fun g hg => by cases hg⟩, ⟨fun _ => ⟨rfl, rfl⟩, fun g hg => by cases hg⟩, ⟨fun _ => ⟨rfl, rfl⟩, fun g hg => by cases hg⟩, (fun g hg => by rcases hg with hg | hg | hg <;> cases hg), (fun g hg => by cases hg), fun g hg => by cases hg⟩, HEV.out X (belT HW3.out hX), Nat.le_refl _, (fun x hx => by simp at hx), hs⟩
  have HN : Hid (N.length ≤ 4096) := hN0.1
  clear hN hg HBD q1 q2 q3 q4 q5 hk0 HM hN0 hNX hEN hbe3 HGE HLR HEV HA2
  go_wp2_with fail

  refine HWK.out.mono ?_
  rintro e w4 h4
  clear HWK hW3
  unfold WalkF at h4
  cases hp : Sp.pls N l with
  | none =>
    rw [hp] at h4
    obtain ⟨rfl, hb4⟩ := h4
    have hRN : Sp.reach N (Sp.nx N E) l = none := by unfold Sp.reach; rw [hp]; rfl
    have HB4 : Hid (Below W3.heap.size W3 w4) := hb4
    have HQ : Hid (Calls Tryz.prog 10 #[.pointer (some ⟨gb, 0, none⟩), .slice a3 l.length cap3] w4 (ReE w4 (Sp.reach N (Sp.nx N E) l) 140)) := HRC.out w4 (fun k hk => (hb4.block k (by have := HB3.out.2.1; omega)).trans (HB3.out.1.block k hk.2)) (belT HW3.out hb4)
    rw [hRN] at HQ
    clear hb4 hp hRN HRC
    go_wp2_with fail
    refine HQ.out.mono ?_
    rintro e w5 ⟨hb5, h⟩
    rcases h with ⟨_, rfl⟩ | ⟨R, gr, cr, hR, _⟩
    rotate_left
    · cases hR
    have k9 : w5.cell? ⟨w2.heap.size, 0, none⟩ = some (.slice none 0 0) := by
      have h35 := belT HB4.out hb5
      have := (h35.block w2.heap.size (by have := HB3.out.2.1; omega)).trans HB3.out.2.2.1
      simp [World.cell?, this]
    have HF : Hid (Below w.heap.size w w5) := belT HW3.out (belT HB4.out hb5)
    clear hb5 HQ HB4 HW3 HB3 H2 H1 H0 HOB
    go_wp2_with fail
    go_ret
    exact ⟨rfl, HF.out⟩
  | some ps =>
    rw [hp] at h4
    obtain ⟨he, m0, hm0, hI4, hk4⟩ := h4
    obtain ⟨R, hR⟩ : ∃ R, Sp.reach N (Sp.nx N E) l = some R := by unfold Sp.reach; rw [hp]; exact ⟨_, rfl⟩
    obtain ⟨hw1, t, u, hw2, ht, hu, hRl, hin⟩ := once_math hp hR
    rw [hw1, if_neg (by simp)] at he
    rw [hw2] at hI4
    subst he
    have hRl8 : R.length ≤ 4096 := Nat.le_trans hRl HN.out
    have hsz3 := HB3.out.2.1
    have hb4 : Below w.heap.size w w4 := ⟨hk4.os.trans HW3.out.os, hk4.tape.trans HW3.out.tape, hk4.output.trans HW3.out.output, Nat.le_trans HW3.out.size hk4.size, fun k hk => (hk4.block k (Nat.lt_of_lt_of_le hk HW3.out.size) (fun hM => by rcases hM with h | h | h | h | ⟨h, _⟩ <;> omega)).trans (HW3.out.block k hk)⟩
    have hg4 : ∀ k, w1.heap.size ≤ k ∧ k < w2.heap.size → w4.heap[k]? = w2.heap[k]? := fun k hk => (hk4.block k (by omega) (fun hM => by rcases hM with h | h | h | h | ⟨h, _⟩ <;> omega)).trans (HB3.out.1.block k hk.2)
    have HQ : Hid (Calls Tryz.prog 10 #[.pointer (some ⟨gb, 0, none⟩), .slice a3 l.length cap3] w4 (ReE w4 (some R) 140)) := by have := HRC.out w4 hg4 hb4; rwa [hR] at this
    have HI4 : Hid (OnI N E a2 cap2 w.heap.size w2.heap.size (w2.heap.size + 1) (w2.heap.size + 2) (w2.heap.size + 3) m0 ⟨t, u, [], true⟩ w4) := hI4
    have HB4 : Hid (Below w.heap.size w w4) := hb4
    have HIN : Hid (∀ v ∈ R, v ∈ Sp.rfs N t ∧ v ∈ Sp.rfs N u) := hin
    have HOB2 : Hid (OnB E a2 w.heap.size w2.heap.size (w2.heap.size + 1) (w2.heap.size + 2) (w2.heap.size + 3) m0) := HOB.out m0 hm0
    clear hb4 hp hR hw1 hw2 hin hI4 hk4 hg4 HRC hRl HOB HW3 HB3 H2 H1 H0
    go_wp2_with fail
    refine HQ.out.mono ?_
    rintro e w5 ⟨hb5, h⟩
    rcases h with ⟨hr, _⟩ | ⟨R0, gr, cr, hR0, rfl, hnR, _⟩
    · cases hr
    injection hR0 with hR0
    subst hR0
    have hI5 := HI4.out.keep HOB2.out hb5.size (fun j h _ => hb5.block j h)
    obtain ⟨gi, ci, go, co, gp, cp, r1, r2, r3, r4, r5, _⟩ := hI5.rows
    dsimp only at r1 r2 r3 r4 r5
    rw [ht] at r1
    rw [hu] at r2
    have HL5 : Hid (w5.heap[w2.heap.size]? = some (.cells #[.slice (adr gi) R.length ci] 22 (0, 0)) ∧ w5.heap[w2.heap.size + 1]? = some (.cells #[.slice (adr go) R.length co] 22 (0, 0)) ∧ RfV w5 (adr gi) (Sp.rfs N t) ∧ RfV w5 (adr go) (Sp.rfs N u) ∧ NdR w5 gr cr R) := ⟨r1, r2, r4.rfv, r5.rfv, hnR⟩
    have c1 : w5.cell? ⟨w2.heap.size, 0, none⟩ = some (.slice (adr gi) R.length ci) := by simp [World.cell?, r1]
    have c2 : w5.cell? ⟨w2.heap.size + 1, 0, none⟩ = some (.slice (adr go) R.length co) := by simp [World.cell?, r2]
    have c3 : w5.cell? ⟨w2.heap.size + 2, 0, none⟩ = some (.slice (adr gp) 0 cp) := by simp [World.cell?, r3]
    have c4 : w5.cell? ⟨w2.heap.size + 3, 0, none⟩ = some (.bool true) := by simp [World.cell?, hI5.k]
    have HB5 : Hid (Below w.heap.size w w5) := belT HB4.out hb5
    have htl : (Sp.rfs N t).length = R.length := by rw [rfs_len2]; exact ht
    have hul : (Sp.rfs N u).length = R.length := by rw [rfs_len2]; exact hu
    have HTL : Hid ((Sp.rfs N t).length = R.length ∧ (Sp.rfs N u).length = R.length) := ⟨htl, hul⟩
    clear hb5 hnR hI5 r1 r2 r3 r4 r5 HQ HI4 HB4 HOB2 ht hu htl hul
    go_wp2_with fail
    clear c1 c2 c3 c4
    go_loopw [16] (fun v16 wr => ∃ i : Nat, v16 = .int .i64 i ∧ i ≤ R.length ∧ Hid (Below w5.heap.size w5 wr)) (fun v16 _ => R.length - (intOf v16).toNat)
    case atStart => exact ⟨0, rfl, Nat.zero_le _, Below.refl _ _⟩
    case round =>
      as_aux_lemma =>
      obtain ⟨i, rfl, hi, HS⟩ := hrel
      by_cases hlt : i < R.length
      · have hltz : (i : Int) < (R.length : Int) := by omega
        obtain ⟨v, hv⟩ : ∃ e, R[i]? = some e := ⟨_, List.getElem?_eq_getElem hlt⟩
        obtain ⟨v1, v2⟩ := HIN.out v (List.mem_of_getElem? hv)
        have hold : ∀ k, k < w5.heap.size → wr.heap[k]? = w5.heap[k]? := fun k hk => HS.out.block k hk
        have ki : wr.cell? ⟨w2.heap.size, 0, none⟩ = some (.slice (adr gi) R.length ci) := by simp [World.cell?, (hold _ (Array.getElem?_eq_some_iff.1 HL5.out.1).1).trans HL5.out.1]
        have ko : wr.cell? ⟨w2.heap.size + 1, 0, none⟩ = some (.slice (adr go) R.length co) := by simp [World.cell?, (hold _ (Array.getElem?_eq_some_iff.1 HL5.out.2.1).1).trans HL5.out.2.1]
        obtain ⟨g, rfl, kr⟩ := (HL5.out.2.2.2.2.keep (fun g hg => hold g (HL5.out.2.2.2.2.2 g hg).lt)).at_ hv
        have ead : adr (some g) = some ⟨g, 0, none⟩ := rfl
        have HC1 : Hid (∀ W8 : World, Below wr.heap.size wr W8 → Calls Tryz.prog 12 #[.slice (adr gi) R.length ci, .int .u64 v] W8 fun e w' => e = .returned (.bool true) ∧ Below W8.heap.size W8 w') := fun W8 hW8 => by
          have := rHas_any (adr gi) ci (Sp.rfs N t) v W8 (HL5.out.2.2.1.keep (belT HS.out hW8)) (by rw [HTL.out.1]; omega)
          rwa [decide_eq_true v1, HTL.out.1] at this
        have HC2 : Hid (∀ W8 : World, Below wr.heap.size wr W8 → Calls Tryz.prog 12 #[.slice (adr go) R.length co, .int .u64 v] W8 fun e w' => e = .returned (.bool true) ∧ Below W8.heap.size W8 w') := fun W8 hW8 => by
          have := rHas_any (adr go) co (Sp.rfs N u) v W8 (HL5.out.2.2.2.1.keep (belT HS.out hW8)) (by rw [HTL.out.2]; omega)
          rwa [decide_eq_true v2, HTL.out.2] at this
        clear hv v1 v2 hold
        go_wp2_with fail
        refine wp_region_mark (fun Z => Z.cell? ⟨w2.heap.size, 0, none⟩ = some (.slice (adr gi) R.length ci) ∧ Z.cell? ⟨w2.heap.size + 1, 0, none⟩ = some (.slice (adr go) R.length co) ∧ Z.cell? ⟨g, i, none⟩ = some (.int .u64 v)) 13 (by kernel_rfl) ?_
        have hHeld : wr.drew.cell? ⟨w2.heap.size, 0, none⟩ = some (.slice (adr gi) R.length ci) ∧ wr.drew.cell? ⟨w2.heap.size + 1, 0, none⟩ = some (.slice (adr go) R.length co) ∧ wr.drew.cell? ⟨g, i, none⟩ = some (.int .u64 v) := ⟨ki, ko, kr⟩
        refine tkM (i := 0) (v := ?_) [7, 6, 5] rfl (by kernel_rfl) (by rfl) ?_ (by assumption) ?_
        rotate_left
        · intro Z hSw; (try dsimp only at hSw); go_simp; try (with_reducible rfl)
        simp only [Act.put, lsA, lsB, lsC]
        refine tkF (i := 1) (v := ?_) rfl (by kernel_rfl) (by rfl) ?_ (.inr (by assumption)) ?_
        rotate_left
        · intro Z hSw; go_simp; try (with_reducible rfl)
        simp only [Act.put, lsA, lsB, lsC]
        refine tkF (i := 2) (v := ?_) rfl (by kernel_rfl) (by rfl) ?_ (.inr (by assumption)) ?_
        rotate_left
        · intro Z hSw; go_simp; try (with_reducible rfl)
        simp only [Act.put, lsA, lsB, lsC]
        refine tkF (i := 3) (v := ?_) rfl (by kernel_rfl) (by rfl) ?_ (.inr (by assumption)) ?_
        rotate_left
        · intro Z hSw; go_simp; try (with_reducible rfl)
        simp only [Act.put, lsA, lsB, lsC]
        refine tkM (i := 4) (v := ?_) [7, 6, 5] rfl (by kernel_rfl) (by rfl) ?_ (by assumption) ?_
        rotate_left
        · intro Z hSw; (try dsimp only at hSw); go_simp; try (with_reducible rfl)
        simp only [Act.put, lsA, lsB, lsC]
        refine tkO (i := 5) (by kernel_rfl) rfl (fun K0 hK => ?_)
        go_simp
        refine (HC1.out wr.drew (Below.refl _ _).drew).mono ?_
        rintro e w11 ⟨rfl, hb11⟩
        have hh : w11.cell? ⟨w2.heap.size, 0, none⟩ = some (.slice (adr gi) R.length ci) ∧ w11.cell? ⟨w2.heap.size + 1, 0, none⟩ = some (.slice (adr go) R.length co) ∧ w11.cell? ⟨g, i, none⟩ = some (.int .u64 v) := by
          refine ⟨?_, ?_, ?_⟩
          · rw [World.cell?_of_block (w := wr.drew) (hb11.block _ (World.block_lt_of_cell? _ _ hHeld.1))]; exact hHeld.1
          · rw [World.cell?_of_block (w := wr.drew) (hb11.block _ (World.block_lt_of_cell? _ _ hHeld.2.1))]; exact hHeld.2.1
          · rw [World.cell?_of_block (w := wr.drew) (hb11.block _ (World.block_lt_of_cell? _ _ hHeld.2.2))]; exact hHeld.2.2
        have H13 : Hid (Below wr.heap.size wr w11) := belT (Below.refl _ _).drew hb11
        clear hb11 hHeld ki ko kr
        have hHeld := hh
        clear hh
        go_wp2_with fail
        refine hK.out _ _ (.inr hHeld) ?_
        clear hK K0
        refine tkF (i := 6) (v := ?_) rfl (by kernel_rfl) (by rfl) ?_ (.inr (by assumption)) ?_
        rotate_left
        · intro Z hSw; go_simp; try (with_reducible rfl)
        simp only [Act.put, lsA, lsB, lsC]
        refine tkF (i := 7) (v := ?_) rfl (by kernel_rfl) (by rfl) ?_ (.inr (by assumption)) ?_
        rotate_left
        · intro Z hSw; go_simp; try (with_reducible rfl)
        simp only [Act.put, lsA, lsB, lsC]
        refine tkM (i := 8) (v := ?_) [] rfl (by kernel_rfl) (by rfl) ?_ (by assumption) ?_
        rotate_left
        · intro Z hSw; (try dsimp only at hSw); go_simp; try (with_reducible rfl)
        simp only [Act.put, lsA, lsB, lsC]
        refine tkF (i := 9) (v := ?_) rfl (by kernel_rfl) (by rfl) ?_ (.inr (by assumption)) ?_
        rotate_left
        · intro Z hSw; go_simp; try (with_reducible rfl)
        simp only [Act.put, lsA, lsB, lsC]
        refine tkF (i := 10) (v := ?_) rfl (by kernel_rfl) (by rfl) ?_ (.inr (by assumption)) ?_
        rotate_left
        · intro Z hSw; go_simp; try (with_reducible rfl)
        simp only [Act.put, lsA, lsB, lsC]
        refine tkF (i := 11) (v := ?_) rfl (by kernel_rfl) (by rfl) ?_ (.inr (by assumption)) ?_
        rotate_left
        · intro Z hSw; go_simp; try (with_reducible rfl)
        simp only [Act.put, lsA, lsB, lsC]
        refine tkM (i := 12) (v := ?_) [] rfl (by kernel_rfl) (by rfl) ?_ (by assumption) ?_
        rotate_left
        · intro Z hSw; (try dsimp only at hSw); go_simp; try (with_reducible rfl)
        simp only [Act.put, lsA, lsB, lsC]
        refine tkO (i := 13) (by kernel_rfl) rfl (fun K0 hK => ?_)
        go_simp
        refine (HC2.out w11 H13.out).mono ?_
        rintro e w12 ⟨rfl, hb12⟩
        have H14 : Hid (Below w5.heap.size w5 w12) := belT HS.out (belT H13.out hb12)
        clear hb12 hHeld H13 HC1 HC2 HS
        go_wp2_with fail
        refine hK.out _ _ (.inl (by kernel_rfl)) ?_
        clear hK K0
        refine tkF (i := 14) (v := ?_) rfl (by kernel_rfl) (by rfl) ?_ (.inl (by kernel_rfl)) ?_
        rotate_left
        · intro Z hSw; go_simp; try (with_reducible rfl)
        simp only [Act.put, lsA, lsB, lsC]
        refine tkF (i := 15) (v := ?_) rfl (by kernel_rfl) (by rfl) ?_ (.inl (by kernel_rfl)) ?_
        rotate_left
        · intro Z hSw; go_simp; try (with_reducible rfl)
        simp only [Act.put, lsA, lsB, lsC]
        refine wpAnyM_done (by kernel_rfl) ?_ _
        go_wp2_with fail
        rw [← ead]
        go_roundw
        case rel => exact ⟨i + 1, by go_num, by omega, H14.out⟩
        case measure => simp [intOf]; omega
      · obtain rfl : R.length = i := by omega
        have HF : Hid (Below w.heap.size w w) := Below.refl _ _
        have HF2 : Hid (Below w.heap.size w wr) := belT HB5.out HS.out
        clear HS HF
        go_wp2_with fail
        go_ret
        exact ⟨rfl, HF2.out⟩
end Go.Proofs.YtikhpbidbcfedaaGreat

