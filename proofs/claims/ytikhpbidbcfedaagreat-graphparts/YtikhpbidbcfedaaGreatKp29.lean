/- graph.parts: the nodes that reach one another, together. -/
import Derived.Test.YtikhpbidbcfedaaGreatKp28
namespace Go.Proofs.YtikhpbidbcfedaaGreat
open Go.RowKit Go.ChangeMaps Go.Shelf

attribute [local go_sem] Oper.semAt_some

def Sp.ups (k : Nat) : List Int := (List.range k).map fun j : Nat => (j : Int)
theorem ups_snoc (k : Nat) : Sp.ups (k + 1) = Sp.ups k ++ [(k : Int)] := by simp [Sp.ups, List.range_succ]
theorem ups_len (k : Nat) : (Sp.ups k).length = k := by simp [Sp.ups]
structure RuI (w : World) (l : List Int) (gs : Option Nat) (c : Nat) (wr : World) : Prop where
  row : NdI wr gs c l
  lo : ∀ g, gs = some g → w.heap.size ≤ g
  bel : Below w.heap.size w wr
theorem RuI.put {w wr w4 : World} {l : List Int} {gs : Option Nat} {c g' c' : Nat} {x : Int} (h : RuI w l gs c wr) (ho : OwnR w4 3 g' (l.length + 1) c' (iv (l ++ [x]))) (hg : (wr.alloc (.cells #[.int .i64 x] 3)).grownBy w4 gs) (hor : gs = some g' ∨ wr.heap.size < g') : RuI w (l ++ [x]) (some g') c' w4 := by
  have hb := h.bel.alloc h.bel.size (.cells #[.int .i64 x] 3)
  refine ⟨⟨(fun e => by cases e), fun g hgg => ?_⟩, fun g hgg => ?_, hb.grown hg hb.size (fun k hk => h.lo k hk)⟩
  · injection hgg with hgg; subst hgg; simpa using ho
  · injection hgg with hgg; subst hgg
    rcases hor with h1 | h1
    · exact h.lo g' h1
    · have := h.bel.size; omega

theorem region_round_mark {l n id : Nat} {P : Program} {ops : Array Oper} (S : World → Prop) (m : Nat) {Q : Exit → Act → World → Prop} {a : Act} {w : World} (hm : P.follows .mixedOrders = true) (hd : noDefer ops = true)
    (h : wpAnyM P .any ops (Tame Q) S m ops.size (Array.replicate ops.size false) a w.drew) : (Code.region id ops true).wpIn (Fence.wide.inRound l) n P Q a w :=
  wpIn_mono (wpIn_region_any hm (wpAnyIn_of_any hd Tame.lets _ _ _ _ (wpAny_of_mark _ _ _ _ h))) Tame.imp
set_option maxRecDepth 100000 in
set_option maxHeartbeats 8000000 in
theorem parts_any (gb : Nat) (N : List Int) (nx : Nat → List Nat) (w : World) (hg : GRP w gb N nx) (hb : ∀ i, ∀ x ∈ nx i, x < N.length) (hn : N.length ≤ 4096) (hnl : ∀ p, (nx p).length ≤ 4096) (hlt : ∀ i, (nx i).Pairwise (· < ·)) :
    Calls Tryz.prog 34 #[.pointer (some ⟨gb, 0, none⟩)] w (PtE w ((Sp.pts (Sp.bkn nx N.length) N.length (Sp.lfo nx N.length).reverse).2.map fun p => Sp.rfs N (Sp.upn N.length p))) := by
  obtain ⟨W2, hW2⟩ : ∃ W2, (w.alloc (.cells #[.pointer (some ⟨gb, 0, none⟩)] 27)).alloc (.cells #[.slice none 0 0] 60) = W2 := ⟨_, rfl⟩
  have hb2 : Below w.heap.size w W2 := by rw [← hW2]; exact ((Below.refl _ _).alloc (Nat.le_refl _) _).alloc (by rw [al_size]; omega) _
  have hz2 : W2.heap.size = w.heap.size + 1 + 1 := by rw [← hW2, al_size, al_size]
  have h20 : W2.heap[w.heap.size]? = some (.cells #[.pointer (some ⟨gb, 0, none⟩)] 27 (0, 0)) := by rw [← hW2]; exact (Below.heap_alloc _ _ _ (by rw [al_size]; omega)).trans (heap_alloc_new w _)
  have h21 : W2.heap[w.heap.size + 1]? = some (.cells #[.slice none 0 0] 60 (0, 0)) := by
    rw [← hW2]; have := heap_alloc_new (w.alloc (.cells #[.pointer (some ⟨gb, 0, none⟩)] 27)) (.cells #[.slice none 0 0] 60 (0, 0)); rwa [al_size] at this
  have k0 : W2.cell? ⟨w.heap.size, 0, none⟩ = some (.pointer (some ⟨gb, 0, none⟩)) := by simp [World.cell?, h20]
  obtain ⟨⟨gn, cn, lo, xb, bl, cp, hG⟩, mb, hm⟩ := hg
  have HGR : Hid (∀ W : World, Below w.heap.size w W → GR W gb N nx gn cn lo xb bl cp ∧ W.cell? ⟨gb, 1, none⟩ = some (.map (some mb))) := fun W hW => ⟨hG.keep hW, by rw [World.cell?_of_block (w := w) (hW.block gb hG.lt)]; exact hm⟩
  have HGO : Hid (gb < w.heap.size ∧ xb < w.heap.size ∧ ∀ t g, t < N.length → bl t = some g → g < w.heap.size) := ⟨hG.lt, hG.nxt.lt⟩
  have c0 := (HGR.out W2 hb2).1.c0
  have H0 : Hid (RuI W2 (Sp.ups 0) none 0 W2) := ⟨⟨fun _ => ⟨rfl, rfl⟩, fun g hg => by cases hg⟩, (fun g hg => by cases hg), Below.refl _ _⟩
  have H2 : Hid (Below w.heap.size w W2 ∧ W2.heap.size = w.heap.size + 1 + 1 ∧ W2.heap[w.heap.size]? = some (.cells #[.pointer (some ⟨gb, 0, none⟩)] 27 (0, 0)) ∧ W2.heap[w.heap.size + 1]? = some (.cells #[.slice none 0 0] 60 (0, 0))) := ⟨hb2, hz2, h20, h21⟩
  have HB : Hid ((∀ i, ∀ x ∈ nx i, x < N.length) ∧ (∀ p, (nx p).length ≤ 4096) ∧ ∀ i, (nx i).Pairwise (· < ·)) := ⟨hb, hnl, hlt⟩
  clear hb2 hz2 h20 h21 hG hm hb hnl hlt
  refine (callsIn_wide (n := 6)).1 ?_
  refine callsIn_of_wp_marks Tryz.func34 rfl trivial ?_ rfl
  simp only [Tryz.ntmps34, List.size_toArray, List.length_cons, List.length_nil, Nat.reduceAdd, Nat.reduceSub, Array.replicate_succ, Array.replicate_zero, List.push_toArray, List.append_toArray, List.nil_append, List.cons_append]
  gi_wp2_with fail
  clear k0 c0 hW2
  refine wpIn_wide.2 ?_
  go_loopw [3, 17] (fun v3 v17 wr => ∃ (k : Nat) (gs : Option Nat) (c : Nat), v17 = .int .i64 (k : Int) ∧ k ≤ N.length ∧ v3 = .slice (adr gs) k c ∧ Hid (RuI W2 (Sp.ups k) gs c wr)) (fun _ v17 _ => N.length - (intOf v17).toNat)
  case atStart => exact ⟨0, none, 0, rfl, Nat.zero_le _, rfl, H0.out⟩
  case round =>
    as_aux_lemma =>
    clear H0
    obtain ⟨k, gs, c, rfl, hk, rfl, HR⟩ := hrel
    by_cases hkl : k < N.length
    · have hkz : (k : Int) < (N.length : Int) := by omega
      obtain ⟨g', c', w4, hap, ho4, hgr4, hor4⟩ := appI gs c (Sp.ups k) wr HR.out.row (k : Int) (by rw [ups_len]; omega) 60
      rw [ups_len] at hap
      have HF : Hid (RuI W2 (Sp.ups (k + 1)) (some g') c' w4) := by show RuI _ _ _ _ _; rw [ups_snoc]; exact HR.out.put ho4 hgr4 hor4
      clear ho4 hgr4 hor4
      go_wp2_with (at_builtin; refine wpList_ranS _ rfl _ _ 60 60 rfl _ _ _ _ rfl rfl hap ?_)
      go_roundw
      case rel => exact ⟨k + 1, some g', c', by go_num, by omega, rfl, HF.out⟩
      case measure => simp [intOf]; omega
    · obtain rfl : N.length = k := by omega
      have hbr : Below w.heap.size w wr := belT H2.out.1 HR.out.bel
      have HG3 := (HGR.out wr hbr).1
      have h1 : wr.heap[w.heap.size]? = some (.cells #[.pointer (some ⟨gb, 0, none⟩)] 27 (0, 0)) := (HR.out.bel.block _ (by have := H2.out.2.1; omega)).trans H2.out.2.2.1
      have h2 : wr.heap[w.heap.size + 1]? = some (.cells #[.slice none 0 0] 60 (0, 0)) := (HR.out.bel.block _ (by have := H2.out.2.1; omega)).trans H2.out.2.2.2
      have k0 : wr.cell? ⟨w.heap.size, 0, none⟩ = some (.pointer (some ⟨gb, 0, none⟩)) := by simp [World.cell?, h1]
      have HWN := walk_newG gb xb N.length gn cn 55 56 #[] #[.pointer (some ⟨w.heap.size + 1, 0, none⟩)] wr HG3.c0 HG3.c2 HG3.lt hn
      have HWC : Hid (Calls Tryz.prog 42 #[.pointer (some ⟨gb, 0, none⟩), .func (.func 55) #[] #[], .func (.func 56) #[] #[.pointer (some ⟨w.heap.size + 1, 0, none⟩)]] wr fun e w' => ∃ eb, e = .returned (.agg (wsC xb eb N.length 55 56 #[] #[.pointer (some ⟨w.heap.size + 1, 0, none⟩)])) ∧ wr.heap.size ≤ eb ∧ OwnR w' 4 eb N.length N.length (bv (List.replicate N.length false)) ∧ Below wr.heap.size wr w') := HWN
      have H3 : Hid (Below w.heap.size w wr ∧ wr.heap[w.heap.size]? = some (.cells #[.pointer (some ⟨gb, 0, none⟩)] 27 (0, 0)) ∧ wr.heap[w.heap.size + 1]? = some (.cells #[.slice none 0 0] 60 (0, 0)) ∧ w.heap.size + 1 < wr.heap.size) := ⟨hbr, h1, h2, (Array.getElem?_eq_some_iff.1 h2).1⟩
      clear hbr HG3 h1 h2 HWN hkl
      go_wp2_with fail
      gi_wp2_with fail
      refine ⟨trivial, (callsIn_wide.2 HWC.out).mono ?_⟩
      rintro e w4 ⟨eb, rfl, hle, hE, hb4⟩
      have HA : Hid (Calls Tryz.prog 46 #[.agg (wsC xb eb N.length 55 56 #[] #[.pointer (some ⟨w.heap.size + 1, 0, none⟩)]), .slice (adr gs) N.length c] w4 fun e W' => e = .returned (.bool true) ∧ LfI (w.heap.size + 1) w4.heap.size (Sp.lfo nx N.length) W' ∧ Below w.heap.size w W' ∧ W'.heap[w.heap.size]? = some (.cells #[.pointer (some ⟨gb, 0, none⟩)] 27 (0, 0)) ∧ w4.heap.size ≤ W'.heap.size) := by
        have hbw4 := belT H3.out.1 hb4
        have hx := (HGR.out w4 hbw4).1.nxt
        have hB4 := (hb4.block _ H3.out.2.2.2).trans H3.out.2.2.1
        have hsz := H3.out.2.2.2
        have h := lf_walk 56 left2_any (fun _ _ => rfl) N.length eb (w.heap.size + 1) xb lo nx bl cp w4 (List.replicate N.length false) (List.range N.length) gs c hE hB4 hx (by omega) (by have := HGO.out.2.1; omega) (by have := HGO.out.2.1; omega) (fun t g ht hg => by have := HGO.out.2.2 t g ht hg; exact ⟨by omega, by omega⟩)
          (fun g hg => by
            have h1 := HR.out.lo g hg
            have h2 := (HR.out.row.2 g hg).lt
            have := H2.out.2.1
            exact ⟨by omega, by omega⟩) (by simp) (HR.out.row.keep (fun g hg => hb4.block g (HR.out.row.2 g hg).lt)) (by simp; omega) HB.out.1 HB.out.2.1 hn
        rw [List.length_range] at h
        refine h.mono ?_
        rintro e W' ⟨q1, q2, q3, q4⟩
        have old : ∀ k, k < w4.heap.size → k ≠ w.heap.size + 1 → k ≠ eb → W'.heap[k]? = w4.heap[k]? := fun k h1 h2 h3 => q4.block k h1 (by
          rintro (h | h)
          · rcases h with h | ⟨h, _⟩
            · exact h2 h
            · omega
          · exact h3 h)
        have hz4 := hb4.size
        refine ⟨q1, q2, ⟨q4.os.trans hbw4.os, q4.tape.trans hbw4.tape, q4.output.trans hbw4.output, Nat.le_trans hbw4.size q4.size, fun k hk => (old k (by omega) (by omega) (by omega)).trans (hbw4.block k hk)⟩, ?_, q4.size⟩
        exact (old _ (by omega) (by omega) (by omega)).trans ((hb4.block _ (by omega)).trans H3.out.2.1)
      have HZ4 : Hid (w.heap.size + 1 < w4.heap.size) := by have := hb4.size; have := H3.out.2.2.2; show _ < _; omega
      clear hle hE hb4 HWC HR
      simp only [wsC] at HA ⊢
      gi_wp2_with fail
      refine ⟨trivial, (callsIn_wide.2 HA.out).mono ?_⟩
      rintro e w5 ⟨rfl, q1, q2, q3, q4⟩
      dsimp only
      have H5 : Hid (LfI (w.heap.size + 1) w4.heap.size (Sp.lfo nx N.length) w5 ∧ Below w.heap.size w w5 ∧ w5.heap[w.heap.size]? = some (.cells #[.pointer (some ⟨gb, 0, none⟩)] 27 (0, 0)) ∧ w.heap.size + 1 < w4.heap.size ∧ w4.heap.size ≤ w5.heap.size) := ⟨q1, q2, q3, HZ4.out, q4⟩
      clear q1 q2 q3 q4 HA HZ4 H3 k0
      obtain ⟨W6, hW6⟩ : ∃ W6, w5.alloc (.cells #[.slice none 0 0] 60) = W6 := ⟨_, rfl⟩
      have hb6 : Below w5.heap.size w5 W6 := by rw [← hW6]; exact (Below.refl _ _).alloc (Nat.le_refl _) _
      have hz6 : W6.heap.size = w5.heap.size + 1 := by rw [← hW6]; exact al_size _ _
      have h66 : W6.heap[w5.heap.size]? = some (.cells #[.slice none 0 0] 60 (0, 0)) := by rw [← hW6]; exact heap_alloc_new _ _
      have h60 : W6.heap[w.heap.size]? = some (.cells #[.pointer (some ⟨gb, 0, none⟩)] 27 (0, 0)) := (hb6.block _ (by have := H5.out.2.2.2; omega)).trans H5.out.2.2.1
      have k6 : W6.cell? ⟨w.heap.size, 0, none⟩ = some (.pointer (some ⟨gb, 0, none⟩)) := by simp [World.cell?, h60]
      have hbw6 : Below w.heap.size w W6 := belT H5.out.2.1 hb6
      have HTU : Hid (Calls Tryz.prog 16 #[.pointer (some ⟨gb, 0, none⟩)] W6 (TuE W6 N (Sp.bkn nx N.length))) := pTurned_any gb N nx W6 ⟨⟨gn, cn, lo, xb, bl, cp, (HGR.out W6 hbw6).1⟩, mb, (HGR.out W6 hbw6).2⟩ HB.out.1 hn HB.out.2.1 HB.out.2.2
      have H6 : Hid (Below w.heap.size w W6 ∧ Below w5.heap.size w5 W6 ∧ W6.heap.size = w5.heap.size + 1 ∧ W6.heap[w5.heap.size]? = some (.cells #[.slice none 0 0] 60 (0, 0)) ∧ W6.heap[w.heap.size]? = some (.cells #[.pointer (some ⟨gb, 0, none⟩)] 27 (0, 0))) := ⟨hbw6, hb6, hz6, h66, h60⟩
      clear hbw6 hb6 hz6 h66 h60
      gi_wp2_with fail
      refine ⟨trivial, (callsIn_wide.2 HTU.out).mono ?_⟩
      rintro e w7 ⟨tb, rfl, hT, hb7⟩
      dsimp only
      obtain ⟨gnT, cnT, loT, xT, bT, cT, hGT, -, htb, hxT, hbT⟩ := hT
      have HWT := walk_newG tb xT N.length gnT cnT 55 57 #[] #[.pointer (some ⟨w5.heap.size, 0, none⟩)] w7 hGT.c0 hGT.c2 hGT.lt hn
      have HWD : Hid (Calls Tryz.prog 42 #[.pointer (some ⟨tb, 0, none⟩), .func (.func 55) #[] #[], .func (.func 57) #[] #[.pointer (some ⟨w5.heap.size, 0, none⟩)]] w7 fun e w' => ∃ eb, e = .returned (.agg (wsC xT eb N.length 55 57 #[] #[.pointer (some ⟨w5.heap.size, 0, none⟩)])) ∧ w7.heap.size ≤ eb ∧ OwnR w' 4 eb N.length N.length (bv (List.replicate N.length false)) ∧ Below w7.heap.size w7 w') := HWT
      have H7 : Hid (Below W6.heap.size W6 w7 ∧ GR w7 tb N (Sp.bkn nx N.length) gnT cnT loT xT bT cT ∧ W6.heap.size ≤ xT ∧ ∀ t g, t < N.length → bT t = some g → W6.heap.size ≤ g) := ⟨hb7, hGT, hxT, hbT⟩
      clear HWT hb7 hGT htb hxT hbT HTU k6
      gi_wp2_with fail
      refine ⟨trivial, (callsIn_wide.2 HWD.out).mono ?_⟩
      rintro e w8 ⟨eT, rfl, hle, hE, hb8⟩
      dsimp only
      have H8 : Hid (Below w7.heap.size w7 w8 ∧ w7.heap.size ≤ eT ∧ OwnR w8 4 eT N.length N.length (bv (List.replicate N.length false))) := ⟨hb8, hle, hE⟩
      clear hle hE hb8 HWD
      obtain ⟨gl, cl, hbx, hnl, hgl, hBl⟩ := H5.out.1
      obtain ⟨W9, hW9⟩ : ∃ W9, (w8.alloc (.cells (wsC xT eT N.length 55 57 #[] #[.pointer (some ⟨w5.heap.size, 0, none⟩)]) 83)).alloc (.cells #[.slice none 0 0] 40) = W9 := ⟨_, rfl⟩
      have hb9 : Below w8.heap.size w8 W9 := by rw [← hW9]; exact ((Below.refl _ _).alloc (Nat.le_refl _) _).alloc (by rw [al_size]; omega) _
      have hz9 : W9.heap.size = w8.heap.size + 1 + 1 := by rw [← hW9, al_size, al_size]
      have hs8 := H8.out.1.size
      have hs7 := H7.out.1.size
      have hs6 := H6.out.2.2.1
      have hs5 := H5.out.2.2.2
      have h89 : W9.heap[w8.heap.size]? = some (.cells (wsC xT eT N.length 55 57 #[] #[.pointer (some ⟨w5.heap.size, 0, none⟩)]) 83 (0, 0)) := by rw [← hW9]; exact (Below.heap_alloc _ _ _ (by rw [al_size]; omega)).trans (heap_alloc_new w8 _)
      have h99 : W9.heap[w8.heap.size + 1]? = some (.cells #[.slice none 0 0] 40 (0, 0)) := by
        rw [← hW9]; have := heap_alloc_new (w8.alloc (.cells (wsC xT eT N.length 55 57 #[] #[.pointer (some ⟨w5.heap.size, 0, none⟩)]) 83)) (.cells #[.slice none 0 0] 40 (0, 0)); rwa [al_size] at this
      have up5 : ∀ k, k < w5.heap.size → W9.heap[k]? = w5.heap[k]? := fun k hk => (hb9.block k (by omega)).trans ((H8.out.1.block k (by omega)).trans ((H7.out.1.block k (by omega)).trans (H6.out.2.1.block k hk)))
      have up6 : ∀ k, k < W6.heap.size → W9.heap[k]? = W6.heap[k]? := fun k hk => (hb9.block k (by omega)).trans ((H8.out.1.block k (by omega)).trans (H7.out.1.block k hk))
      have hbw9 : Below w.heap.size w W9 := belT (belT (belT H6.out.1 H7.out.1) H8.out.1) hb9
      have hBx9 : W9.heap[w.heap.size + 1]? = some (.cells #[.slice (adr gl) (Sp.lfo nx N.length).length cl] 60 (0, 0)) := (up5 _ (by omega)).trans hbx
      have k9 : W9.cell? ⟨w.heap.size + 1, 0, none⟩ = some (.slice (adr gl) (Sp.lfo nx N.length).length cl) := by simp [World.cell?, hBx9]
      have HNL : Hid (NdI W9 gl cl ((Sp.lfo nx N.length).map fun j : Nat => (j : Int)) ∧ ∀ g, gl = some g → w4.heap.size ≤ g ∧ g < w5.heap.size) := ⟨hnl.keep (fun g hg => up5 g (hnl.2 g hg).lt), fun g hg => ⟨hgl g hg, (hnl.2 g hg).lt⟩⟩
      have hx9 := H7.out.2.1.nxt
      have hxl := hx9.lt
      have HP9 : Hid (PtI w N.length gb w5.heap.size w8.heap.size (w8.heap.size + 1) xT eT loT (Sp.bkn nx N.length) bT cT (List.replicate N.length false) [] none 0 W9 ∧ Below w.heap.size w W9) := by
        refine ⟨⟨(up6 _ (by omega)).trans H6.out.2.2.2.2, ⟨_, (up6 _ (by omega)).trans H6.out.2.2.2.1⟩, h89, h99, H8.out.2.2.keep (hb9.block _ H8.out.2.2.lt), ?_, ⟨fun _ => ⟨rfl, rfl⟩, (fun g hg => by cases hg), by simp⟩, ?_⟩, hbw9⟩
        · exact hx9.keep ((hb9.block _ (by omega)).trans (H8.out.1.block _ hxl.1)) (fun t g ht hg => (hb9.block g (by have := hxl.2 t g ht hg; omega)).trans (H8.out.1.block g (hxl.2 t g ht hg)))
        · have h1 := H7.out.2.2.1
          have h2 := H8.out.2.1
          have h3 := H8.out.2.2.lt
          refine ⟨by omega, by omega, by omega, by omega, by omega, by omega, by omega, by omega, by omega, fun t g ht hg => ?_, fun g hg => by cases hg⟩
          have := H7.out.2.2.2 t g ht hg
          have := hxl.2 t g ht hg
          exact ⟨by omega, by omega, by omega⟩
      have HS9 : Hid (w.heap.size + 1 < w4.heap.size ∧ w4.heap.size ≤ w5.heap.size ∧ w5.heap.size + 1 ≤ w8.heap.size ∧ W9.heap.size = w8.heap.size + 1 + 1) := ⟨hs5.1, hs5.2, by omega, hz9⟩
      clear hbx hnl hgl hBl hb9 hz9 hs8 hs7 hs6 hs5 h89 h99 up5 up6 hbw9 hBx9 hx9 hxl H8 H7 H6 H5
      simp only [wsC] at hW9 ⊢
      gi_wp2_with fail
      clear hW9
      refine ⟨trivial, (backward_in Fence.wide _ trivial rfl (adr gl) _ cl _).mono ?_⟩
      rintro e w10 ⟨rfl, hw10⟩
      dsimp only
      obtain ⟨bs, hbs, hbm⟩ := bkl_ex (L := N.length) _ (Sp.lfo nx N.length) rfl (lfo_ok HB.out.1).2
      have hbl10 : Below W9.heap.size W9 w10 := by rw [hw10]; exact (Below.refl _ _).alloc (Nat.le_refl _) _
      have hz10 : w10.heap.size = W9.heap.size + 1 := by rw [hw10]; exact al_size _ _
      have h10b : w10.heap[W9.heap.size]? = some (.cells #[.slice (adr gl) (Sp.lfo nx N.length).length cl] 60 (0, 0)) := by rw [hw10]; exact heap_alloc_new _ _
      have hll : (Sp.lfo nx N.length).length ≤ 8192 := by have := nd_len (lfo_ok HB.out.1).1 (lfo_ok HB.out.1).2; omega
      have HSQ : Hid (SeqStopsK Fence.wide 5 Tryz.prog 72 #[.pointer (some ⟨W9.heap.size, 0, none⟩)] (fun x : BP N.length => #[.int .i64 (x.1.1 : Nat), .int .i64 (x.1.2 : Nat)]) (KpB fun k => k = W9.heap.size ∨ gl = some k) (fun ys => ys = bs) (fun pre => pre <+: bs) (Sp.lfo nx N.length).length w10) :=
        back_stops Fence.wide 5 trivial rfl (by omega) W9.heap.size N.length _ gl cl (Sp.lfo nx N.length) bs hbs hll w10 (.inl rfl) (fun k hk => by
          rcases hk with rfl | hk
          · omega
          · have := HNL.out.2 k hk; have := HS9.out; omega) (by simp [World.cell?, h10b]) (HNL.out.1.keep (fun g hg => hbl10.block g (HNL.out.1.2 g hg).lt)) (fun g hg => .inr hg)
      have HD : Hid (∀ k, (k = W9.heap.size ∨ gl = some k) → k < w10.heap.size) := fun k hk => by
        rcases hk with rfl | hk
        · omega
        · have := HNL.out.2 k hk; have := HS9.out; omega
      have H10 : Hid (PtJ w N gb w5.heap.size w8.heap.size (w8.heap.size + 1) xT eT loT (Sp.bkn nx N.length) bT cT (w8.heap.size + 1 + 1 + 1) [] w10) := ⟨⟨[], none, 0, rfl, HP9.out.1.cek (fun k c e f h => hbl10.block k (Array.getElem?_eq_some_iff.1 h).1) hbl10.size⟩, belT HP9.out.2 hbl10, by have := HS9.out; omega⟩
      have HZ : Hid (w.heap.size ≤ w10.heap.size) := by have := HP9.out.2.size; show _ ≤ _; omega
      have HBM : Hid (bs.map (fun x => x.1.2) = (Sp.lfo nx N.length).reverse) := hbm
      have HGL : Hid (∀ k, (k = W9.heap.size ∨ gl = some k) → k ≠ w5.heap.size ∧ k ≠ eT ∧ k ≠ w8.heap.size + 1 ∧ k < w8.heap.size + 1 + 1 + 1 ∧ (k = W9.heap.size → w8.heap.size + 1 < k) ∧ (gl = some k → k < w5.heap.size)) := fun k hk => by
        have h1 := HS9.out
        obtain ⟨a1, a2, a3, a4, a5, a6, a7, a8, a9, a10⟩ := HP9.out.1.ord
        rcases hk with rfl | hk
        · refine ⟨by omega, by omega, by omega, by omega, fun _ => by omega, fun hk => ?_⟩
          have := HNL.out.2 _ hk; omega
        · have := HNL.out.2 k hk
          exact ⟨by omega, by omega, by omega, by omega, fun e => by omega, fun _ => by omega⟩
      clear hw10 hbl10 hz10 h10b hll hbm hbs HNL HS9 HP9
      gi_wp2_with fail
      refine' wpIn_rangeFunc_ownF rfl (by omega) (gf := 72) (lb := #[.pointer (some ⟨W9.heap.size, 0, none⟩)]) rfl trivial (enters_of Tryz.func72 (by kernel_rfl) rfl)
        HSQ.out (fun h k => KpB.trans h k) (kpB_b HD.out) (Below.refl _ _) (fun _ => rfl)
        (PtJ w N gb w5.heap.size w8.heap.size (w8.heap.size + 1) xT eT loT (Sp.bkn nx N.length) bT cT (w8.heap.size + 1 + 1 + 1))
        (fun _ _ _ => False) (ptJ_own HZ.out) (fun _ _ _ _ _ hs _ _ => hs) H10.out _ ?assign ?body ?done ?stop
      case assign =>
        intro l x W K hK
        gi_wp2
        exact hK
      case stop =>
        rintro D c pre W hD _ h _
        exact h.elim
      case done =>
        rintro D ys W hD rfl hJ hK
        obtain ⟨⟨T, gs, c, hT, hP⟩, hBe, -⟩ := hJ
        rw [HBM.out] at hT
        have k99 : W.cell? ⟨w8.heap.size + 1, 0, none⟩ = some (.slice (adr gs) T.length c) := by simp [World.cell?, hP.b9]
        have HFD : Hid (T.map (fun q : Hd => q.2.2) = (Sp.pts (Sp.bkn nx N.length) N.length (Sp.lfo nx N.length).reverse).2.map (fun p => Sp.rfs N (Sp.upn N.length p)) ∧ PtR W gs c T ∧ (∀ g, gs = some g → w.heap.size ≤ g) ∧ Below w.heap.size w W) := ⟨hT, hP.row, (fun g hg => by have := hP.ord.2.2.2.2.2.2.2.2.2.2 g hg; have := hP.ord; omega), hBe⟩
        clear hT hP hBe HSQ H10
        gi_wp2
        refine ⟨by simp, .inl ⟨_, _, rfl, run_takeDeferred hK, ?_⟩⟩
        refine ⟨_, results_tmp rfl _ _ _, T, gs, c, rfl, HFD.out.1, HFD.out.2.1.cek (fun k cc e f h => World.putObj_heap_other (fun e => by subst e; rw [hK] at h; cases h)), HFD.out.2.2.1, HFD.out.2.2.2.trans (belowK_b (w := w) (Nat.le_refl _) W D _ _ (by have := HZ.out; omega) hK rfl rfl)⟩
      case body =>
        as_aux_lemma =>
        rintro l pre ⟨⟨x0, n⟩, hnL⟩ W ⟨⟨T, gs, c, hT, hP⟩, hBe, hSz⟩ hpl
        have hnL : n < N.length := hnL
        obtain ⟨v7, h7⟩ := hP.b7
        obtain ⟨a1, a2, a3, a4, a5, a6, a7, a8, a9, a10, a11⟩ := hP.ord
        obtain ⟨E, hEE⟩ : ∃ E, (Sp.pts (Sp.bkn nx N.length) N.length (pre.map fun x : BP N.length => x.1.2)).1 = E := ⟨_, rfl⟩
        obtain ⟨PS, hPS⟩ : ∃ PS, (Sp.pts (Sp.bkn nx N.length) N.length (pre.map fun x : BP N.length => x.1.2)).2 = PS := ⟨_, rfl⟩
        rw [hEE] at hP
        rw [hPS] at hT
        have HST : Hid (Sp.pts (Sp.bkn nx N.length) N.length ((pre ++ [(⟨(x0, n), hnL⟩ : BP N.length)]).map fun x : BP N.length => x.1.2) = ((wAll (wOne Sp.lf (Sp.bkn nx N.length) N.length) [n] (E, [])).2.1, if (wAll (wOne Sp.lf (Sp.bkn nx N.length) N.length) [n] (E, [])).2.2 = [] then PS else PS ++ [(wAll (wOne Sp.lf (Sp.bkn nx N.length) N.length) [n] (E, [])).2.2])) := by
          show _ = _
          rw [List.map_append, List.map_singleton, pts_snoc, Sp.pst, hEE, hPS]
        have hEl : E.length = N.length := by simpa using hP.ent.len
        have hLF := lf_next (bk := Sp.bkn nx N.length) (L := N.length) (fun i y hy => (bkn_mem.1 hy).1) hEl hnL
        have k7 : W.cell? ⟨w5.heap.size, 0, none⟩ = some v7 := by simp [World.cell?, h7]
        have f7 : W.frozen? ⟨w5.heap.size, 0, none⟩ = false := by simp [World.frozen?, h7]
        obtain ⟨W1, hW1⟩ : ∃ W1, W.setCell ⟨w5.heap.size, 0, none⟩ (.slice none 0 0) = W1 := ⟨_, rfl⟩
        have e1 : ∀ k, k ≠ w5.heap.size → W1.heap[k]? = W.heap[k]? := fun k hk => by rw [← hW1]; exact Below.heap_setCell W _ _ k hk
        have z1 : W1.heap.size = W.heap.size := by rw [← hW1]; simp [World.setCell]
        have h71 : W1.heap[w5.heap.size]? = some (.cells #[.slice none 0 0] 60 (0, 0)) := by
          rw [← hW1, Sort.setCell_eq]; show (W.heap.modify _ _)[w5.heap.size]? = _
          rw [Array.getElem?_modify, if_pos rfl, h7]; simp; rfl
        have h81 := (e1 w8.heap.size (by omega)).trans hP.b8
        have k80 : W1.cell? ⟨w8.heap.size, 0, none⟩ = some (.slice (some ⟨xT, 0, none⟩) N.length N.length) := by simp [World.cell?, h81, wsC]
        have k81 : W1.cell? ⟨w8.heap.size, 1, none⟩ = some (.slice (some ⟨eT, 0, none⟩) N.length N.length) := by simp [World.cell?, h81, wsC]
        have k82 : W1.cell? ⟨w8.heap.size, 2, none⟩ = some (.func (.func 55) #[] #[]) := by simp [World.cell?, h81, wsC]
        have k83 : W1.cell? ⟨w8.heap.size, 3, none⟩ = some (.func (.func 57) #[] #[.pointer (some ⟨w5.heap.size, 0, none⟩)]) := by simp [World.cell?, h81, wsC]
        obtain ⟨W2, hW2⟩ : ∃ W2, W1.alloc (.cells #[.int .i64 (n : Nat)] 3) = W2 := ⟨_, rfl⟩
        have e2 : ∀ k, k < W.heap.size → W2.heap[k]? = W1.heap[k]? := fun k hk => by rw [← hW2]; exact Below.heap_alloc W1 _ k (by omega)
        have z2 : W2.heap.size = W.heap.size + 1 := by rw [← hW2, al_size, z1]
        have h2n : W2.heap[W.heap.size]? = some (.cells #[.int .i64 (n : Nat)] 3 (0, 0)) := by rw [← hW2, ← z1]; exact heap_alloc_new W1 _
        have hxl := hP.nxt.lt
        have hA := lf_walk 57 left3_any (fun _ _ => rfl) N.length eT w5.heap.size xT loT (Sp.bkn nx N.length) bT cT W2 E [n] (some W.heap.size) 1
          (hP.ent.keep ((e2 eT (by omega)).trans (e1 eT (by omega)))) ((e2 _ (by omega)).trans h71)
          (hP.nxt.keep ((e2 xT (by omega)).trans (e1 xT (by omega))) (fun t g ht hg => by have := a10 t g ht hg; exact (e2 g (by omega)).trans (e1 g (by omega))))
          (by omega) (by omega) a6 (fun t g ht hg => by have := a10 t g ht hg; exact ⟨by omega, this.2.1⟩) (fun g hg => by injection hg with hg; subst hg; exact ⟨by omega, by omega⟩)
          (by simpa using hnL) ⟨(fun e => by cases e), fun g hg => by injection hg with hg; subst hg; exact ⟨rfl, _, h2n, Nat.le_refl _, by simp [maxLen], rfl, rfl⟩⟩ (by simp) (fun i y hy => (bkn_mem.1 hy).1) (fun t => Nat.le_trans (bkn_len nx N.length t) hn) hn
        generalize wAll (wOne Sp.lf (Sp.bkn nx N.length) N.length) [n] (E, []) = r at hA HST hLF
        have HA : Hid (Calls Tryz.prog 46 #[.agg #[.slice (some ⟨xT, 0, none⟩) N.length N.length, .slice (some ⟨eT, 0, none⟩) N.length N.length, .func (.func 55) #[] #[], .func (.func 57) #[] #[.pointer (some ⟨w5.heap.size, 0, none⟩)]], .slice (some ⟨W.heap.size, 0, none⟩) 1 1] W2 fun e W' => e = .returned (.bool true) ∧ LfI w5.heap.size W2.heap.size r.2.2 W' ∧ OwnR W' 4 eT N.length N.length (bv r.2.1) ∧ KwO (fun k o => Sp.lfM w5.heap.size W2.heap.size k o ∨ k = eT) W2 W') := hA
        have HP : Hid (PtI w N.length gb w5.heap.size w8.heap.size (w8.heap.size + 1) xT eT loT (Sp.bkn nx N.length) bT cT E T gs c W ∧ Below w.heap.size w W ∧ w8.heap.size + 1 + 1 + 1 ≤ W.heap.size ∧ T.map (fun q : Hd => q.2.2) = PS.map (fun p => Sp.rfs N (Sp.upn N.length p))) := ⟨hP, hBe, hSz, hT⟩
        have HW2 : Hid ((∀ k, k < W.heap.size → k ≠ w5.heap.size → W2.heap[k]? = W.heap[k]?) ∧ W2.heap.size = W.heap.size + 1 ∧ W2.os = W.os ∧ W2.tape = W.tape ∧ W2.output = W.output ∧ W.heap[w5.heap.size]? = some (.cells #[v7] 60 (0, 0))) := ⟨fun k h1 h2 => (e2 k h1).trans (e1 k h2), z2, by rw [← hW2, ← hW1]; rfl, by rw [← hW2, ← hW1]; rfl, by rw [← hW2, ← hW1]; rfl, h7⟩
        have hll8 : (Sp.lfo nx N.length).length ≤ 8192 := by have := nd_len (lfo_ok HB.out.1).1 (lfo_ok HB.out.1).2; omega
        have HLF : Hid (LfP N.length E [] r) := hLF
        have HTL : Hid (PS.length ≤ 8192) := by
          have h1 := (pts_ok (bk := Sp.bkn nx N.length) (L := N.length) (fun i y hy => (bkn_mem.1 hy).1) _ (pre.map fun x : BP N.length => x.1.2) rfl (fun y hy => by obtain ⟨z, _, rfl⟩ := List.mem_map.1 hy; exact z.2)).2.1
          rw [hPS, List.length_map] at h1
          show _ ≤ _; omega
        clear hpl hll8 hLF hA hP hBe hSz hT h7 e1 h71 h81 e2 h2n hxl a10 a11 HSQ H10 hEE hPS
        gi_wp2_with fail
        refine ⟨trivial, (callsIn_wide.2 HA.out).mono ?_⟩
        rintro e W3 ⟨rfl, ⟨g3, c3, hb3, hn3, hg3, -⟩, hE3, hK3⟩
        dsimp only
        have hz2 := HW2.out.2.1
        have old3 : ∀ k, k < W.heap.size → k ≠ w5.heap.size → k ≠ eT → W3.heap[k]? = W.heap[k]? := fun k h1 h2 h3 => (hK3.block k (by omega) (by
          rintro (h | h)
          · rcases h with h | ⟨h, _⟩
            · exact h2 h
            · omega
          · exact h3 h)).trans (HW2.out.1 k h1 h2)
        obtain ⟨b1, b2, b3, b4, b5, b6, b7, b8, b9, b10, b11⟩ := HP.out.1.ord
        have hbe3 : Below w.heap.size w W3 := by
          have h := HP.out.2.1
          exact ⟨(hK3.os.trans HW2.out.2.2.1).trans h.os, (hK3.tape.trans HW2.out.2.2.2.1).trans h.tape, (hK3.output.trans HW2.out.2.2.2.2.1).trans h.output, by have := hK3.size; have := h.size; omega, fun k hk => (old3 k (by have := h.size; omega) (by omega) (by omega)).trans (h.block k hk)⟩
        have hz3 : W.heap.size < W3.heap.size := by have := hK3.size; omega
        have hkt3 : ∀ (k : Nat) (cc : Array Value) (e : TypeId), W.heap[k]? = some (.cells cc e (0, 0)) → (e = 22 ∨ e = 25) → W3.heap[k]? = W.heap[k]? := fun k cc e h he => by
          have hkl := (Array.getElem?_eq_some_iff.1 h).1
          refine old3 k hkl (fun ek => ?_) (fun ek => ?_)
          · subst ek
            rw [HW2.out.2.2.2.2.2] at h; injection h with h; injection h with _ h
            subst h; rcases he with he | he <;> exact absurd he (by decide)
          · subst ek
            obtain ⟨cur, h1, _⟩ := HP.out.1.ent.blk
            rw [h1] at h; injection h with h; injection h with _ h
            subst h; rcases he with he | he <;> exact absurd he (by decide)
        have hko3 : KeepsOthers W W3 := ⟨Nat.le_of_lt hz3, fun k o hk hc => (old3 k (Array.getElem?_eq_some_iff.1 hk).1 (fun ek => by
            subst ek; rw [HW2.out.2.2.2.2.2] at hk; injection hk with hk; subst hk; cases hc) (fun ek => by
            subst ek; obtain ⟨cur, h1, _⟩ := HP.out.1.ent.blk; rw [h1] at hk; injection hk with hk; subst hk; cases hc)).trans hk⟩
        have hkp3 : KpB (fun k => k = W9.heap.size ∨ gl = some k) W W3 := fun k hk => by
          have h := HGL.out k hk
          exact old3 k (by have := HP.out.2.2.1; omega) h.1 h.2.1
        have hP3 : PtI w N.length gb w5.heap.size w8.heap.size (w8.heap.size + 1) xT eT loT (Sp.bkn nx N.length) bT cT r.2.1 T gs c W3 := by
          have hp := HP.out.1
          have hxl := hp.nxt.lt
          refine ⟨(old3 _ (by omega) (by omega) (by omega)).trans hp.bG, ⟨_, hb3⟩, (old3 _ (by omega) (by omega) (by omega)).trans hp.b8, (old3 _ (by omega) (by omega) (by omega)).trans hp.b9, hE3, ?_, hp.row.keep hkt3, ⟨b1, b2, b3, b4, b5, b6, b7, b8, by omega, b10, b11⟩⟩
          exact hp.nxt.keep (old3 xT (by omega) (by omega) b6) (fun t g ht hg => by have := b10 t g ht hg; exact old3 g (by omega) (by omega) this.2.1)
        have HP3 : Hid (PtI w N.length gb w5.heap.size w8.heap.size (w8.heap.size + 1) xT eT loT (Sp.bkn nx N.length) bT cT r.2.1 T gs c W3 ∧ Below w.heap.size w W3 ∧ W.heap.size < W3.heap.size ∧ KeepsOthers W W3 ∧ KpB (fun k => k = W9.heap.size ∨ gl = some k) W W3) := ⟨hP3, hbe3, hz3, hko3, hkp3⟩
        have HN3 : Hid (NdI W3 g3 c3 (r.2.2.map fun j : Nat => (j : Int))) := hn3
        have k73 : W3.cell? ⟨w5.heap.size, 0, none⟩ = some (.slice (adr g3) r.2.2.length c3) := by simp [World.cell?, hb3]
        have k93 : W3.cell? ⟨w8.heap.size + 1, 0, none⟩ = some (.slice (adr gs) T.length c) := by simp [World.cell?, hP3.b9]
        have k03 : W3.cell? ⟨w.heap.size, 0, none⟩ = some (.pointer (some ⟨gb, 0, none⟩)) := by simp [World.cell?, hP3.bG]
        clear hb3 hn3 hg3 hE3 hK3 old3 hbe3 hz3 hkt3 hko3 hkp3 hP3 HA hz2 k7 f7 k80 k81 k82 k83 hW1 hW2 z1 z2 hEl
        by_cases hs : r.2.2 = []
        · have hs0 : ¬ (0 : Int) < (r.2.2.length : Int) := by rw [hs]; simp
          have HJ : Hid (PtJ w N gb w5.heap.size w8.heap.size (w8.heap.size + 1) xT eT loT (Sp.bkn nx N.length) bT cT (w8.heap.size + 1 + 1 + 1) (pre ++ [⟨(x0, n), hnL⟩]) W3) := by
            refine ⟨⟨T, gs, c, ?_, ?_⟩, HP3.out.2.1, by have := HP.out.2.2.1; have := HP3.out.2.2.1; omega⟩
            · rw [HST.out, if_pos hs]; exact HP.out.2.2.2
            · rw [HST.out]; exact HP3.out.1
          clear hs
          gi_wp2_with fail
          exact ⟨HP3.out.2.2.2.1, HP3.out.2.2.2.2, HJ.out⟩
        · have hs0 : (0 : Int) < (r.2.2.length : Int) := by have := List.length_pos_iff.2 hs; omega
          have hok : r.2.2.Nodup ∧ ∀ y ∈ r.2.2, y < N.length := by
            obtain ⟨t, e, nd, q⟩ := HLF.out.row
            rw [List.nil_append] at e
            rw [e]; exact ⟨nd, fun y hy => (q y hy).1⟩
          have HRS : Hid (Calls Tryz.prog 29 #[.pointer (some ⟨gb, 0, none⟩), .slice (adr g3) r.2.2.length c3] W3.drew (RfE W3.drew (Sp.rfs N (Sp.upn N.length r.2.2)))) := by
            have hgr := (HGR.out W3.drew HP3.out.2.1.drew).1
            exact rising_any gb N nx gn cn lo xb bl cp g3 c3 r.2.2 W3.drew hgr (HN3.out.keep (fun _ _ => rfl)) hok.1 hok.2 (by have := nd_len hok.1 hok.2; omega)
          gi_wp2_with fail
          refine region_round_mark (fun X => X.cell? ⟨w8.heap.size + 1, 0, none⟩ = some (.slice (adr gs) T.length c) ∧ X.cell? ⟨w.heap.size, 0, none⟩ = some (.pointer (some ⟨gb, 0, none⟩)) ∧ X.cell? ⟨w5.heap.size, 0, none⟩ = some (.slice (adr g3) r.2.2.length c3)) 6 (by kernel_rfl) (by kernel_rfl) ?_
          have hHeld : W3.drew.cell? ⟨w8.heap.size + 1, 0, none⟩ = some (.slice (adr gs) T.length c) ∧ W3.drew.cell? ⟨w.heap.size, 0, none⟩ = some (.pointer (some ⟨gb, 0, none⟩)) ∧ W3.drew.cell? ⟨w5.heap.size, 0, none⟩ = some (.slice (adr g3) r.2.2.length c3) := ⟨k93, k03, k73⟩
          refine tkM (i := 0) (v := ?_) [] rfl (by kernel_rfl) (by rfl) ?_ (by assumption) ?_ (fun _ _ _ h => h)
          rotate_left
          · intro W hSw; (try dsimp only at hSw); go_simp; try (with_reducible rfl)
          simp only [Act.put, lsA, lsB, lsC]
          refine tkM (i := 1) (v := ?_) [] rfl (by kernel_rfl) (by rfl) ?_ (by assumption) ?_ (fun _ _ _ h => h)
          rotate_left
          · intro W hSw; (try dsimp only at hSw); go_simp; try (with_reducible rfl)
          simp only [Act.put, lsA, lsB, lsC]
          refine tkM (i := 2) (v := ?_) [] rfl (by kernel_rfl) (by rfl) ?_ (by assumption) ?_ (fun _ _ _ h => h)
          rotate_left
          · intro W hSw; (try dsimp only at hSw); go_simp; try (with_reducible rfl)
          simp only [Act.put, lsA, lsB, lsC]
          refine tkO (i := 3) (by kernel_rfl) rfl (fun K hK => ?_)
          go_simp
          refine HRS.out.mono ?_
          rintro e W4 ⟨gs4, c4, rfl, q1, q2, q3⟩
          have hb4 : Below W3.heap.size W3 W4 := ⟨q3.os, q3.tape, q3.output, q3.size, q3.block⟩
          have HB4 : Hid (Below W3.heap.size W3 W4) := hb4
          obtain ⟨RS, hRS⟩ : ∃ RS, Sp.rfs N (Sp.upn N.length r.2.2) = RS := ⟨_, rfl⟩
          rw [hRS] at q1 ⊢
          have hp4 : PtI w N.length gb w5.heap.size w8.heap.size (w8.heap.size + 1) xT eT loT (Sp.bkn nx N.length) bT cT r.2.1 T gs c W4 := HP3.out.1.cek (fun k cc e f h => hb4.block k (Array.getElem?_eq_some_iff.1 h).1) hb4.size
          have HP4 : Hid (PtI w N.length gb w5.heap.size w8.heap.size (w8.heap.size + 1) xT eT loT (Sp.bkn nx N.length) bT cT r.2.1 T gs c W4) := hp4
          have hTl : T.length ≤ 8192 := by
            have h1 := congrArg List.length HP.out.2.2.2
            rw [List.length_map, List.length_map] at h1
            have h2 := HTL.out
            omega
          obtain ⟨g', c', w6, hap, hpt, hgr, hor⟩ := appP gs c T W4 hp4.row (gs4, c4, RS) q1 hTl 40
          dsimp only at hap hgr
          have m99 : W4.cell? ⟨w8.heap.size + 1, 0, none⟩ = some (.slice (adr gs) T.length c) := by simp [World.cell?, hp4.b9]
          have m90 : W4.cell? ⟨w.heap.size, 0, none⟩ = some (.pointer (some ⟨gb, 0, none⟩)) := by simp [World.cell?, hp4.bG]
          obtain ⟨v4, h47⟩ := hp4.b7
          have m97 : W4.cell? ⟨w5.heap.size, 0, none⟩ = some (.slice (adr g3) r.2.2.length c3) := by rw [World.cell?_of_block (w := W3) (hb4.block w5.heap.size (by have := HP3.out.1.ord; omega))]; exact k73
          have a99 : ∀ o, (W4.alloc o).cell? ⟨w8.heap.size + 1, 0, none⟩ = some (.slice (adr gs) T.length c) := fun o => by rw [World.cell?_alloc_some _ _ _ (by rw [m99]; rfl)]; exact m99
          have a90 : ∀ o, (W4.alloc o).cell? ⟨w.heap.size, 0, none⟩ = some (.pointer (some ⟨gb, 0, none⟩)) := fun o => by rw [World.cell?_alloc_some _ _ _ (by rw [m90]; rfl)]; exact m90
          have a97 : ∀ o, (W4.alloc o).cell? ⟨w5.heap.size, 0, none⟩ = some (.slice (adr g3) r.2.2.length c3) := fun o => by rw [World.cell?_alloc_some _ _ _ (by rw [m97]; rfl)]; exact m97
          obtain ⟨d1, d2, d3, d4, d5, d6, d7, d8, d9, d10, d11⟩ := hp4.ord
          have old6 : ∀ k, k < W4.heap.size → gs ≠ some k → w6.heap[k]? = W4.heap[k]? := fun k h1 h2 => (hgr.block k (by rw [al_size]; omega) (fun e => h2 e.symm)).trans (Below.heap_alloc W4 _ k h1)
          have lgs : ∀ k, k ≤ w8.heap.size + 1 + 1 → gs ≠ some k := fun k hk e => by have := d11 k e; omega
          have h69 : w6.heap[w8.heap.size + 1]? = some (.cells #[.slice (adr gs) T.length c] 40 (0, 0)) := (old6 _ d9 (lgs _ (by omega))).trans hp4.b9
          have n99 : w6.cell? ⟨w8.heap.size + 1, 0, none⟩ = some (.slice (adr gs) T.length c) := by simp [World.cell?, h69]
          have f99 : w6.frozen? ⟨w8.heap.size + 1, 0, none⟩ = false := by simp [World.frozen?, h69]
          have n90 : w6.cell? ⟨w.heap.size, 0, none⟩ = some (.pointer (some ⟨gb, 0, none⟩)) := by rw [World.cell?_of_block (w := W4) (old6 w.heap.size (by omega) (lgs _ (by omega)))]; exact m90
          have n97 : w6.cell? ⟨w5.heap.size, 0, none⟩ = some (.slice (adr g3) r.2.2.length c3) := by rw [World.cell?_of_block (w := W4) (old6 w5.heap.size (by omega) (lgs _ (by omega)))]; exact m97
          have HF : Hid (KeepsOthers W (w6.setCell ⟨w8.heap.size + 1, 0, none⟩ (.slice (some ⟨g', 0, none⟩) (T.length + 1) c')) ∧ KpB (fun k => k = W9.heap.size ∨ gl = some k) W (w6.setCell ⟨w8.heap.size + 1, 0, none⟩ (.slice (some ⟨g', 0, none⟩) (T.length + 1) c')) ∧ PtJ w N gb w5.heap.size w8.heap.size (w8.heap.size + 1) xT eT loT (Sp.bkn nx N.length) bT cT (w8.heap.size + 1 + 1 + 1) (pre ++ [⟨(x0, n), hnL⟩]) (w6.setCell ⟨w8.heap.size + 1, 0, none⟩ (.slice (some ⟨g', 0, none⟩) (T.length + 1) c'))) := by
            have hzs : (w6.setCell ⟨w8.heap.size + 1, 0, none⟩ (.slice (some ⟨g', 0, none⟩) (T.length + 1) c')).heap.size = w6.heap.size := by simp [World.setCell]
            have hz6 : W4.heap.size ≤ w6.heap.size := by have := hgr.size; rw [al_size] at this; omega
            have e6 : ∀ k, k ≠ w8.heap.size + 1 → (w6.setCell ⟨w8.heap.size + 1, 0, none⟩ (.slice (some ⟨g', 0, none⟩) (T.length + 1) c')).heap[k]? = w6.heap[k]? := fun k hk => Below.heap_setCell w6 _ _ k hk
            have lo6 : ∀ k, k < W4.heap.size → k ≤ w8.heap.size + 1 + 1 → k ≠ w8.heap.size + 1 → (w6.setCell ⟨w8.heap.size + 1, 0, none⟩ (.slice (some ⟨g', 0, none⟩) (T.length + 1) c')).heap[k]? = W4.heap[k]? := fun k h1 h2 h3 => (e6 k h3).trans (old6 k h1 (lgs k h2))
            have hz34 := hb4.size
            have hWz := HP3.out.2.2.1
            have hSz := HP.out.2.2.1
            refine ⟨⟨by rw [hzs]; omega, fun k o hk hc => ?_⟩, fun k hk => ?_, ⟨T ++ [(gs4, c4, RS)], some g', c', ?_, ?_⟩, ?_, by rw [hzs]; omega⟩
            · have h1 := HP3.out.2.2.2.1.same k o hk hc
              have hkl := (Array.getElem?_eq_some_iff.1 h1).1
              have h2 := (hb4.block k hkl).trans h1
              refine (e6 k (fun ek => ?_)).trans ((old6 k (by omega) (fun ek => ?_)).trans h2)
              · subst ek; rw [hp4.b9] at h2; injection h2 with h2; subst h2; cases hc
              · obtain ⟨cur, h5, _⟩ := (hp4.row.own k ek).blk
                rw [h5] at h2; injection h2 with h2; subst h2; cases hc
            · have h1 := HGL.out k hk
              exact (lo6 k (by omega) (by omega) h1.2.2.1).trans ((hb4.block k (by omega)).trans (HP3.out.2.2.2.2 k hk))
            · rw [HST.out, if_neg hs, List.map_append, List.map_append, HP.out.2.2.2, List.map_singleton, List.map_singleton, hRS]
            · rw [HST.out]
              have hxl := hp4.nxt.lt
              refine ⟨(lo6 _ (by omega) (by omega) (by omega)).trans hp4.bG, ⟨v4, (lo6 _ (by omega) (by omega) (by omega)).trans h47⟩, (lo6 _ (by omega) (by omega) (by omega)).trans hp4.b8, ?_, hp4.ent.keep (lo6 eT (by omega) (by omega) (by omega)), ?_, ?_, ⟨d1, d2, d3, d4, d5, d6, d7, d8, by omega, d10, fun g hg => ?_⟩⟩
              · rw [Sort.setCell_eq]; show (w6.heap.modify _ _)[w8.heap.size + 1]? = _
                rw [Array.getElem?_modify, if_pos rfl, h69]; simp [adr]; rfl
              · exact hp4.nxt.keep (lo6 xT (by omega) (by omega) (by omega)) (fun t g ht hg => by have := d10 t g ht hg; exact lo6 g (by omega) (by omega) (by omega))
              · refine hpt.keep fun k cc e h he => e6 k (fun ek => ?_)
                subst ek; rw [h69] at h; injection h with h; injection h with _ h
                subst h; rcases he with he | he <;> exact absurd he (by decide)
              · injection hg with hg; subst hg
                rcases hor with h1 | h1
                · exact d11 _ h1
                · omega
            · have hbw4 := belT HP3.out.2.1 hb4
              have := hbw4.size
              refine ⟨hgr.os.trans hbw4.os, hgr.tape.trans hbw4.tape, hgr.output.trans hbw4.output, by rw [hzs]; omega, fun k hk => (lo6 k (by omega) (by omega) (by omega)).trans (hbw4.block k hk)⟩
          clear q1 q2 q3 hb4 hp4 hpt hgr hor h47 old6 lgs h69 HB4 HP4 hRS hHeld k73 k93 k03 d10 d11
          go_wp2_with fail
          refine hK.out _ _ (.inr ⟨m99, m90, m97⟩) ?_
          clear hK K
          refine tkO (i := 4) (by kernel_rfl) rfl (fun K hK => ?_)
          go_simp
          refine hK.out _ _ (.inr ⟨a99 _, a90 _, a97 _⟩) ?_
          clear hK K
          refine tkO (i := 5) (by kernel_rfl) rfl (fun K hK => ?_)
          refine step_ran (by rfl) _ _ 40 40 (by rfl) _ _ _ (by rfl) (by rfl) hap ?_
          refine hK.out _ _ (.inr ⟨n99, n90, n97⟩) ?_
          clear hK K
          refine tkO (i := 6) (by kernel_rfl) rfl (fun K hK => ?_)
          go_simp
          refine hK.out _ _ (.inl (by kernel_rfl)) ?_
          clear hK K
          refine wpAnyM_done (by kernel_rfl) ?_ _
          refine Tame.normal ?_
          gi_wp2_with fail
          exact HF.out
end Go.Proofs.YtikhpbidbcfedaaGreat

