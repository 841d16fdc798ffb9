/- graph.keeper. -/
import Derived.Test.YtikhpbidbcfedaaGreatKp33
import Derived.Test.YtikhpbidbcfedaaGreatKp18
namespace Go.Proofs.YtikhpbidbcfedaaGreat
open Go.RowKit Go.ChangeMaps

theorem onl_len (L : Nat) (on : Nat → Int) : (Sp.onl L on).length = L := by simp [Sp.onl]
theorem onw_take {W : List Nat} (hd : W.Nodup) {i n : Nat} (hn : W[i]? = some n) (x : Nat) : Sp.onw (W.take (i + 1)) x = if x = n then (i : Int) else Sp.onw (W.take i) x := by
  have hi := (List.getElem?_eq_some_iff.1 hn).1
  have hd1 : (W.take (i + 1)).Nodup := hd.sublist (List.take_sublist _ _)
  have hd0 : (W.take i).Nodup := hd.sublist (List.take_sublist _ _)
  have h1 := onw_is hd1
  have h0 := onw_is hd0
  by_cases e : x = n
  · subst e; rw [if_pos rfl]
    exact h1.at_ i x (by rw [List.getElem?_take, if_pos (by omega)]; exact hn)
  · rw [if_neg e]
    by_cases hx : x ∈ W.take i
    · obtain ⟨j, hj, ej⟩ := List.mem_iff_getElem.1 hx
      have hj' : j < i := by rw [List.length_take] at hj; omega
      have hq : (W.take i)[j]? = some x := by rw [List.getElem?_eq_getElem hj, ej]
      rw [h0.at_ j x hq]
      refine h1.at_ j x ?_
      rw [List.getElem?_take, if_pos (by omega)] at hq ⊢; exact hq
    · rw [h0.off x hx]
      refine h1.off x fun h => ?_
      rw [List.take_add_one, hn] at h
      rcases List.mem_append.1 h with h | h
      · exact hx h
      · simp at h; exact e h
theorem onl_put {L : Nat} {W : List Nat} (hd : W.Nodup) {i n : Nat} (hn : W[i]? = some n) : Sp.onl L (Sp.onw (W.take (i + 1))) = (Sp.onl L (Sp.onw (W.take i))).set n (i : Int) := by
  apply List.ext_getElem?
  intro t
  rw [List.getElem?_set, onl_len]
  by_cases ht : t < L
  · rw [onl_at _ ht, onl_at _ ht, onw_take hd hn]
    by_cases e : n = t
    · subst e; simp [ht]
    · rw [if_neg e, if_neg (Ne.symm e)]
  · rw [List.getElem?_eq_none (by rw [onl_len]; omega), List.getElem?_eq_none (by rw [onl_len]; omega)]
    by_cases e : n = t
    · subst e; simp [ht]
    · simp [e]
theorem onl_0 (L : Nat) (W : List Nat) : Sp.onl L (Sp.onw (W.take 0)) = List.replicate L (-1) := by
  apply List.ext_getElem?
  intro t
  by_cases ht : t < L
  · rw [onl_at _ ht]; simp [Sp.onw, ht]
  · rw [List.getElem?_eq_none (by rw [onl_len]; omega), List.getElem?_eq_none (by simp; omega)]
theorem snl_0 (L : Nat) : Sp.snl L [] = List.replicate L (-1) := by
  apply List.ext_getElem?
  intro t
  by_cases ht : t < L
  · rw [snl_at _ ht]; simp [ht]
  · rw [List.getElem?_eq_none (by rw [snl_len]; omega), List.getElem?_eq_none (by simp; omega)]
section
variable {nx : Nat → List Nat} {L : Nat} {src : List Nat} {n : Nat} {W : List Nat}
theorem WayF.domIff (h : WayF nx L src n W) {i k : Nat} (hk : W[i]? = some k) (hi : i + 1 < W.length) : Dom nx src n k ↔ ¬ Rch nx k src n := by
  refine ⟨fun h => h.2.2, fun hr => ⟨fun e => ?_, h.pre i k hk (fun j y _ _ => by omega), hr⟩⟩
  subst e; have := nd_at h.nd hk h.la; omega
theorem IsK.start : IsK nx src n W 0 (-1) := .inl ⟨rfl, fun j k hj => by omega⟩
theorem IsK.step {i k : Nat} {r : Int} (hr : IsK nx src n W i r) (hk : W[i]? = some k) : (Dom nx src n k → IsK nx src n W (i + 1) k) ∧ (¬ Dom nx src n k → IsK nx src n W (i + 1) r) := by
  refine ⟨fun hd => .inr ⟨i, k, by omega, hk, rfl, hd, fun j x h1 h2 => by omega⟩, fun hd => ?_⟩
  rcases hr with ⟨e, h1⟩ | ⟨j, q, h1, h2, h3, h4, h5⟩
  · refine .inl ⟨e, fun j q hj hq => ?_⟩
    by_cases hji : j = i
    · subst hji; rw [hk] at hq; rw [← Option.some.inj hq]; exact hd
    · exact h1 j q (by omega) hq
  · refine .inr ⟨j, q, by omega, h2, h3, h4, fun t x ht1 ht2 hx => ?_⟩
    by_cases hti : t = i
    · subst hti; rw [hk] at hx; rw [← Option.some.inj hx]; exact hd
    · exact h5 t x ht1 (by omega) hx
theorem srcs_step {i k : Nat} (hk : W[i]? = some k) (x : Nat) : (Sp.srcs nx W src i x ∨ x ∈ nx k) ↔ Sp.srcs nx W src (i + 1) x := by
  constructor
  · rintro ((h | ⟨s, y, h1, h2, h3⟩) | h)
    · exact .inl h
    · exact .inr ⟨s, y, by omega, h2, h3⟩
    · exact .inr ⟨i, k, by omega, hk, h⟩
  · rintro (h | ⟨s, y, h1, h2, h3⟩)
    · exact .inl (.inl h)
    · by_cases e : s = i
      · subst e; rw [hk] at h2; rw [Option.some.inj h2]; exact .inr h3
      · exact .inl (.inr ⟨s, y, by omega, h2, h3⟩)
end

set_option maxRecDepth 100000 in
set_option maxHeartbeats 8000000 in
theorem keeper_any (gb : Nat) (N : List Int) (nx : Nat → List Nat) (gn : Option Nat) (cn lo xb : Nat) (bl : Nat → Option Nat) (cp : Nat → Nat) (a : Option Addr) (cap : Nat) (src : List Nat) (gw cw n0 : Nat) (W : List Nat) (w : World) (hG : GR w gb N nx gn cn lo xb bl cp) (hs : InI w a src) (hsb : ∀ x ∈ src, x < N.length) (hW : WayF nx N.length src n0 W) (how : OwnR w 3 gw W.length cw (iv (W.map fun j : Nat => (j : Int)))) (hn : N.length ≤ 4096) (hl : src.length * 8 ≤ 140737488355328) (hb : ∀ i, ∀ x ∈ nx i, x < N.length) (hnl : ∀ p, (nx p).length ≤ 4096) :
    Calls Tryz.prog 41 #[.pointer (some ⟨gb, 0, none⟩), .slice a src.length cap, .slice (some ⟨gw, 0, none⟩) W.length cw] w fun e w' => ∃ r : Int, e = .returned (.int .i64 r) ∧ IsK nx src n0 W (W.length - 1) r ∧ Below w.heap.size w w' := by
  obtain ⟨L, hL⟩ : ∃ L, N.length = L := ⟨_, rfl⟩
  have HL : Hid (N.length = L) := hL
  have HN : Hid (∀ V : World, Below w.heap.size w V → Calls Tryz.prog 38 #[.pointer (some ⟨gb, 0, none⟩)] V fun e w' => ∃ gi, e = .returned (.slice (some ⟨gi, 0, none⟩) L L) ∧ OwnR w' 3 gi L L (iv (List.replicate L (-1))) ∧ V.heap.size ≤ gi ∧ Below V.heap.size V w') := fun V hV => by
    have := nobodies_any gb N nx gn cn lo xb bl cp V (hG.keep hV) hn
    rw [hL] at this; exact this
  have HM : Hid (∀ (fb ob qb gx go gq : Nat) (srcs : Nat → Prop) (S : List Nat) (far : Int) (a2 : Option Addr) (c2 : Nat) (nodes : List Nat) (V : World), KpI w L fb ob qb gx go gq gb (Sp.onw W) S far V → KM nx W (Sp.onw W) srcs S far (fun _ => False) → InI V a2 nodes → (∀ x ∈ nodes, x < L) → nodes.length * 8 ≤ 140737488355328 →
    Calls Tryz.prog 65 #[.slice a2 nodes.length c2, .pointer (some ⟨fb, 0, none⟩), .pointer (some ⟨ob, 0, none⟩), .pointer (some ⟨qb, 0, none⟩), .pointer (some ⟨gx, 0, none⟩)] V fun e w' => ∃ S' far', e = .returned (.tuple #[]) ∧ KpI w L fb ob qb gx go gq gb (Sp.onw W) S' far' w' ∧ KM nx W (Sp.onw W) (fun x => srcs x ∨ x ∈ nodes) S' far' (fun _ => False) ∧ V.heap.size ≤ w'.heap.size) := fun fb ob qb gx go gq srcs S far a2 c2 nodes V h1 h2 h3 h4 h5 =>
      keepIn_any w N nx gn cn lo xb bl cp L fb ob qb gx go gq gb W (Sp.onw W) (onw_is hW.nd) srcs S far a2 c2 nodes V hG hL h1 h2 h3 h4 (by omega) h5 (by rw [← hL]; exact hb) hnl
  have HG : Hid (GR w gb N nx gn cn lo xb bl cp ∧ InI w a src ∧ OwnR w 3 gw W.length cw (iv (W.map fun j : Nat => (j : Int)))) := ⟨hG, hs, how⟩
  have HB : Hid ((∀ x ∈ src, x < L) ∧ (∀ i, ∀ x ∈ nx i, x < L) ∧ ∀ p, (nx p).length ≤ 4096) := by rw [hL] at hsb hb; exact ⟨hsb, hb, hnl⟩
  have HW : Hid (WayF nx L src n0 W) := by rw [hL] at hW; exact hW
  rw [hL] at hn
  have hWL : W.length ≤ 4096 := by have := nd_len HW.out.nd HW.out.bd; omega
  have hW0 := HW.out.pos
  have hcw : W.length ≤ cw := by obtain ⟨_, _, h, _⟩ := how.blk; exact h
  clear hG hs hsb hW how hb hnl hL
  obtain ⟨W0, hW0e⟩ : ∃ W0, w.alloc (.cells #[.pointer (some ⟨gb, 0, none⟩)] 27) = W0 := ⟨_, rfl⟩
  have HW0 : Hid (W0.heap[w.heap.size]? = some (.cells #[.pointer (some ⟨gb, 0, none⟩)] 27 (0, 0)) ∧ W0.heap.size = w.heap.size + 1 ∧ Below w.heap.size w W0) := by
    show _ ∧ _ ∧ _
    rw [← hW0e]; exact ⟨heap_alloc_new w _, al_size _ _, (Below.refl _ _).alloc (Nat.le_refl _) _⟩
  have hg0 : W0.cell? ⟨w.heap.size, 0, none⟩ = some (.pointer (some ⟨gb, 0, none⟩)) := by simp [World.cell?, HW0.out.1]
  go_enter Tryz.func41, Tryz.ntmps41
  go_wp2_with fail
  refine (HN.out W0 HW0.out.2.2).mono ?_
  rintro e w1 ⟨go, rfl, ho1, hgo, hb1⟩
  obtain ⟨W2, hW2⟩ : ∃ W2, w1.alloc (.cells #[.slice (some ⟨go, 0, none⟩) L L] 60) = W2 := ⟨_, rfl⟩
  have HW2 : Hid (W2.heap[w1.heap.size]? = some (.cells #[.slice (some ⟨go, 0, none⟩) L L] 60 (0, 0)) ∧ W2.heap.size = w1.heap.size + 1 ∧ Below W0.heap.size W0 W2 ∧ OwnR W2 3 go L L (iv (Sp.onl L (Sp.onw (W.take 0)))) ∧ W0.heap.size ≤ go ∧ go < w1.heap.size ∧ W0.heap.size ≤ w1.heap.size) := by
    have hba := hb1.alloc hb1.size (.cells #[.slice (some ⟨go, 0, none⟩) L L] 60)
    show _ ∧ _ ∧ _ ∧ _ ∧ _ ∧ _ ∧ _
    rw [← hW2, onl_0]
    exact ⟨heap_alloc_new w1 _, al_size _ _, hba, ho1.keep (Below.heap_alloc w1 _ go ho1.lt), hgo, ho1.lt, hb1.size⟩
  clear ho1 hgo hb1 hW0e hg0
  go_wp2_with fail
  clear hW2
  go_loopw [20] (fun v20 wr => ∃ i : Nat, v20 = .int .i64 (i : Int) ∧ i ≤ W.length ∧ Hid (OwnR wr 3 go L L (iv (Sp.onl L (Sp.onw (W.take i)))) ∧ Srt W2 (some go) wr)) (fun v20 _ => W.length - (intOf v20).toNat)
  case atStart => exact ⟨0, rfl, Nat.zero_le _, HW2.out.2.2.2.1, Srt.refl _ _⟩
  case round =>
    obtain ⟨i, rfl, hi, HR⟩ := hrel
    have hw0 := HW0.out
    have hw2 := HW2.out
    have kp : ∀ k, k < W2.heap.size → k ≠ go → wr.heap[k]? = W2.heap[k]? := fun k h1 h2 => HR.out.2.2.2.2.2 k h1 (fun e => h2 (Option.some.inj e).symm)
    have kw : ∀ k, k < w.heap.size → wr.heap[k]? = w.heap[k]? := fun k hk => ((kp k (by omega) (by omega)).trans (hw2.2.2.1.block k (by omega))).trans (hw0.2.2.block k hk)
    by_cases hlt : i < W.length
    · have hltz : (i : Int) < (W.length : Int) := by omega
      obtain ⟨n, hx⟩ : ∃ n, W[i]? = some n := ⟨_, List.getElem?_eq_getElem hlt⟩
      have hnL : n < L := HW.out.bd n (List.mem_of_getElem? hx)
      have hnz : (n : Int) < (L : Int) := by omega
      have hcx : wr.cell? ⟨gw, i, none⟩ = some (.int .i64 (n : Int)) := (HG.out.2.2.keep (kw gw HG.out.2.2.lt)).cell (by simp [iv, hx])
      have hob : wr.cell? ⟨w1.heap.size, 0, none⟩ = some (.slice (some ⟨go, 0, none⟩) L L) := by simp [World.cell?, kp w1.heap.size (by omega) (by omega), hw2.1]
      have hcn : wr.cell? ⟨go, n, none⟩ = some (.int .i64 (Sp.onw (W.take i) n)) := HR.out.1.cell (by simp [iv, onl_at _ hnL])
      have hfn := HR.out.1.free n
      have HF : Hid (OwnR (wr.setCell ⟨go, n, none⟩ (.int .i64 (i : Int))) 3 go L L (iv (Sp.onl L (Sp.onw (W.take (i + 1))))) ∧ Srt W2 (some go) (wr.setCell ⟨go, n, none⟩ (.int .i64 (i : Int)))) := by
        refine ⟨?_, HR.out.2.set go (.inl rfl) _⟩
        rw [onl_put HW.out.nd hx, show iv ((Sp.onl L (Sp.onw (W.take i))).set n (i : Int)) = (iv (Sp.onl L (Sp.onw (W.take i)))).set n (.int .i64 (i : Int)) from List.map_set]
        exact HR.out.1.set n _
      clear hx kp kw hw0 hw2
      go_wp2_with fail
      go_roundw
      case rel => exact ⟨i + 1, by go_num, by omega, HF.out⟩
      case measure => simp [intOf]; omega
    · obtain rfl : i = W.length := by omega
      have htk : W.take W.length = W := List.take_of_length_le (Nat.le_refl _)
      have HON : Hid (OwnR wr 3 go L L (iv (Sp.onl L (Sp.onw W)))) := by have := HR.out.1; rw [htk] at this; exact this
      have hbw : Below w.heap.size w wr := by
        have hs := HR.out.2
        refine ⟨hs.1.trans (hw2.2.2.1.os.trans hw0.2.2.os), hs.2.1.trans (hw2.2.2.1.tape.trans hw0.2.2.tape), hs.2.2.1.trans (hw2.2.2.1.output.trans hw0.2.2.output), ?_, kw⟩
        have := hs.2.2.2.1; omega
      obtain ⟨W4, hW4⟩ : ∃ W4, wr.alloc (.cells #[.int .i64 (-1)] 3) = W4 := ⟨_, rfl⟩
      have hb4 : Below wr.heap.size wr W4 := by rw [← hW4]; exact (Below.refl _ _).alloc (Nat.le_refl _) _
      have hz4 : W4.heap.size = wr.heap.size + 1 := by rw [← hW4]; exact al_size _ _
      have hf4 : W4.heap[wr.heap.size]? = some (.cells #[.int .i64 (-1)] 3 (0, 0)) := by rw [← hW4]; exact heap_alloc_new wr _
      have hg4 : W4.cell? ⟨w.heap.size, 0, none⟩ = some (.pointer (some ⟨gb, 0, none⟩)) := by
        have e : W4.heap[w.heap.size]? = W0.heap[w.heap.size]? := ((hb4.block w.heap.size (by have := HR.out.2.2.2.2.1; omega)).trans (kp w.heap.size (by omega) (by omega))).trans (hw2.2.2.1.block w.heap.size (by omega))
        simp [World.cell?, e, hw0.1]
      have H4 : Hid (Below w.heap.size w W4 ∧ Below wr.heap.size wr W4 ∧ W4.heap.size = wr.heap.size + 1 ∧ W4.heap[wr.heap.size]? = some (.cells #[.int .i64 (-1)] 3 (0, 0))) := ⟨belT hbw hb4, hb4, hz4, hf4⟩
      have H5 : Hid (w.heap.size < W0.heap.size ∧ W0.heap.size ≤ go ∧ go < w1.heap.size ∧ w1.heap.size < W2.heap.size ∧ W2.heap.size ≤ wr.heap.size ∧ wr.heap[w1.heap.size]? = some (.cells #[.slice (some ⟨go, 0, none⟩) L L] 60 (0, 0)) ∧ W4.heap[w.heap.size]? = some (.cells #[.pointer (some ⟨gb, 0, none⟩)] 27 (0, 0))) := by
        refine ⟨by omega, by omega, by omega, by omega, HR.out.2.2.2.2.1, (kp w1.heap.size (by omega) (by omega)).trans hw2.1, ?_⟩
        exact (((hb4.block w.heap.size (by have := HR.out.2.2.2.2.1; omega)).trans (kp w.heap.size (by omega) (by omega))).trans (hw2.2.2.1.block w.heap.size (by omega))).trans hw0.1
      clear htk kp kw hw0 hw2 hb4 hz4 hf4 hbw HR
      go_wp2_with fail
      refine (HN.out W4 H4.out.1).mono ?_
      rintro e w5 ⟨gq, rfl, ho5, hgq, hb5⟩
      obtain ⟨W6, hW6⟩ : ∃ W6, w5.alloc (.cells #[.slice (some ⟨gq, 0, none⟩) L L] 60) = W6 := ⟨_, rfl⟩
      have HK0 : Hid (KpI w L wr.heap.size w1.heap.size w5.heap.size w.heap.size go gq gb (Sp.onw W) [] (-1) W6) := by
        have h4 := H4.out
        have h5 := H5.out
        have hz5 := hb5.size
        have hql := ho5.lt
        have k6 : ∀ k, k < w5.heap.size → W6.heap[k]? = w5.heap[k]? := fun k hk => by rw [← hW6]; exact Below.heap_alloc w5 _ k hk
        have k4 : ∀ k, k < W4.heap.size → W6.heap[k]? = W4.heap[k]? := fun k hk => (k6 k (by omega)).trans (hb5.block k hk)
        have kr : ∀ k, k < wr.heap.size → W6.heap[k]? = wr.heap[k]? := fun k hk => (k4 k (by omega)).trans (h4.2.1.block k hk)
        refine ⟨?_, (k4 wr.heap.size (by omega)).trans h4.2.2.2, by simp [World.cell?, kr w1.heap.size (by omega), h5.2.2.2.2.2.1], by rw [← hW6]; simp, by simp [World.cell?, k4 w.heap.size (by omega), h5.2.2.2.2.2.2], HON.out.keep (kr go (by omega)), ?_, ⟨by omega, by omega⟩, ⟨by omega, by omega, by omega, by omega, by omega⟩, ⟨by omega, by omega, by omega, by omega⟩, by simp⟩
        · rw [← hW6]; exact (belT h4.1 hb5).alloc (by have := h4.1.size; omega) _
        · rw [snl_0]; exact ho5.keep (k6 gq hql)
      have HC1 : Hid (Calls Tryz.prog 65 #[.slice a src.length cap, .pointer (some ⟨wr.heap.size, 0, none⟩), .pointer (some ⟨w1.heap.size, 0, none⟩), .pointer (some ⟨w5.heap.size, 0, none⟩), .pointer (some ⟨w.heap.size, 0, none⟩)] W6 fun e w' => ∃ S' far', e = .returned (.tuple #[]) ∧ KpI w L wr.heap.size w1.heap.size w5.heap.size w.heap.size go gq gb (Sp.onw W) S' far' w' ∧ KM nx W (Sp.onw W) (fun x => False ∨ x ∈ src) S' far' (fun _ => False) ∧ W6.heap.size ≤ w'.heap.size) := HM.out _ _ _ _ _ _ (fun _ => False) [] (-1) a cap src W6 HK0.out (KM.begin_ nx W _) (HG.out.2.1.keep HK0.out.bel) HB.out.1 hl
      clear ho5 hgq hb5 hg4 hW4
      go_wp2_with fail
      refine HC1.out.mono ?_
      rintro e w7 ⟨S1, far1, rfl, hk7, hm7, _⟩
      have HK7 : Hid (KpI w L wr.heap.size w1.heap.size w5.heap.size w.heap.size go gq gb (Sp.onw W) S1 far1 w7 ∧ KM nx W (Sp.onw W) (Sp.srcs nx W src 0) S1 far1 (fun _ => False)) := ⟨hk7, hm7.same (fun _ => Iff.rfl) (fun x => ⟨fun h => .inl (h.resolve_left id), fun h => by rcases h with h | ⟨s, y, h, _⟩; exact .inr h; omega⟩)⟩
      clear hk7 hm7 HC1 hW6
      have hW1z : ((W.length : Int) - 1) ≤ (cw : Int) := by omega
      have hW1y : (0 : Int) ≤ (W.length : Int) - 1 := by omega
      obtain ⟨M, hM⟩ : ∃ M, W.length = M + 1 := ⟨W.length - 1, by omega⟩
      have HMM : Hid (W.length = M + 1) := hM
      go_wp2_with fail
      clear H4 H5 HK0 HON
      generalize wr.heap.size = fb at *
      go_loopw [13, 42] (fun v13 v42 wq => ∃ (i : Nat) (r : Int) (S : List Nat) (far : Int), v13 = .int .i64 r ∧ v42 = .int .i64 (i : Int) ∧ i ≤ M ∧ Hid (IsK nx src n0 W i r ∧ KpI w L fb w1.heap.size w5.heap.size w.heap.size go gq gb (Sp.onw W) S far wq ∧ KM nx W (Sp.onw W) (Sp.srcs nx W src i) S far (fun _ => False))) (fun _ v42 _ => M - (intOf v42).toNat)
      case atStart => exact ⟨0, -1, S1, far1, rfl, rfl, Nat.zero_le _, IsK.start, HK7.out⟩
      case round =>
        clear HK7
        obtain ⟨i, r, S, far, rfl, rfl, hi, HR⟩ := hrel
        by_cases hlt : i < M
        · have hltz : (i : Int) < (M : Int) := by omega
          obtain ⟨k, hx⟩ : ∃ k, W[i]? = some k := ⟨_, List.getElem?_eq_getElem (by omega)⟩
          have hkL : k < L := HW.out.bd k (List.mem_of_getElem? hx)
          have hkz : (k : Int) < (L : Int) := by omega
          have hKP := HR.out.2.1
          have hcx : wr.cell? ⟨gw, i, none⟩ = some (.int .i64 (k : Int)) := (HG.out.2.2.keep (hKP.bel.block gw HG.out.2.2.lt)).cell (by simp [iv, hx])
          have hff : wr.cell? ⟨fb, 0, none⟩ = some (.int .i64 far) := by simp [World.cell?, hKP.fbx]
          have hgx := hKP.gbx
          have HGk : Hid (GR wr gb N nx gn cn lo xb bl cp) := HG.out.1.keep hKP.bel
          have hc2 : wr.cell? ⟨gb, 2, none⟩ = some (.slice (some ⟨xb, 0, none⟩) L L) := by rw [← HL.out]; exact HGk.out.c2
          have hrow := HGk.out.row (p := k) (by rw [HL.out]; exact hkL)
          have hcr := hrow.1
          have hin : InI wr (adr (bl k)) (nx k) := fun t x hx => by
            simp only [iv, List.getElem?_map] at hx
            cases hj : (nx k)[t]? with
            | none => rw [hj] at hx; simp at hx
            | some j =>
              rw [hj] at hx; simp at hx; subst hx
              obtain ⟨gg, hgg, hcc⟩ := hrow.2 t j hj
              exact ⟨gg, 0, by rw [hgg]; rfl, World.block_lt_of_cell? _ _ hcc, by simpa using hcc⟩
          have HC1 : Hid (Calls Tryz.prog 65 #[.slice (adr (bl k)) (nx k).length (cp k), .pointer (some ⟨fb, 0, none⟩), .pointer (some ⟨w1.heap.size, 0, none⟩), .pointer (some ⟨w5.heap.size, 0, none⟩), .pointer (some ⟨w.heap.size, 0, none⟩)] wr fun e w' => ∃ S' far', e = .returned (.tuple #[]) ∧ KpI w L fb w1.heap.size w5.heap.size w.heap.size go gq gb (Sp.onw W) S' far' w' ∧ KM nx W (Sp.onw W) (fun x => Sp.srcs nx W src i x ∨ x ∈ nx k) S' far' (fun _ => False) ∧ wr.heap.size ≤ w'.heap.size) := HM.out _ _ _ _ _ _ _ S far _ (cp k) (nx k) wr hKP HR.out.2.2 hin (HB.out.2.1 k) (by have := HB.out.2.2 k; omega)
          have hfar := HW.out.far (onw_is HW.out.nd) hx (by omega) (HR.out.2.2.fin_ (onw_is HW.out.nd))
          have hdom := HW.out.domIff hx (by omega)
          have hstp := HR.out.1.step hx
          have HSR : Hid (∀ x, (Sp.srcs nx W src i x ∨ x ∈ nx k) ↔ Sp.srcs nx W src (i + 1) x) := srcs_step hx
          have hnl := HB.out.2.2 k
          by_cases hfi : far = (i : Int)
          · have hfb : (far == (i : Int)) = true := by simp [hfi]
            have HF : Hid (IsK nx src n0 W (i + 1) (k : Int)) := hstp.1 (hdom.2 (hfar.1 hfi))
            clear hKP hrow hin hfar hdom hstp hx HGk hfi
            go_wp2_with fail
            refine HC1.out.mono ?_
            rintro e w8 ⟨S2, far2, rfl, hk8, hm8, _⟩
            have HF8 : Hid (KpI w L fb w1.heap.size w5.heap.size w.heap.size go gq gb (Sp.onw W) S2 far2 w8 ∧ KM nx W (Sp.onw W) (Sp.srcs nx W src (i + 1)) S2 far2 (fun _ => False)) := ⟨hk8, hm8.same (fun _ => Iff.rfl) HSR.out⟩
            clear hk8 hm8
            go_wp2_with fail
            go_roundw
            case rel => exact ⟨i + 1, (k : Int), S2, far2, rfl, by go_num, by omega, HF.out, HF8.out⟩
            case measure => simp [intOf]; omega
          · have hfb : (far == (i : Int)) = false := by simp [hfi]
            have HF : Hid (IsK nx src n0 W (i + 1) r) := hstp.2 (fun h => hfi (hfar.2 (hdom.1 h)))
            clear hKP hrow hin hfar hdom hstp hx HGk hfi
            go_wp2_with fail
            refine HC1.out.mono ?_
            rintro e w8 ⟨S2, far2, rfl, hk8, hm8, _⟩
            have HF8 : Hid (KpI w L fb w1.heap.size w5.heap.size w.heap.size go gq gb (Sp.onw W) S2 far2 w8 ∧ KM nx W (Sp.onw W) (Sp.srcs nx W src (i + 1)) S2 far2 (fun _ => False)) := ⟨hk8, hm8.same (fun _ => Iff.rfl) HSR.out⟩
            clear hk8 hm8
            go_wp2_with fail
            go_roundw
            case rel => exact ⟨i + 1, r, S2, far2, rfl, by go_num, by omega, HF.out, HF8.out⟩
            case measure => simp [intOf]; omega
        · obtain rfl : i = M := by omega
          go_wp2_with fail
          go_ret
          exact ⟨r, rfl, by rw [HMM.out]; exact HR.out.1, HR.out.2.1.bel⟩
end Go.Proofs.YtikhpbidbcfedaaGreat

