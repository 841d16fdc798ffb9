/- tenonref14.with: a further number among rising ones. -/
import Derived.Test.YtilhheianbbbjaaK15
import Derived.Test.YtilhheianbbbjaaK12
namespace Go.Proofs.Ytilhheianbbbjaa
open Go.RowKit Go.ChangeMaps

def Sp.ins (l : List Int) (x : Int) : List Int := if x ∈ l then l else l.take (Sp.fnd l x) ++ [x] ++ l.drop (Sp.fnd l x)
theorem ins_mem {l : List Int} {x y : Int} : y ∈ Sp.ins l x ↔ y ∈ l ∨ y = x := by
  unfold Sp.ins
  split
  · rename_i h
    exact ⟨.inl, fun h' => h'.elim id (fun e => e ▸ h)⟩
  · rw [List.mem_append, List.mem_append, List.mem_singleton]
    have : y ∈ l ↔ y ∈ l.take (Sp.fnd l x) ∨ y ∈ l.drop (Sp.fnd l x) := by rw [← List.mem_append, List.take_append_drop]
    rw [this]
    constructor
    · rintro ((h | h) | h)
      · exact .inl (.inl h)
      · exact .inr h
      · exact .inl (.inr h)
    · rintro ((h | h) | h)
      · exact .inl (.inl h)
      · exact .inr h
      · exact .inl (.inr h)
theorem ins_lt {l : List Int} (hp : l.Pairwise (· < ·)) (x : Int) : (Sp.ins l x).Pairwise (· < ·) := by
  unfold Sp.ins
  split
  · exact hp
  · rename_i hx
    have hk := fnd_le l x
    have h1 : ∀ y ∈ l.take (Sp.fnd l x), y < x := fun y hy => by
      obtain ⟨t, ht⟩ := List.mem_iff_getElem?.1 hy
      rw [List.getElem?_take] at ht
      split at ht
      · rename_i h2; exact (fnd_iff hp ht).2 h2
      · cases ht
    have h2 : ∀ y ∈ l.drop (Sp.fnd l x), x < y := fun y hy => by
      obtain ⟨t, ht⟩ := List.mem_iff_getElem?.1 hy
      rw [List.getElem?_drop] at ht
      have h3 := (fnd_iff hp (x := x) ht)
      have h4 : ¬ y < x := fun h => by have := h3.1 h; omega
      have h5 : y ≠ x := fun e => hx (e ▸ List.mem_of_getElem? ht)
      omega
    rw [List.pairwise_append, List.pairwise_append]
    refine ⟨⟨hp.sublist (List.take_sublist _ _), by simp, fun a ha b hb => by simp at hb; subst hb; exact h1 a ha⟩, hp.sublist (List.drop_sublist _ _), fun a ha b hb => ?_⟩
    rcases List.mem_append.1 ha with ha | ha
    · have := h1 a ha; have := h2 b hb; omega
    · simp at ha; subst ha; exact h2 b hb
set_option maxRecDepth 100000 in
set_option maxHeartbeats 8000000 in
theorem with_any (gs : Option Nat) (c : Nat) (l : List Int) (x : Int) (w : World) (h : NdI w gs c l) (hp : l.Pairwise (· < ·)) (hl : l.length ≤ 100000) :
    Calls Try.prog 36 #[.slice (adr gs) l.length c, .int .i64 x] w fun e w' => ∃ gs' c', e = .returned (.slice (adr gs') (Sp.ins l x).length c') ∧ NdI w' gs' c' (Sp.ins l x) ∧ Below w.heap.size w w' ∧ ((gs' = gs ∧ c' = c) ∨ ∃ g, gs' = some g ∧ w.heap.size ≤ g) := by
  obtain ⟨i0, hi, hz0, hz1, hz2⟩ := info_parts Try.infoIn
  have hfl := fnd_le l x
  obtain ⟨k, hk⟩ : ∃ k, k = Sp.fnd l x := ⟨_, rfl⟩
  have HF : Hid (∀ t y, l[t]? = some y → (y < x ↔ t < k)) := fun t y hy => by rw [hk]; exact fnd_iff hp hy
  have HK : Hid (k = Sp.fnd l x) := hk
  rw [← hk] at hfl
  clear hk
  cases gs with
  | none =>
    obtain ⟨rfl, rfl⟩ := h.1 rfl
    obtain rfl : k = 0 := by simpa using hfl
    have e0 : Sp.ins [] x = [x] := by simp [Sp.ins, Sp.fnd]
    rw [e0]
    have ea : adr none = none := rfl
    rw [ea]
    clear h hp hl hfl
    go_enter Try.func36, Try.ntmps36
    go_wp2
    go_loopw [5] (fun v5 wr => v5 = .int .i64 0 ∧ wr = w) (fun _ _ => 0)
    case atStart => exact ⟨rfl, rfl⟩
    case round =>
      obtain ⟨rfl, rfl⟩ := hrel
      go_wp2_with (first
        | (at_builtin; have hq := HO2.out; refine wpList_appS _ rfl _ _ 46 46 rfl 3 i0 (.int .i64 0) 8 Try.undIs hi hz0 hz1 hz2 rfl g2 _ c2 _ rfl HO2.out _ 0 [] rfl (Src.ofNil _ Try.undIs 0) (by omega) (by decide) ?_; intro g3 c3 w3 ho3 hg3 hor3)
        | (at_builtin; have hq := HO1.out; refine wpList_appS _ rfl _ _ 46 46 rfl 3 i0 (.int .i64 0) 8 Try.undIs hi hz0 hz1 hz2 rfl g1 _ c1 _ rfl (HO1.out.keep (Below.heap_alloc _ _ _ HO1.out.lt)) _ 1 [.int .i64 x] rfl (Src.ofSlice _ Try.undIs ⟨_, 0, none⟩ 1 1 [.int .i64 x] rfl (cell_one_new _ _ _) (fun u hu => by simp at hu; subst hu; rfl)) (by omega) (by decide) ?_; intro g2 c2 w2 ho2 hg2 hor2; have HO2 : Hid (OwnR w2 3 g2 1 c2 [.int .i64 x]) := ho2; have HG2 : Hid ((w1.alloc (.cells #[.int .i64 x] 3)).grownBy w2 (some g1) ∧ (g2 = g1 ∨ g2 = (w1.alloc (.cells #[.int .i64 x] 3)).heap.size)) := ⟨hg2, hor2⟩; clear ho2 hg2 hor2)
        | (at_builtin; refine wpList_appS _ rfl _ _ 46 46 rfl 3 i0 (.int .i64 0) 8 Try.undIs hi hz0 hz1 hz2 rfl wr.heap.size 0 0 [] rfl (OwnR.alloc0 wr _) _ 0 [] rfl (Src.ofNil _ Try.undIs 0) (by omega) (by decide) ?_; intro g1 c1 w1 ho1 hg1 hor1; have HO1 : Hid (OwnR w1 3 g1 0 c1 []) := ho1; have HG1 : Hid ((wr.alloc (.cells #[] 3)).grownBy w1 (some wr.heap.size) ∧ (g1 = wr.heap.size ∨ g1 = (wr.alloc (.cells #[] 3)).heap.size)) := ⟨hg1, hor1⟩; clear ho1 hg1 hor1))
      go_ret
      have hsz : (wr.alloc (.cells #[] 3)).heap.size = wr.heap.size + 1 := by simp
      have b1 : Below wr.heap.size wr w1 := ((Below.refl _ _).alloc (Nat.le_refl _) _).grown HG1.out.1 (by omega) (fun k hk => by simp at hk; omega)
      have q1 : wr.heap.size ≤ g1 := by have := HG1.out.2; omega
      have b2 : Below wr.heap.size wr w2 := (b1.alloc b1.size _).grown HG2.out.1 (b1.alloc b1.size _).size (fun k hk => by simp at hk; omega)
      have q2 : wr.heap.size ≤ g2 := by rcases HG2.out.2 with h | h; omega; have := (b1.alloc b1.size (.cells #[.int .i64 x] 3)).size; omega
      have b3 : Below wr.heap.size wr w3 := b2.grown hg3 b2.size (fun k hk => by simp at hk; omega)
      have q3 : wr.heap.size ≤ g3 := by rcases hor3 with h | h; omega; have := b2.size; omega
      refine ⟨some g3, c3, by simp [adr], ⟨(fun h => by cases h), fun g' hg => ?_⟩, b3, .inr ⟨g3, rfl, q3⟩⟩
      injection hg with hg; subst hg
      simpa [iv] using ho3
  | some g =>
    have ho := h.2 g rfl
    have ea : adr (some g) = some ⟨g, 0, none⟩ := rfl
    rw [ea]
    have hcap : l.length ≤ c := by obtain ⟨cur, _, h2, _⟩ := ho.blk; exact h2
    have HC : Hid (∀ W : World, W.heap[g]? = w.heap[g]? → ∀ t y, l[t]? = some y → W.cell? ⟨g, t, none⟩ = some (.int .i64 y)) := fun W hW t y hy => (ho.keep hW).cell (by simp [iv, hy])
    have hgl := ho.lt
    have HS1 : Hid (Src Try.prog 1 46 (.slice (some ⟨g, 0, none⟩) k c) k (iv (l.take k)) (w.alloc (.cells #[] 3))) := by
      refine Src.ofSlice _ Try.undIs ⟨g, 0, none⟩ k c (iv (l.take k)) (by simp [iv]; omega) (fun j u hj => ?_) (iv_one _)
      rw [addN, Nat.zero_add]
      obtain ⟨y, hy, rfl⟩ : ∃ y, l[j]? = some y ∧ u = .int .i64 y := by
        simp only [iv, List.getElem?_map, List.getElem?_take] at hj
        split at hj
        · obtain ⟨y, h1, h2⟩ := Option.map_eq_some_iff.1 hj; exact ⟨y, h1, h2.symm⟩
        · simp at hj
      exact HC.out _ (Below.heap_alloc w _ g hgl) j y hy
    have HS3 : Hid (∀ W : World, Below w.heap.size w W → Src Try.prog 1 46 (.slice (some ⟨g, k, none⟩) (l.length - k) (c - k)) (l.length - k) (iv (l.drop k)) W) := fun W hW => by
      refine Src.ofSlice _ Try.undIs ⟨g, k, none⟩ (l.length - k) (c - k) (iv (l.drop k)) (by simp [iv]) (fun j u hj => ?_) (iv_one _)
      rw [addN]
      obtain ⟨y, hy, rfl⟩ : ∃ y, l[k + j]? = some y ∧ u = .int .i64 y := by
        simp only [iv, List.getElem?_map, List.getElem?_drop] at hj
        obtain ⟨y, h1, h2⟩ := Option.map_eq_some_iff.1 hj; exact ⟨y, h1, h2.symm⟩
      exact HC.out _ (hW.block g hgl) (k + j) y hy
    have HH : Hid (NdI w (some g) c l) := h
    clear h ho
    go_enter Try.func36, Try.ntmps36
    go_wp2
    go_loopw [5] (fun v5 wr => ∃ i : Nat, v5 = .int .i64 i ∧ i ≤ k ∧ wr = w) (fun v5 _ => k - (intOf v5).toNat)
    case atStart => exact ⟨0, rfl, Nat.zero_le _, rfl⟩
    case round =>
      obtain ⟨i, rfl, hik, hw⟩ := hrel
      subst hw
      by_cases hlt : i < k
      · obtain ⟨y, hy⟩ : ∃ y, l[i]? = some y := ⟨_, List.getElem?_eq_getElem (by omega)⟩
        have hc := HC.out wr rfl i y hy
        have hyx := (HF.out i y hy).2 hlt
        have hil : (i : Int) < (l.length : Int) := by omega
        clear hy
        go_wp2
        go_roundw
        case rel => exact ⟨i + 1, by go_num, by omega, by trivial⟩
        case measure => simp [intOf]; omega
      · obtain rfl : i = k := by omega
        by_cases hx : x ∈ l
        · obtain ⟨t, ht⟩ := List.mem_iff_getElem?.1 hx
          have e1 := fnd_at hp ht
          obtain rfl : i = t := by rw [HK.out]; exact e1
          have hc := HC.out wr rfl i x ht
          have hil : (i : Int) < (l.length : Int) := by have := (List.getElem?_eq_some_iff.1 ht).1; omega
          have E2 : Hid (Sp.ins l x = l) := by show _ = _; unfold Sp.ins; rw [if_pos hx]
          clear ht e1 hx
          go_wp2
          go_ret
          exact ⟨some g, c, by rw [E2.out]; rfl, by rw [E2.out]; exact HH.out, Below.refl _ _, .inl ⟨rfl, rfl⟩⟩
        · have E2 : Hid (Sp.ins l x = l.take i ++ [x] ++ l.drop i) := by show _ = _; unfold Sp.ins; rw [if_neg hx, ← HK.out]
          by_cases hil0 : i < l.length
          · obtain ⟨y, hy⟩ : ∃ y, l[i]? = some y := ⟨_, List.getElem?_eq_getElem hil0⟩
            have hc := HC.out wr rfl i y hy
            have hyx : ¬ y < x := fun h => by have := (HF.out i y hy).1 h; omega
            have hne : ¬ y = x := fun e => hx (e ▸ List.mem_of_getElem? hy)
            have hil : (i : Int) < (l.length : Int) := by omega
            clear hy hx
            go_wp2_with (first
            | (at_builtin; have hq := HO2.out; refine wpList_appS _ rfl _ _ 46 46 rfl 3 i0 (.int .i64 0) 8 Try.undIs hi hz0 hz1 hz2 rfl g2 _ c2 _ rfl HO2.out _ (l.length - i) (iv (l.drop i)) rfl (HS3.out w2 HB2.out) (by omega) (by decide) ?_; intro g3 c3 w3 ho3 hg3 hor3)
            | (at_builtin; have hq := HO1.out; refine wpList_appS _ rfl _ _ 46 46 rfl 3 i0 (.int .i64 0) 8 Try.undIs hi hz0 hz1 hz2 rfl g1 _ c1 _ rfl (HO1.out.keep (Below.heap_alloc _ _ _ HO1.out.lt)) _ 1 [.int .i64 x] rfl (Src.ofSlice _ Try.undIs ⟨_, 0, none⟩ 1 1 [.int .i64 x] rfl (cell_one_new _ _ _) (fun u hu => by simp at hu; subst hu; rfl)) (by omega) (by decide) ?_; intro g2 c2 w2 ho2 hg2 hor2; have HO2 : Hid (OwnR w2 3 g2 (i + 1) c2 (iv (l.take i) ++ [.int .i64 x])) := ho2; have HB2 : Hid (Below wr.heap.size wr w2) := ((HB1.out.1.alloc HB1.out.1.size _).grown hg2 (HB1.out.1.alloc HB1.out.1.size _).size (fun k hk => by have := HB1.out.2; simp at hk; omega)); have HQ2 : Hid (wr.heap.size ≤ g2) := (show wr.heap.size ≤ g2 from (by have := HB1.out.2; have := (HB1.out.1.alloc HB1.out.1.size (.cells #[.int .i64 x] 3)).size; rcases hor2 with h | h <;> omega)); clear ho2 hg2 hor2)
            | (at_builtin; refine wpList_appS _ rfl _ _ 46 46 rfl 3 i0 (.int .i64 0) 8 Try.undIs hi hz0 hz1 hz2 rfl wr.heap.size 0 0 [] rfl (OwnR.alloc0 wr _) _ i (iv (l.take i)) rfl HS1.out (by omega) (by decide) ?_; intro g1 c1 w1 ho1 hg1 hor1; have HO1 : Hid (OwnR w1 3 g1 i c1 (iv (l.take i))) := (by rw [Nat.zero_add, List.nil_append] at ho1; exact ho1); have HB1 : Hid (Below wr.heap.size wr w1 ∧ wr.heap.size ≤ g1) := ⟨((Below.refl _ _).alloc (Nat.le_refl _) _).grown hg1 (by simp) (fun k hk => by simp at hk; omega), (by rw [al_size] at hor1; omega)⟩; clear ho1 hg1 hor1))
            go_ret
            have b3 : Below wr.heap.size wr w3 := HB2.out.grown hg3 HB2.out.size (fun k hk => by have := HQ2.out; simp at hk; omega)
            have q3 : wr.heap.size ≤ g3 := by have := HQ2.out; have := HB2.out.size; rcases hor3 with h | h <;> omega
            have hlen : (l.take i ++ [x] ++ l.drop i).length = i + 1 + (l.length - i) := by simp; omega
            rw [E2.out]
            refine ⟨some g3, c3, by rw [hlen]; rfl, ⟨(fun h => by cases h), fun g' hg => ?_⟩, b3, .inr ⟨g3, rfl, q3⟩⟩
            injection hg with hg; subst hg
            rw [hlen]; simpa [iv] using ho3
          · have hil : decide ((i : Int) < (l.length : Int)) = false := decide_eq_false (by omega)
            clear hx
            by_cases hci : i < c
            · skip
              go_wp2_with (first
              | (at_builtin; have hq := HO2.out; refine wpList_appS _ rfl _ _ 46 46 rfl 3 i0 (.int .i64 0) 8 Try.undIs hi hz0 hz1 hz2 rfl g2 _ c2 _ rfl HO2.out _ (l.length - i) (iv (l.drop i)) rfl (HS3.out w2 HB2.out) (by omega) (by decide) ?_; intro g3 c3 w3 ho3 hg3 hor3)
              | (at_builtin; have hq := HO1.out; refine wpList_appS _ rfl _ _ 46 46 rfl 3 i0 (.int .i64 0) 8 Try.undIs hi hz0 hz1 hz2 rfl g1 _ c1 _ rfl (HO1.out.keep (Below.heap_alloc _ _ _ HO1.out.lt)) _ 1 [.int .i64 x] rfl (Src.ofSlice _ Try.undIs ⟨_, 0, none⟩ 1 1 [.int .i64 x] rfl (cell_one_new _ _ _) (fun u hu => by simp at hu; subst hu; rfl)) (by omega) (by decide) ?_; intro g2 c2 w2 ho2 hg2 hor2; have HO2 : Hid (OwnR w2 3 g2 (i + 1) c2 (iv (l.take i) ++ [.int .i64 x])) := ho2; have HB2 : Hid (Below wr.heap.size wr w2) := ((HB1.out.1.alloc HB1.out.1.size _).grown hg2 (HB1.out.1.alloc HB1.out.1.size _).size (fun k hk => by have := HB1.out.2; simp at hk; omega)); have HQ2 : Hid (wr.heap.size ≤ g2) := (show wr.heap.size ≤ g2 from (by have := HB1.out.2; have := (HB1.out.1.alloc HB1.out.1.size (.cells #[.int .i64 x] 3)).size; rcases hor2 with h | h <;> omega)); clear ho2 hg2 hor2)
              | (at_builtin; refine wpList_appS _ rfl _ _ 46 46 rfl 3 i0 (.int .i64 0) 8 Try.undIs hi hz0 hz1 hz2 rfl wr.heap.size 0 0 [] rfl (OwnR.alloc0 wr _) _ i (iv (l.take i)) rfl HS1.out (by omega) (by decide) ?_; intro g1 c1 w1 ho1 hg1 hor1; have HO1 : Hid (OwnR w1 3 g1 i c1 (iv (l.take i))) := (by rw [Nat.zero_add, List.nil_append] at ho1; exact ho1); have HB1 : Hid (Below wr.heap.size wr w1 ∧ wr.heap.size ≤ g1) := ⟨((Below.refl _ _).alloc (Nat.le_refl _) _).grown hg1 (by simp) (fun k hk => by simp at hk; omega), (by rw [al_size] at hor1; omega)⟩; clear ho1 hg1 hor1))
              go_ret
              have b3 : Below wr.heap.size wr w3 := HB2.out.grown hg3 HB2.out.size (fun k hk => by have := HQ2.out; simp at hk; omega)
              have q3 : wr.heap.size ≤ g3 := by have := HQ2.out; have := HB2.out.size; rcases hor3 with h | h <;> omega
              have hlen : (l.take i ++ [x] ++ l.drop i).length = i + 1 + (l.length - i) := by simp; omega
              rw [E2.out]
              refine ⟨some g3, c3, by rw [hlen]; rfl, ⟨(fun h => by cases h), fun g' hg => ?_⟩, b3, .inr ⟨g3, rfl, q3⟩⟩
              injection hg with hg; subst hg
              rw [hlen]; simpa [iv] using ho3
            · have hce : i = c := by omega
              have HS4 : Hid (∀ W : World, Src Try.prog 1 46 (.slice (some ⟨g, 0, none⟩) 0 0) 0 [] W) := fun W => Src.ofSlice _ Try.undIs ⟨g, 0, none⟩ 0 0 [] rfl (fun j u hj => by simp at hj) (fun u hu => by simp at hu)
              subst hce
              go_wp2_with (first
              | (at_builtin; have hq := HO2.out; refine wpList_appS _ rfl _ _ 46 46 rfl 3 i0 (.int .i64 0) 8 Try.undIs hi hz0 hz1 hz2 rfl g2 _ c2 _ rfl HO2.out _ 0 [] rfl (HS4.out w2) (by omega) (by decide) ?_; intro g3 c3 w3 ho3 hg3 hor3)
              | (at_builtin; have hq := HO1.out; refine wpList_appS _ rfl _ _ 46 46 rfl 3 i0 (.int .i64 0) 8 Try.undIs hi hz0 hz1 hz2 rfl g1 _ c1 _ rfl (HO1.out.keep (Below.heap_alloc _ _ _ HO1.out.lt)) _ 1 [.int .i64 x] rfl (Src.ofSlice _ Try.undIs ⟨_, 0, none⟩ 1 1 [.int .i64 x] rfl (cell_one_new _ _ _) (fun u hu => by simp at hu; subst hu; rfl)) (by omega) (by decide) ?_; intro g2 c2 w2 ho2 hg2 hor2; have HO2 : Hid (OwnR w2 3 g2 (i + 1) c2 (iv (l.take i) ++ [.int .i64 x])) := ho2; have HB2 : Hid (Below wr.heap.size wr w2) := ((HB1.out.1.alloc HB1.out.1.size _).grown hg2 (HB1.out.1.alloc HB1.out.1.size _).size (fun k hk => by have := HB1.out.2; simp at hk; omega)); have HQ2 : Hid (wr.heap.size ≤ g2) := (show wr.heap.size ≤ g2 from (by have := HB1.out.2; have := (HB1.out.1.alloc HB1.out.1.size (.cells #[.int .i64 x] 3)).size; rcases hor2 with h | h <;> omega)); clear ho2 hg2 hor2)
              | (at_builtin; refine wpList_appS _ rfl _ _ 46 46 rfl 3 i0 (.int .i64 0) 8 Try.undIs hi hz0 hz1 hz2 rfl wr.heap.size 0 0 [] rfl (OwnR.alloc0 wr _) _ i (iv (l.take i)) rfl HS1.out (by omega) (by decide) ?_; intro g1 c1 w1 ho1 hg1 hor1; have HO1 : Hid (OwnR w1 3 g1 i c1 (iv (l.take i))) := (by rw [Nat.zero_add, List.nil_append] at ho1; exact ho1); have HB1 : Hid (Below wr.heap.size wr w1 ∧ wr.heap.size ≤ g1) := ⟨((Below.refl _ _).alloc (Nat.le_refl _) _).grown hg1 (by simp) (fun k hk => by simp at hk; omega), (by rw [al_size] at hor1; omega)⟩; clear ho1 hg1 hor1))
              go_ret
              have b3 : Below wr.heap.size wr w3 := HB2.out.grown hg3 HB2.out.size (fun k hk => by have := HQ2.out; simp at hk; omega)
              have q3 : wr.heap.size ≤ g3 := by have := HQ2.out; have := HB2.out.size; rcases hor3 with h | h <;> omega
              have hlen : (l.take i ++ [x] ++ l.drop i).length = i + 1 := by simp; omega
              have hdr : l.drop i = [] := List.drop_of_length_le (by omega)
              rw [E2.out]
              refine ⟨some g3, c3, by rw [hlen]; rfl, ⟨(fun h => by cases h), fun g' hg => ?_⟩, b3, .inr ⟨g3, rfl, q3⟩⟩
              injection hg with hg; subst hg
              rw [hlen]; simpa [iv, hdr] using ho3
end Go.Proofs.Ytilhheianbbbjaa

