/- check.narrow: its contract; lists of values that are being filled out of older ones. -/
import Derived.Test.YtcfcnijldnbbnaaR28
import Derived.Test.YtcfcnijldnbbnaaR35
import Derived.Test.YtcfcnijldnbbnaaR30
namespace Go.Proofs.Ytcfcnijldnbbnaa
open Go.RowKit

/-- what narrow answers: nothing, or what is left, in the old blocks or in new ones -/
def NarR (r : Nar) (ok wh : Bool) (x : Value) (B : Nat) (w w' : World) : Prop :=
  (r = none ∧ ok = false ∧ wh = false ∧ x = .nilIface) ∨ ∃ y, r = some (y, wh) ∧ ok = true ∧ y.V w' (BF (Lo B) w w') x
def NarE (r : Nar) (B : Nat) (w : World) (e : Ending) (w' : World) : Prop := Below w.heap.size w w' ∧ ∃ x ok wh, e = .returned (.agg #[x, .bool ok, .bool wh]) ∧ NarR r ok wh x B w w'
def NarC (N : Nat) : Prop := ∀ (t : Ty), t.sz ≤ N → t.ok = true → ∀ (v : Tm) (x : Value) (b B : Nat) (w : World), v.all.e = 0 → v.V w (Lo B) x → t.Sh w (Lo B) b → B ≤ w.heap.size →
  Calls Try.prog 27 #[.pointer (some ⟨b, 0, none⟩), x] w (NarE (t.nar v) B w)
theorem NarR.shape {r : Nar} {ok wh : Bool} {x : Value} {B : Nat} {w w' : World} (h : NarR r ok wh x B w w') : x = .nilIface ∨ ∃ T y, x = .iface T y := by
  rcases h with ⟨-, -, -, rfl⟩ | ⟨y, -, -, hv⟩
  · exact .inl rfl
  · exact y.V_shape x hv
/-- what was told stays so, where only later blocks change -/
theorem BF.up {B : Nat} {w0 w w' w2 : World} (h0 : Below w0.heap.size w0 w) (h2 : Below w'.heap.size w' w2) : ∀ k, BF (Lo B) w w' k → BF (Lo B) w0 w2 k := fun k hk => by
  rcases hk with hk | hk
  · exact .inl hk
  · exact .inr ⟨Nat.le_trans h0.size hk.1, Nat.lt_of_lt_of_le hk.2 h2.size⟩
theorem BF.lt {B : Nat} {w w' : World} (hB : B ≤ w.heap.size) (hb : Below w.heap.size w w') {k : Nat} (hk : BF (Lo B) w w' k) : k < w'.heap.size := by
  rcases hk with hk | hk
  · exact Nat.lt_of_lt_of_le hk (Nat.le_trans hB hb.size)
  · exact hk.2
theorem NarR.later {r : Nar} {ok wh : Bool} {x : Value} {B : Nat} {w0 w w' w2 : World} (hB : B ≤ w.heap.size) (hb : Below w.heap.size w w') (h : NarR r ok wh x B w w') (h0 : Below w0.heap.size w0 w) (h2 : Below w'.heap.size w' w2) : NarR r ok wh x B w0 w2 := by
  rcases h with h | ⟨y, e1, e2, hv⟩
  · exact .inl h
  · exact .inr ⟨y, e1, e2, y.V_same (fun k hk => h2.block k (BF.lt hB hb hk)) (BF.up h0 h2) x hv⟩

/-- the old blocks, and those that are new since W1, but for the row's own -/
def BGx (B : Nat) (W1 wr : World) (g : Nat) : Nat → Prop := fun k => (k < B ∨ (W1.heap.size ≤ k ∧ k < wr.heap.size)) ∧ k ≠ g
/-- the values so far lie in the row of block g -/
structure NL (F : TmL) (B : Nat) (W1 wr : World) (j g cap : Nat) (xs : List Value) (l : TmL) : Prop where
  own : wr.ownsRow W1.heap.size 20 1 (.slice (some ⟨g, 0, none⟩) j cap) j xs
  pre : VPre wr (BGx B W1 wr g) F xs l
  lt : W1.heap.size ≤ g ∧ g < wr.heap.size
  bel : Below W1.heap.size W1 wr
theorem NL.call {F : TmL} {B : Nat} {W1 wr w2 : World} {j g cap : Nat} {xs : List Value} {l : TmL} (hB : B ≤ W1.heap.size) (h : NL F B W1 wr j g cap xs l) (hb : Below wr.heap.size wr w2) : NL F B W1 w2 j g cap xs l := by
  have hz := hb.size
  have hz1 := h.bel.size
  refine ⟨owns_below hb h.own, VPre.same (fun k hk => hb.block k ?_) (fun k hk => ⟨?_, hk.2⟩) F xs l h.pre, ⟨h.lt.1, by have := h.lt.2; omega⟩, below_to h.bel hb⟩
  · rcases hk.1 with h1 | h1
    · omega
    · exact h1.2
  · rcases hk.1 with h1 | h1
    · exact .inl h1
    · exact .inr ⟨h1.1, by omega⟩
theorem NL.step {F : TmL} {B : Nat} {W1 wr : World} {j g cap : Nat} {xs : List Value} {y : Tm} {l : TmL} (hB : B ≤ W1.heap.size) (h : NL F B W1 wr j g cap xs (.cons y l)) {w2 w3 : World} {o : Obj} {x : Value} {g' cap' : Nat}
    (hb : Below wr.heap.size wr w2) (hx : y.V w2 (BF (Lo B) wr w2) x) (ho : w3.ownsRow W1.heap.size 20 1 (.slice (some ⟨g', 0, none⟩) (j + 1) cap') (j + 1) (xs ++ [x])) (hg : (w2.alloc o).grownBy w3 (some g)) (hor : some g = some g' ∨ g' = (w2.alloc o).heap.size) :
    NL F B W1 w3 (j + 1) g' cap' (xs ++ [x]) l := by
  have hz1 := hb.size
  have hz3 := hg.size
  have hz0 := h.bel.size
  have hza : (w2.alloc o).heap.size = w2.heap.size + 1 := by simp
  have hlt := ho.lt g' rfl
  have hgl := h.lt
  have h31 : ∀ k, k < w2.heap.size → k ≠ g → w3.heap[k]? = w2.heap[k]? := fun k hk hne => by
    rw [hg.block k (by omega) (by simpa using hne)]; exact Below.heap_alloc _ _ _ hk
  have hg' : ∀ k, k < w2.heap.size → k ≠ g → k ≠ g' := fun k hk hne e => by
    rcases hor with e' | e'
    · injection e' with e'; omega
    · omega
  have hBk : ∀ k, BGx B W1 wr g k → k < wr.heap.size := fun k hk => by
    rcases hk.1 with h1 | h1
    · omega
    · exact h1.2
  have hS : Same (BGx B W1 wr g) wr w3 := fun k hk => by rw [h31 k (by have := hBk k hk; omega) hk.2]; exact hb.block k (hBk k hk)
  have hFk : ∀ k, BF (Lo B) wr w2 k → k < w2.heap.size ∧ k ≠ g := fun k hk => by
    rcases hk with hk | hk
    · have : k < B := hk
      exact ⟨by omega, by omega⟩
    · exact ⟨hk.2, by have := hk.1; omega⟩
  have hS1 : Same (BF (Lo B) wr w2) w2 w3 := fun k hk => h31 k (hFk k hk).1 (hFk k hk).2
  refine ⟨ho, ?_, hlt, ?_⟩
  · refine VPre.snoc F xs y l x (VPre.same hS (fun k hk => ⟨?_, hg' k (by have := hBk k hk; omega) hk.2⟩) F xs _ h.pre) (y.V_same hS1 (fun k hk => ⟨?_, hg' k (hFk k hk).1 (hFk k hk).2⟩) x hx)
    · rcases hk.1 with h1 | h1
      · exact .inl h1
      · exact .inr ⟨h1.1, by omega⟩
    · rcases hk with h1 | h1
      · exact .inl h1
      · exact .inr ⟨by have := h1.1; omega, by have := h1.2; omega⟩
  · have hb1 : Below W1.heap.size W1 (w2.alloc o) := (h.bel.trans (hb.mono h.bel.size)).alloc (by omega) _
    exact hb1.grown hg (by omega) (fun k e => by injection e with e; omega)
theorem NL.done {F : TmL} {B : Nat} {w W1 wr : World} {j g cap : Nat} {xs : List Value} (hw : Below w.heap.size w W1) (h : NL F B W1 wr j g cap xs .nil) : j = F.len ∧ F.LV wr (BF (Lo B) w wr) (some ⟨g, 0, none⟩) cap := by
  have hj : j = F.len := by
    have h1 := VPre.len F xs .nil h.pre
    have h2 := h.own.1
    simp [TmL.len] at h1 h2
    omega
  have hz := hw.size
  have hgl := h.lt
  refine ⟨hj, ?_⟩
  subst hj
  refine ⟨Ln.of h.own (fun g' o p e => by injection e with e; injection e with e; subst e; exact .inr ⟨by omega, hgl.2⟩), ?_⟩
  refine VPre.done (S := BGx B W1 wr g) (fun k hk => ?_) g (.inr ⟨by omega, hgl.2⟩) F xs 0 h.pre ?_
  · rcases hk.1 with h1 | h1
    · exact .inl h1
    · exact .inr ⟨by omega, h1.2⟩
  · intro i x hi
    have := h.own.cells (g := g) rfl i x hi
    rw [Nat.zero_add]
    have e : (⟨g, 0, none⟩ : Addr).add i = ⟨g, i, none⟩ := by
      unfold Addr.add; split
      · rename_i h0; rw [h0]
      · simp
    rw [e] at this; exact this
theorem NL.start (F : TmL) (B : Nat) (W1 : World) : NL F B W1 (W1.alloc (.cells #[] 20)) 0 W1.heap.size 0 [] F :=
  ⟨⟨rfl, .inr ⟨W1.heap.size, 0, #[], rfl, Nat.le_refl _, heap_alloc_new W1 _, Nat.le_refl _, by simp [maxLen], rfl, rfl⟩⟩, (VPre_nil _ _).2 rfl, by simp, (Below.refl _ _).alloc (Nat.le_refl _) _⟩
end Go.Proofs.Ytcfcnijldnbbnaa

/- check.narrowList: a list as far as its values are of a type. -/
namespace Go.Proofs.Ytcfcnijldnbbnaa
open Go.RowKit

abbrev n0cells : Array Value := #[.nilIface, .bool false, .bool false]
/-- the box of the answer, written -/
theorem nbox {w W : World} (h : Below (w.alloc (.cells n0cells 80)).heap.size (w.alloc (.cells n0cells 80)) W) :
    W.heap[w.heap.size]? = some (.cells n0cells 80 (0, 0)) ∧ W.cell? ⟨w.heap.size, 0, none⟩ = some .nilIface ∧ W.cell? ⟨w.heap.size, 1, none⟩ = some (.bool false) ∧ W.cell? ⟨w.heap.size, 2, none⟩ = some (.bool false) ∧ W.frozen? ⟨w.heap.size, 0, none⟩ = false ∧ W.frozen? ⟨w.heap.size, 1, none⟩ = false ∧ W.frozen? ⟨w.heap.size, 2, none⟩ = false := by
  have hh : W.heap[w.heap.size]? = some (.cells n0cells 80 (0, 0)) := by
    rw [h.block w.heap.size (by simp)]; exact heap_alloc_new w _
  exact ⟨hh, by rw [cell_of_row _ _ _ _ _ _ hh]; rfl, by rw [cell_of_row _ _ _ _ _ _ hh]; rfl, by rw [cell_of_row _ _ _ _ _ _ hh]; rfl, frozen_of_row _ _ _ _ _ hh, frozen_of_row _ _ _ _ _ hh, frozen_of_row _ _ _ _ _ hh⟩
theorem nbox_same {B : Nat} {w W : World} (hB : B ≤ w.heap.size) (vs : List Value) : Same (BF (Lo B) (w.alloc (.cells n0cells 80)) W) W (setN W w.heap.size 0 vs) := fun k hk => by
  rw [setN_other]
  rcases hk with hk | hk
  · have : k < B := hk
    omega
  · have := hk.1; simp at this; omega
theorem nbox_up {B : Nat} {w W : World} (vs : List Value) : ∀ k, BF (Lo B) (w.alloc (.cells n0cells 80)) W k → BF (Lo B) w (setN W w.heap.size 0 vs) k := fun k hk => by
  rcases hk with hk | hk
  · exact .inl hk
  · exact .inr ⟨by have := hk.1; simp at this; omega, by rw [setN_size]; exact hk.2⟩

theorem cell_one_q (w : World) (x : Value) (t : TypeId) (h : Nat) (e : w.heap.size = h) : ∀ j u, [x][j]? = some u → (w.alloc (.cells #[x] t)).cell? ((⟨h, 0, none⟩ : Addr).add j) = some u := by subst e; exact cell_one_new w x t

set_option maxRecDepth 100000 in
set_option maxHeartbeats 4000000 in
theorem narList_any (t : Ty) (L : TmL) (al : Option Addr) (cl : Nat) (b gp op b' B : Nat) (np cp : Nat) (w : World)
    (HT : ∀ (v : Tm) (x : Value) (W : World), Below w.heap.size w W → v.all.e = 0 → v.V w (Lo B) x → Calls Try.prog 27 #[.pointer (some ⟨b', 0, none⟩), x] W (NarE (t.nar v) B W))
    (hB : B ≤ w.heap.size) (hb : b < B) (hgp : gp < B) (hnp : 0 < np) (c4 : w.cell? ⟨b, 4, none⟩ = some (.slice (some ⟨gp, op, none⟩) np cp)) (c5 : w.cell? ⟨gp, op, none⟩ = some (.pointer (some ⟨b', 0, none⟩)))
    (hL : L.V w (Lo B) al 0) (hgd : L.gd) (hlen : L.len ≤ 16384) :
    Calls Try.prog 52 #[.pointer (some ⟨b, 0, none⟩), .slice al L.len cl] w fun e w' => Below w.heap.size w w' ∧ ∃ a cap, e = .returned (.agg #[.iface 49 (.slice a (Sp.narL t.nar L).1.len cap), .bool true, .bool (Sp.narL t.nar L).2]) ∧ (Sp.narL t.nar L).1.LV w' (BF (Lo B) w w') a cap := by
  obtain ⟨i0, hi, hz0, hz1, hz2⟩ := info_parts Try.infoI
  obtain ⟨W1, hW1⟩ : ∃ W1, w.alloc (.cells n0cells 80) = W1 := ⟨_, rfl⟩
  have hw1 : Below w.heap.size w W1 := hW1 ▸ ((Below.refl _ _).alloc (Nat.le_refl _) _)
  have HW1 : Hid (Below w.heap.size w W1) := hw1
  have HX : Hid (∀ W, Below W1.heap.size W1 W → W.cell? ⟨b, 4, none⟩ = some (.slice (some ⟨gp, op, none⟩) np cp) ∧ W.cell? ⟨gp, op, none⟩ = some (.pointer (some ⟨b', 0, none⟩))) := fun W hW' => by
    have hW := below_to hw1 hW'
    exact ⟨by rw [hW.cell (p := ⟨b, 4, none⟩) (show b < w.heap.size by omega)]; exact c4, by rw [hW.cell (p := ⟨gp, op, none⟩) (show gp < w.heap.size by omega)]; exact c5⟩
  have HTH : Hid (∀ (v : Tm) (x : Value) (W : World), Below W1.heap.size W1 W → v.all.e = 0 → v.V w (Lo B) x → Calls Try.prog 27 #[.pointer (some ⟨b', 0, none⟩), x] W (NarE (t.nar v) B W)) := fun v x W hW => HT v x W (below_to hw1 hW)
  have HC : Hid (∀ W g o v, Below W1.heap.size W1 W → Lo B g → w.cell? ⟨g, o, none⟩ = some v → W.cell? ⟨g, o, none⟩ = some v) := fun W g o v hW hg hc => by rw [(below_to hw1 hW).cell (p := ⟨g, o, none⟩) (Nat.lt_of_lt_of_le hg hB)]; exact hc
  have H0 : Hid (L.V w (Lo B) al 0 ∧ L.gd) := ⟨hL, hgd⟩
  have HNB : Hid (∀ W, Below W1.heap.size W1 W → W.heap[w.heap.size]? = some (.cells n0cells 80 (0, 0)) ∧ W.cell? ⟨w.heap.size, 0, none⟩ = some .nilIface ∧ W.cell? ⟨w.heap.size, 1, none⟩ = some (.bool false) ∧ W.cell? ⟨w.heap.size, 2, none⟩ = some (.bool false) ∧ W.frozen? ⟨w.heap.size, 0, none⟩ = false ∧ W.frozen? ⟨w.heap.size, 1, none⟩ = false ∧ W.frozen? ⟨w.heap.size, 2, none⟩ = false) := by
    rw [← hW1]; exact fun W h => nbox h
  have HBW : Hid (B ≤ W1.heap.size ∧ W1.heap.size = w.heap.size + 1) := by
    have e : W1.heap.size = w.heap.size + 1 := by rw [← hW1]; simp
    exact ⟨by omega, e⟩
  have HS0 : Hid (NL (Sp.narL t.nar L).1 B W1 (W1.alloc (.cells #[] 20)) 0 W1.heap.size 0 [] (Sp.narL t.nar L).1) := NL.start _ _ _
  have HEND : Hid (∀ W vs, Below W1.heap.size W1 W → Below w.heap.size w (setN W w.heap.size 0 vs) ∧ Same (BF (Lo B) W1 W) W (setN W w.heap.size 0 vs) ∧ (∀ k, BF (Lo B) W1 W k → BF (Lo B) w (setN W w.heap.size 0 vs) k)) := fun W vs hW => by
    refine ⟨setN_below (Nat.le_refl _) _ _ _ _ (below_to hw1 hW), ?_, ?_⟩
    · rw [← hW1]; exact nbox_same hB vs
    · rw [← hW1]; exact nbox_up vs
  generalize hF : Sp.narL t.nar L = FF at *
  have HF : Hid (Sp.narL t.nar L = FF) := hF
  obtain ⟨F, FW⟩ := FF
  clear HT hL hgd hb hgp c4 c5 hB hF hw1
  simp only at HS0
  go_enter Try.func52, Try.ntmps52
  go_wp2_with fail
  go_loopw [5, 6, 13] (fun kv wv y wr => ∃ (k j g cap : Nat) (xs : List Value) (l : TmL) (wb : Bool), kv = .slice (some ⟨g, 0, none⟩) j cap ∧ wv = .bool wb ∧ y = .int .i64 k ∧ l.len + k = L.len ∧ j ≤ k ∧ Hid (NL F B W1 wr j g cap xs (Sp.narL t.nar l).1 ∧ l.V w (Lo B) al k ∧ l.gd ∧ (wb && (Sp.narL t.nar l).2) = FW)) (fun _ _ y _ => L.len - (intOf y).toNat)
  case atStart => exact ⟨0, 0, W1.heap.size, 0, [], L, true, rfl, rfl, rfl, rfl, Nat.le_refl _, ⟨by rw [HF.out]; exact HS0.out, H0.out.1, H0.out.2, by rw [HF.out]; simp⟩⟩
  case round =>
    obtain ⟨k, j, g, cap, xs, l, wb, rfl, rfl, rfl, hl, hjk, HK⟩ := hrel
    cases l with
    | nil =>
      have h1 : L.len ≤ k := by simp [TmL.len] at hl; omega
      obtain ⟨hnl, -, -, hwb⟩ := HK.out
      have hwb' : wb = FW := by simpa [Sp.narL] using hwb
      subst hwb'
      have hd := NL.done (w := W1) (Below.refl _ _) hnl
      obtain ⟨rfl, hlv⟩ := hd
      obtain ⟨-, b0, b1, b2, z0, z1, z2⟩ := HNB.out wr hnl.bel
      have HE : Hid (F.LV wr (BF (Lo B) W1 wr) (some ⟨g, 0, none⟩) cap ∧ Below W1.heap.size W1 wr) := ⟨hlv, hnl.bel⟩
      clear hl HK hnl hwb hlv
      go_wp2_with fail
      refine bodyPost_ret (v := .agg #[.iface 49 (.slice (some ⟨g, 0, none⟩) F.len cap), .bool true, .bool wb]) (by simp [results, Try.results52, go_sem, b0, b1, b2]) rfl ?_
      obtain ⟨e1, e2, e3⟩ := HEND.out wr [.iface 49 (.slice (some ⟨g, 0, none⟩) F.len cap), .bool true, .bool wb] HE.out.2
      exact ⟨e1, some ⟨g, 0, none⟩, cap, rfl, F.LV_same e2 e3 _ _ HE.out.1⟩
    | cons v l =>
      obtain ⟨hnl, hV, hg, hwb⟩ := HK.out
      simp only [TmL.V] at hV
      obtain ⟨g1, o1, x1, rfl, hg1, hc, hv, hl'⟩ := hV
      have hk1 : k < L.len := by simp only [TmL.len] at hl; omega
      have HL : Hid (l.len + (k + 1) = L.len) := by show _ = _; simp only [TmL.len] at hl; omega
      have e0 := HC.out wr g1 (o1 + k) x1 hnl.bel hg1 hc
      obtain ⟨e4, e5⟩ := HX.out wr hnl.bel
      have HO := HTH.out v x1 wr hnl.bel hg.1 hv
      have HO : Hid _ := HO
      have hsh := v.V_shape x1 hv
      have HNL : Hid (NL F B W1 wr j g cap xs (Sp.narL t.nar (.cons v l)).1) := hnl
      have HN : Hid (l.V w (Lo B) (some ⟨g1, o1, none⟩) (k + 1) ∧ l.gd) := ⟨hl', hg.2⟩
      have HWB : Hid ((wb && (Sp.narL t.nar (.cons v l)).2) = FW) := hwb
      have hzr := hnl.bel.size
      have hi0 : (0 : Int) ≤ (k : Int) := Int.natCast_nonneg _
      have hi1 : (k : Int) < (L.len : Int) := by omega
      have hn0 : (0 : Int) < (np : Int) := by omega
      clear hl hc hv hl' hg HK hnl hwb
      rcases hsh with rfl | ⟨T, y, rfl⟩
      all_goals
        go_wp2_with fail
        refine (show Calls _ _ _ _ _ from HO.out).mono ?_
        rintro e w1 ⟨hb1, xr, ok, wh, rfl, hR⟩
        have hshr := hR.shape
        have HR : Hid (NarR (t.nar v) ok wh xr B wr w1) := hR
        have HB1 : Hid (Below wr.heap.size wr w1) := hb1
        have hsz1 := hb1.size
        have HB2 : Hid (∀ o, Below wr.heap.size wr (w1.alloc o)) := fun o => HB1.out.alloc HB1.out.size _
        clear hb1 hR
        cases ok with
        | false =>
          have hr0 : t.nar v = none ∧ wh = false ∧ xr = .nilIface := by
            rcases HR.out with ⟨q1, -, q3, q4⟩ | ⟨y, -, q, -⟩
            · exact ⟨q1, q3, q4⟩
            · cases q
          obtain ⟨hr0, rfl, rfl⟩ := hr0
          have HNX : Hid (∀ o, NL F B W1 (w1.alloc o) j g cap xs (Sp.narL t.nar l).1) := fun o => by
            have := HNL.out
            simp only [Sp.narL, hr0] at this
            exact NL.call HBW.out.1 this (HB2.out o)
          have HWX : Hid (FW = false) := by show _ = _; have := HWB.out; simp only [Sp.narL, hr0] at this; simpa using this.symm
          clear HR hshr hr0 HWB HNL
          cases wb
          all_goals
            go_wp2_with fail
            go_roundw
            case rel => exact ⟨k + 1, j, g, cap, xs, l, false, rfl, rfl, by go_num, HL.out, by omega, ⟨HNX.out _, HN.out.1, HN.out.2, by rw [HWX.out]; rfl⟩⟩
            case measure => simp [intOf]; omega
        | true =>
          obtain ⟨yt, hr0, hyv⟩ : ∃ yt, t.nar v = some (yt, wh) ∧ yt.V w1 (BF (Lo B) wr w1) xr := by
            rcases HR.out with ⟨-, q, -⟩ | ⟨y, q1, -, q3⟩
            · cases q
            · exact ⟨y, q1, q3⟩
          have HNX : Hid (NL F B W1 wr j g cap xs (.cons yt (Sp.narL t.nar l).1)) := by
            have := HNL.out
            simp only [Sp.narL, hr0] at this
            exact this
          have HWX : Hid ((wb && (wh && (Sp.narL t.nar l).2)) = FW) := by have := HWB.out; simp only [Sp.narL, hr0] at this; exact this
          have HYV : Hid (∀ o, yt.V (w1.alloc o) (BF (Lo B) wr (w1.alloc o)) xr) := fun o => yt.V_same (fun q hq => Below.heap_alloc _ _ _ (BF.lt (Nat.le_trans HBW.out.1 hzr) HB1.out hq)) (BF.up (Below.refl _ _) ((Below.refl _ _).alloc (Nat.le_refl _) _)) xr hyv
          have hone : ∀ u ∈ [xr], u.oneCell' = true := by
            rcases hshr with rfl | ⟨T0, y0, rfl⟩
            · exact one_nil
            · exact one_iface T0 y0
          have HONE : Hid (∀ u ∈ [xr], u.oneCell' = true) := hone
          clear HR hr0 HWB HNL hyv hone
          cases wb <;> rcases hshr with rfl | ⟨T0, y0, rfl⟩
          all_goals
            go_wp2_with (first | (at_builtin; refine wpList_app _ rfl _ _ 49 rfl W1.heap.size 20 i0 .nilIface 1 16 Try.undL hi hz0 hz1 hz2 rfl (by decide) _ _ xs rfl ((owns_below (HB2.out _) HNX.out.own).alloc _) ⟨w1.heap.size + 1, 0, none⟩ 1 1 [.nilIface] rfl rfl (cell_one_q _ _ _ _ (by simp)) HONE.out (by decide) (by unfold maxLen; omega) (by omega) (by simp; omega) ?_; intro g' cap' w8 hown' hgrow hor) | (at_builtin; refine wpList_app _ rfl _ _ 49 rfl W1.heap.size 20 i0 .nilIface 1 16 Try.undL hi hz0 hz1 hz2 rfl (by decide) _ _ xs rfl ((owns_below (HB2.out _) HNX.out.own).alloc _) ⟨w1.heap.size + 1, 0, none⟩ 1 1 [.iface T0 y0] rfl rfl (cell_one_q _ _ _ _ (by simp)) HONE.out (by decide) (by unfold maxLen; omega) (by omega) (by simp; omega) ?_; intro g' cap' w8 hown' hgrow hor))
            have HN8 := NL.step HBW.out.1 HNX.out (HB2.out _) (HYV.out _) hown' hgrow hor
            go_roundw
            case rel => exact ⟨k + 1, j + 1, g', cap', _, l, _, rfl, rfl, by go_num, HL.out, by omega, ⟨HN8, HN.out.1, HN.out.2, by have := HWX.out; simpa using this⟩⟩
            case measure => simp [intOf]; omega
end Go.Proofs.Ytcfcnijldnbbnaa

/- check.narrowField, check.narrowUnion. -/
namespace Go.Proofs.Ytcfcnijldnbbnaa
open Go.RowKit

/-- what the box of the first one holds -/
structure NU (r : Nar) (x : Value) (ok wh : Bool) (B h : Nat) (wr : World) : Prop where
  box : wr.heap[h]? = some (.cells #[x, .bool ok, .bool wh] 80 (0, 0))
  told : (r = none ∧ ok = false ∧ wh = false ∧ x = .nilIface) ∨ ∃ y, r = some (y, wh) ∧ ok = true ∧ y.V wr (fun k => k < B ∨ (h < k ∧ k < wr.heap.size)) x
theorem NU.later {r : Nar} {x : Value} {ok wh : Bool} {B h : Nat} {wr w2 : World} (hB : B ≤ h) (hu : NU r x ok wh B h wr) (hb : Below wr.heap.size wr w2) : NU r x ok wh B h w2 := by
  have hlt : h < wr.heap.size := (Array.getElem?_eq_some_iff.1 hu.box).1
  refine ⟨(hb.block h hlt).trans hu.box, ?_⟩
  rcases hu.told with q | ⟨y, e1, e2, hv⟩
  · exact .inl q
  · refine .inr ⟨y, e1, e2, y.V_same (fun k hk => hb.block k ?_) (fun k hk => ?_) x hv⟩
    · rcases hk with hk | hk
      · omega
      · exact hk.2
    · rcases hk with hk | hk
      · exact .inl hk
      · exact .inr ⟨hk.1, Nat.lt_of_lt_of_le hk.2 hb.size⟩

section
variable (t : Ty) (B b b' gp op np cp : Nat) (w : World)
set_option maxRecDepth 100000 in
set_option maxHeartbeats 4000000 in
theorem narField_in (i : Nat) (v : Tm) (x : Value) (HT : ∀ W, Below w.heap.size w W → Calls Try.prog 27 #[.pointer (some ⟨b', 0, none⟩), x] W (NarE (t.nar v) B W))
    (hB : B ≤ w.heap.size) (hb : b < B) (hgp : gp < B) (hi : i < np) (c4 : w.cell? ⟨b, 4, none⟩ = some (.slice (some ⟨gp, op, none⟩) np cp)) (c5 : w.cell? ⟨gp, op + i, none⟩ = some (.pointer (some ⟨b', 0, none⟩))) (hsh : x = .nilIface ∨ ∃ T y, x = .iface T y) :
    Calls Try.prog 78 #[.pointer (some ⟨b, 0, none⟩), .int .i64 (i : Int), x] w (NarE (t.nar v) B w) := by
  obtain ⟨W1, hW1⟩ : ∃ W1, w.alloc (.cells n0cells 80) = W1 := ⟨_, rfl⟩
  have hw1 : Below w.heap.size w W1 := hW1 ▸ ((Below.refl _ _).alloc (Nat.le_refl _) _)
  have d4 : W1.cell? ⟨b, 4, none⟩ = some (.slice (some ⟨gp, op, none⟩) np cp) := by rw [hw1.cell (p := ⟨b, 4, none⟩) (show b < w.heap.size by omega)]; exact c4
  have d5 : W1.cell? ⟨gp, op + i, none⟩ = some (.pointer (some ⟨b', 0, none⟩)) := by rw [hw1.cell (p := ⟨gp, op + i, none⟩) (show gp < w.heap.size by omega)]; exact c5
  have HO := HT W1 hw1
  have HO : Hid _ := HO
  have HNB : Hid (∀ W, Below W1.heap.size W1 W → W.cell? ⟨w.heap.size, 0, none⟩ = some .nilIface ∧ W.cell? ⟨w.heap.size, 1, none⟩ = some (.bool false) ∧ W.cell? ⟨w.heap.size, 2, none⟩ = some (.bool false) ∧ W.frozen? ⟨w.heap.size, 0, none⟩ = false ∧ W.frozen? ⟨w.heap.size, 1, none⟩ = false ∧ W.frozen? ⟨w.heap.size, 2, none⟩ = false) := by
    rw [← hW1]; exact fun W h => (nbox h).2
  have HEND : Hid (∀ W vs, Below W1.heap.size W1 W → Below w.heap.size w (setN W w.heap.size 0 vs) ∧ Same (BF (Lo B) W1 W) W (setN W w.heap.size 0 vs) ∧ (∀ k, BF (Lo B) W1 W k → BF (Lo B) w (setN W w.heap.size 0 vs) k)) := fun W vs hW => by
    refine ⟨setN_below (Nat.le_refl _) _ _ _ _ (below_to hw1 hW), ?_, ?_⟩
    · rw [← hW1]; exact nbox_same hB vs
    · rw [← hW1]; exact nbox_up vs
  have hi0 : (0 : Int) ≤ (i : Int) := Int.natCast_nonneg _
  have hi1 : (i : Int) < (np : Int) := by omega
  clear HT hB hb hgp c4 c5 hw1 hi
  rcases hsh with rfl | ⟨T, y, rfl⟩
  all_goals
    go_enter Try.func78, Try.ntmps78
    go_wp2_with fail
    refine (show Calls _ _ _ _ _ from HO.out).mono ?_
    rintro e w1 ⟨hb1, xr, ok, wh, rfl, hR⟩
    obtain ⟨b0, b1, b2, z0, z1, z2⟩ := HNB.out w1 hb1
    have hshr := hR.shape
    have HR : Hid (NarR (t.nar v) ok wh xr B W1 w1 ∧ Below W1.heap.size W1 w1) := ⟨hR, hb1⟩
    clear hR hb1
    rcases hshr with rfl | ⟨T0, y0, rfl⟩
    · go_wp2_with fail
      refine bodyPost_ret (v := .agg #[.nilIface, .bool ok, .bool wh]) (by simp [results, Try.results78, go_sem, b0, b1, b2]) rfl ?_
      obtain ⟨e1, e2, e3⟩ := HEND.out w1 [.nilIface, .bool ok, .bool wh] HR.out.2
      refine ⟨e1, .nilIface, ok, wh, rfl, ?_⟩
      rcases HR.out.1 with q | ⟨y, q1, q2, q3⟩
      · exact .inl q
      · exact .inr ⟨y, q1, q2, y.V_same e2 e3 _ q3⟩
    · go_wp2_with fail
      refine bodyPost_ret (v := .agg #[.iface T0 y0, .bool ok, .bool wh]) (by simp [results, Try.results78, go_sem, b0, b1, b2]) rfl ?_
      obtain ⟨e1, e2, e3⟩ := HEND.out w1 [.iface T0 y0, .bool ok, .bool wh] HR.out.2
      refine ⟨e1, .iface T0 y0, ok, wh, rfl, ?_⟩
      rcases HR.out.1 with q | ⟨y, q1, q2, q3⟩
      · exact .inl q
      · exact .inr ⟨y, q1, q2, y.V_same e2 e3 _ q3⟩
set_option maxRecDepth 100000 in
set_option maxHeartbeats 4000000 in
theorem narField_out (opn : Bool) (v : Tm) (x : Value) (hB : B ≤ w.heap.size) (hb : b < B) (c7 : w.cell? ⟨b, 7, none⟩ = some (.bool opn)) (hv : v.V w (Lo B) x) :
    Calls Try.prog 78 #[.pointer (some ⟨b, 0, none⟩), .int .i64 (-1), x] w (NarE (if opn then some (v, true) else none) B w) := by
  obtain ⟨W1, hW1⟩ : ∃ W1, w.alloc (.cells n0cells 80) = W1 := ⟨_, rfl⟩
  have hw1 : Below w.heap.size w W1 := hW1 ▸ ((Below.refl _ _).alloc (Nat.le_refl _) _)
  have d7 : W1.cell? ⟨b, 7, none⟩ = some (.bool opn) := by rw [hw1.cell (p := ⟨b, 7, none⟩) (show b < w.heap.size by omega)]; exact c7
  obtain ⟨b0, b1, b2, z0, z1, z2⟩ : W1.cell? ⟨w.heap.size, 0, none⟩ = some .nilIface ∧ W1.cell? ⟨w.heap.size, 1, none⟩ = some (.bool false) ∧ W1.cell? ⟨w.heap.size, 2, none⟩ = some (.bool false) ∧ W1.frozen? ⟨w.heap.size, 0, none⟩ = false ∧ W1.frozen? ⟨w.heap.size, 1, none⟩ = false ∧ W1.frozen? ⟨w.heap.size, 2, none⟩ = false := by
    rw [← hW1]; exact (nbox (Below.refl _ _)).2
  have HEND : Hid (∀ vs, Below w.heap.size w (setN W1 w.heap.size 0 vs) ∧ v.V (setN W1 w.heap.size 0 vs) (BF (Lo B) w (setN W1 w.heap.size 0 vs)) x) := fun vs => by
    have hbl := setN_below (Nat.le_refl w.heap.size) vs _ _ 0 hw1
    exact ⟨hbl, v.V_same (fun k hk => hbl.block k (Nat.lt_of_lt_of_le hk hB)) (fun k hk => .inl hk) x hv⟩
  have hsh := v.V_shape x hv
  clear hB hb c7 hv hw1
  cases opn with
  | false =>
    rcases hsh with rfl | ⟨T, y, rfl⟩
    all_goals
      go_enter Try.func78, Try.ntmps78
      go_wp2_with fail
      refine bodyPost_ret (v := .agg #[.nilIface, .bool false, .bool false]) (by simp [results, Try.results78, go_sem, b0, b1, b2]) rfl ?_
      exact ⟨(HEND.out [.nilIface, .bool false, .bool false]).1, .nilIface, false, false, rfl, .inl ⟨by simp, rfl, rfl, rfl⟩⟩
  | true =>
    rcases hsh with rfl | ⟨T, y, rfl⟩
    · go_enter Try.func78, Try.ntmps78
      go_wp2_with fail
      refine bodyPost_ret (v := .agg #[.nilIface, .bool true, .bool true]) (by simp [results, Try.results78, go_sem, b0, b1, b2]) rfl ?_
      exact ⟨(HEND.out [.nilIface, .bool true, .bool true]).1, .nilIface, true, true, rfl, .inr ⟨v, by simp, rfl, (HEND.out [.nilIface, .bool true, .bool true]).2⟩⟩
    · go_enter Try.func78, Try.ntmps78
      go_wp2_with fail
      refine bodyPost_ret (v := .agg #[.iface T y, .bool true, .bool true]) (by simp [results, Try.results78, go_sem, b0, b1, b2]) rfl ?_
      exact ⟨(HEND.out [.iface T y, .bool true, .bool true]).1, .iface T y, true, true, rfl, .inr ⟨v, by simp, rfl, (HEND.out [.iface T y, .bool true, .bool true]).2⟩⟩
end
end Go.Proofs.Ytcfcnijldnbbnaa

/- check.narrowUnion: the value itself, if it is of any part; else what the first part has of it. -/
namespace Go.Proofs.Ytcfcnijldnbbnaa
open Go.RowKit

/-- writing into a box from which nothing of the value lies -/
theorem NU.V_set {y : Tm} {x : Value} {B h q : Nat} {W : World} (hq : q = h ∨ q + 1 = h) (hB : B + 1 ≤ h) (vs : List Value) (hv : y.V W (fun k => k < B ∨ (h < k ∧ k < W.heap.size)) x) :
    y.V (setN W q 0 vs) (fun k => k < B ∨ (h < k ∧ k < (setN W q 0 vs).heap.size)) x := by
  refine y.V_same (fun k hk => setN_other (by omega) vs W 0) (fun k hk => ?_) x hv
  rw [setN_size]; exact hk
theorem NU.of_call {y : Tm} {x : Value} {B h : Nat} {wr w1 : World} (o : Obj) (hh : h < wr.heap.size) (hB : B ≤ wr.heap.size) (hb : Below wr.heap.size wr w1) (hv : y.V w1 (BF (Lo B) wr w1) x) : y.V (w1.alloc o) (fun k => k < B ∨ (h < k ∧ k < (w1.alloc o).heap.size)) x := by
  refine y.V_same (fun k hk => Below.heap_alloc _ _ _ (BF.lt hB hb hk)) (fun k hk => ?_) x hv
  rcases hk with hk | hk
  · exact .inl hk
  · exact .inr ⟨by have := hk.1; omega, by have := hk.2; simp; omega⟩
theorem setN_box {W : World} {q : Nat} {cur : Array Value} {T : TypeId} (a b c : Value) (h : W.heap[q]? = some (.cells cur T (0, 0))) (hs : cur.size = 3) : (setN W q 0 [a, b, c]).heap[q]? = some (.cells #[a, b, c] T (0, 0)) := by
  match cur, hs with
  | ⟨[x, y, z]⟩, _ =>
    simp only [setN]
    have h1 := heap_setCell_same W q 0 _ _ a h
    have h2 := heap_setCell_same _ q 1 _ _ b h1
    have h3 := heap_setCell_same _ q 2 _ _ c h2
    rw [h3]; rfl

set_option maxRecDepth 100000 in
set_option maxHeartbeats 4000000 in
theorem narUnion_any (N : Nat) (HC : NarC N) (p : TyL) (hN : p.sz ≤ N) (hok : p.ok = true) (v : Tm) (x : Value) (b B : Nat) (ap : Option Addr) (cp : Nat) (w : World) (hg : v.all.e = 0) (hB : B ≤ w.heap.size) (hb : b < B) (hv : v.V w (Lo B) x)
    (c4 : w.cell? ⟨b, 4, none⟩ = some (.slice ap p.len cp)) (hp : p.Sh w (Lo B) ap 0) (hpl : p.len ≤ 70368744177664) :
    Calls Try.prog 54 #[.pointer (some ⟨b, 0, none⟩), x] w (NarE (p.narU v none) B w) := by
  obtain ⟨W2, hW2⟩ : ∃ W2, (w.alloc (.cells n0cells 80)).alloc (.cells n0cells 80) = W2 := ⟨_, rfl⟩
  have hw2 : Below w.heap.size w W2 := hW2 ▸ (((Below.refl _ _).alloc (Nat.le_refl _) _).alloc (by simp) _)
  have r1 : W2.heap[w.heap.size]? = some (.cells n0cells 80 (0, 0)) := by
    rw [← hW2, heap_alloc_old _ _ (by simp)]; exact heap_alloc_new w _
  have r2 : W2.heap[w.heap.size + 1]? = some (.cells n0cells 80 (0, 0)) := by
    have := heap_alloc_new (w.alloc (.cells n0cells 80)) (.cells n0cells 80)
    rw [← hW2]; simpa using this
  have HS0 : Hid (NU none .nilIface false false B (w.heap.size + 1) W2 ∧ W2.heap[w.heap.size]? = some (.cells n0cells 80 (0, 0)) ∧ Below w.heap.size w W2) := ⟨⟨r2, .inl ⟨rfl, rfl, rfl, rfl⟩⟩, r1, hw2⟩
  have d4 : W2.cell? ⟨b, 4, none⟩ = some (.slice ap p.len cp) := by rw [hw2.cell (p := ⟨b, 4, none⟩) (show b < w.heap.size by omega)]; exact c4
  have HSm : Hid (∀ W, Below w.heap.size w W → Same (Lo B) w W ∧ B ≤ W.heap.size) := fun W hW => ⟨fun k hk => hW.block k (Nat.lt_of_lt_of_le hk hB), Nat.le_trans hB hW.size⟩
  have HO : Hid (∀ (t : Ty) (b' : Nat) W, Below w.heap.size w W → t.sz ≤ N → t.ok = true → t.Sh w (Lo B) b' → Calls Try.prog 27 #[.pointer (some ⟨b', 0, none⟩), x] W (NarE (t.nar v) B W)) := fun t b' W hW htN htk hts =>
    HC t htN htk v x b' B W hg (v.V_same (HSm.out W hW).1 (fun _ h => h) x hv) (t.Sh_same (HSm.out W hW).1 (fun _ h => h) b' hts) (HSm.out W hW).2
  have HBB : Hid (B ≤ w.heap.size) := hB
  have HP0 : Hid (p.Sh w (Lo B) ap 0) := hp
  have hxs := v.V_shape x hv
  obtain ⟨RES, HRES⟩ : ∃ RES : Nar, Hid (p.narU v none = RES) := ⟨_, show _ = _ from rfl⟩
  rw [HRES.out]
  clear HC hg hb hv c4 hp hw2 r1 r2 hB
  rcases hxs with rfl | ⟨T, y, rfl⟩
  all_goals
    go_enter Try.func54, Try.ntmps54
    go_wp2_with fail
    go_loopw [14] (fun i wr => ∃ (k : Nat) (l : TyL) (r0 : Nar) (x0 : Value) (ok0 wh0 : Bool), i = .int .i64 k ∧ l.len + k = p.len ∧ l.sz ≤ N ∧ Hid (NU r0 x0 ok0 wh0 B (w.heap.size + 1) wr ∧ wr.heap[w.heap.size]? = some (.cells n0cells 80 (0, 0)) ∧ Below w.heap.size w wr ∧ l.Sh w (Lo B) ap k ∧ l.ok = true ∧ l.narU v r0 = RES)) (fun i _ => p.len - (intOf i).toNat)
    case atStart => exact ⟨0, p, none, .nilIface, false, false, rfl, rfl, hN, ⟨HS0.out.1, HS0.out.2.1, HS0.out.2.2, HP0.out, hok, HRES.out⟩⟩
    case round =>
      obtain ⟨k, l, r0, x0, ok0, wh0, rfl, hl, hlN, HK⟩ := hrel
      obtain ⟨hnu, hrb, hbw, hsh, hlok, hres⟩ := HK.out
      have hx0 : x0 = .nilIface ∨ ∃ T y, x0 = .iface T y := by
        rcases hnu.told with ⟨-, -, -, rfl⟩ | ⟨y, -, -, hv⟩
        · exact .inl rfl
        · exact y.V_shape x0 hv
      have b0 : wr.cell? ⟨w.heap.size, 0, none⟩ = some .nilIface := by rw [cell_of_row _ _ _ _ _ _ hrb]; rfl
      have b1 : wr.cell? ⟨w.heap.size, 1, none⟩ = some (.bool false) := by rw [cell_of_row _ _ _ _ _ _ hrb]; rfl
      have b2 : wr.cell? ⟨w.heap.size, 2, none⟩ = some (.bool false) := by rw [cell_of_row _ _ _ _ _ _ hrb]; rfl
      have z0 : wr.frozen? ⟨w.heap.size, 0, none⟩ = false := frozen_of_row _ _ _ _ _ hrb
      have z1 : wr.frozen? ⟨w.heap.size, 1, none⟩ = false := frozen_of_row _ _ _ _ _ hrb
      have z2 : wr.frozen? ⟨w.heap.size, 2, none⟩ = false := frozen_of_row _ _ _ _ _ hrb
      cases l with
      | nil =>
        have h1 : p.len ≤ k := by simp [TyL.len] at hl; omega
        have f0 : wr.cell? ⟨w.heap.size + 1, 0, none⟩ = some x0 := by rw [cell_of_row _ _ _ _ _ _ hnu.box]; rfl
        have f1 : wr.cell? ⟨w.heap.size + 1, 1, none⟩ = some (.bool ok0) := by rw [cell_of_row _ _ _ _ _ _ hnu.box]; rfl
        have f2 : wr.cell? ⟨w.heap.size + 1, 2, none⟩ = some (.bool wh0) := by rw [cell_of_row _ _ _ _ _ _ hnu.box]; rfl
        have hr : r0 = RES := by simpa [TyL.narU] using hres
        have HE : Hid (NarE RES B w (.returned (.agg #[x0, .bool ok0, .bool wh0])) (setN wr w.heap.size 0 [x0, .bool ok0, .bool wh0])) := by
          refine ⟨setN_below (Nat.le_refl _) _ _ _ _ hbw, x0, ok0, wh0, rfl, ?_⟩
          rw [← hr]
          rcases hnu.told with q | ⟨y, q1, q2, q3⟩
          · exact .inl q
          · refine .inr ⟨y, q1, q2, y.V_same (Same.refl _ _) (fun k hk => ?_) x0 (NU.V_set (.inr rfl) (by have := HBB.out; omega) [x0, .bool ok0, .bool wh0] q3)⟩
            rcases hk with hk | hk
            · exact .inl hk
            · exact .inr ⟨by omega, hk.2⟩
        clear hl HK hnu hrb hbw hsh hlok hres hr
        rcases hx0 with rfl | ⟨T0, y0, rfl⟩
        · go_wp2_with fail
          refine bodyPost_ret (v := .agg #[.nilIface, .bool ok0, .bool wh0]) (by simp [results, Try.results54, go_sem, b0, b1, b2]) rfl ?_
          exact HE.out
        · go_wp2_with fail
          refine bodyPost_ret (v := .agg #[.iface T0 y0, .bool ok0, .bool wh0]) (by simp [results, Try.results54, go_sem, b0, b1, b2]) rfl ?_
          exact HE.out
      | cons t l =>
        simp only [TyL.Sh] at hsh
        obtain ⟨g1, o1, b', rfl, hg1, hc, hts, hl'⟩ := hsh
        simp only [TyL.ok, Bool.and_eq_true] at hlok
        have hk1 : k < p.len := by simp only [TyL.len] at hl; omega
        have htN : t.sz ≤ N ∧ l.sz ≤ N := by simp [TyL.sz] at hlN; omega
        have HL : Hid (l.len + (k + 1) = p.len) := by show _ = _; simp only [TyL.len] at hl; omega
        have e0 : wr.cell? ⟨g1, o1 + k, none⟩ = some (.pointer (some ⟨b', 0, none⟩)) := by rw [(HSm.out wr hbw).1.cell (p := ⟨g1, o1 + k, none⟩) hg1]; exact hc
        have HOC := HO.out t b' wr hbw htN.1 hlok.1 hts
        have HOC : Hid _ := HOC
        have HNU : Hid (NU r0 x0 ok0 wh0 B (w.heap.size + 1) wr ∧ wr.heap[w.heap.size]? = some (.cells n0cells 80 (0, 0)) ∧ Below w.heap.size w wr) := ⟨hnu, hrb, hbw⟩
        have HN : Hid (l.Sh w (Lo B) (some ⟨g1, o1, none⟩) (k + 1) ∧ l.ok = true) := ⟨hl', hlok.2⟩
        have HRS : Hid ((TyL.cons t l).narU v r0 = RES) := hres
        have hlt1 : w.heap.size + 1 < wr.heap.size := (Array.getElem?_eq_some_iff.1 hnu.box).1
        have hi0 : (0 : Int) ≤ (k : Int) := Int.natCast_nonneg _
        have hi1 : (k : Int) < (p.len : Int) := by omega
        have hok0 : (ok0 = false ∧ r0 = none ∧ x0 = .nilIface ∧ wh0 = false) ∨ (ok0 = true ∧ ∃ q, r0 = some q) := by
          rcases hnu.told with ⟨q, q', q2, q3⟩ | ⟨y, q, q', -⟩
          · exact .inl ⟨q', q, q3, q2⟩
          · exact .inr ⟨q', _, q⟩
        clear hl hlN HK hnu hrb hbw hc hts hl' hlok hres hg1
        go_wp2_with fail
        refine (show Calls _ _ _ _ _ from HOC.out).mono ?_
        rintro e w1 ⟨hb1, xr, ok, wh, rfl, hR⟩
        have hshr := hR.shape
        have HB3 : Hid (∀ o, Below wr.heap.size wr (w1.alloc o)) := fun o => hb1.alloc hb1.size _
        have HB1 : Hid (Below wr.heap.size wr w1) := hb1
        have HU3 : Hid (∀ o, NU r0 x0 ok0 wh0 B (w.heap.size + 1) (w1.alloc o) ∧ (w1.alloc o).heap[w.heap.size]? = some (.cells n0cells 80 (0, 0)) ∧ Below w.heap.size w (w1.alloc o)) := fun o =>
          ⟨NU.later (by have := HBB.out; omega) HNU.out.1 (HB3.out o), ((HB3.out o).block _ (by omega)).trans HNU.out.2.1, below_to HNU.out.2.2 (HB3.out o)⟩
        have HR : Hid (NarR (t.nar v) ok wh xr B wr w1) := hR
        have hs1 := hb1.size
        have hbx : ∀ o, (w1.alloc o).heap[w.heap.size + 1]? = some (.cells #[x0, .bool ok0, .bool wh0] 80 (0, 0)) := fun o => ((HB3.out o).block (w.heap.size + 1) hlt1).trans HNU.out.1.box
        have hbr : ∀ o, (w1.alloc o).heap[w.heap.size]? = some (.cells n0cells 80 (0, 0)) := fun o => ((HB3.out o).block w.heap.size (by omega)).trans HNU.out.2.1
        have a0 : ∀ o, (w1.alloc o).cell? ⟨w.heap.size, 0, none⟩ = some .nilIface := fun o => by rw [cell_of_row _ _ _ _ _ _ (hbr o)]; rfl
        have a1 : ∀ o, (w1.alloc o).cell? ⟨w.heap.size, 1, none⟩ = some (.bool false) := fun o => by rw [cell_of_row _ _ _ _ _ _ (hbr o)]; rfl
        have a2 : ∀ o, (w1.alloc o).cell? ⟨w.heap.size, 2, none⟩ = some (.bool false) := fun o => by rw [cell_of_row _ _ _ _ _ _ (hbr o)]; rfl
        have y0' : ∀ o, (w1.alloc o).frozen? ⟨w.heap.size, 0, none⟩ = false := fun o => frozen_of_row _ _ _ _ _ (hbr o)
        have y1' : ∀ o, (w1.alloc o).frozen? ⟨w.heap.size, 1, none⟩ = false := fun o => frozen_of_row _ _ _ _ _ (hbr o)
        have y2' : ∀ o, (w1.alloc o).frozen? ⟨w.heap.size, 2, none⟩ = false := fun o => frozen_of_row _ _ _ _ _ (hbr o)
        have f0 : ∀ o, (w1.alloc o).cell? ⟨w.heap.size + 1, 0, none⟩ = some x0 := fun o => by rw [cell_of_row _ _ _ _ _ _ (hbx o)]; rfl
        have f1 : ∀ o, (w1.alloc o).cell? ⟨w.heap.size + 1, 1, none⟩ = some (.bool ok0) := fun o => by rw [cell_of_row _ _ _ _ _ _ (hbx o)]; rfl
        have f2 : ∀ o, (w1.alloc o).cell? ⟨w.heap.size + 1, 2, none⟩ = some (.bool wh0) := fun o => by rw [cell_of_row _ _ _ _ _ _ (hbx o)]; rfl
        have g0 : ∀ o, (w1.alloc o).frozen? ⟨w.heap.size + 1, 0, none⟩ = false := fun o => frozen_of_row _ _ _ _ _ (hbx o)
        have g1' : ∀ o, (w1.alloc o).frozen? ⟨w.heap.size + 1, 1, none⟩ = false := fun o => frozen_of_row _ _ _ _ _ (hbx o)
        have g2 : ∀ o, (w1.alloc o).frozen? ⟨w.heap.size + 1, 2, none⟩ = false := fun o => frozen_of_row _ _ _ _ _ (hbx o)
        clear hb1 hR hbx hbr b0 b1 b2 z0 z1 z2
        cases wh with
        | true =>
          obtain ⟨yt, hr0, hokt, hyv⟩ : ∃ yt, t.nar v = some (yt, true) ∧ ok = true ∧ yt.V w1 (BF (Lo B) wr w1) xr := by
            rcases HR.out with ⟨-, -, q, -⟩ | ⟨y, q1, q2, q3⟩
            · cases q
            · exact ⟨y, q1, q2, q3⟩
          subst hokt
          have HE : Hid (∀ o, NarE RES B w (.returned (.agg #[xr, .bool true, .bool true])) (setN (w1.alloc o) w.heap.size 0 [xr, .bool true, .bool true])) := fun o => by
            refine ⟨setN_below (Nat.le_refl _) _ _ _ _ (HU3.out o).2.2, xr, true, true, rfl, .inr ⟨yt, ?_, rfl, ?_⟩⟩
            · rw [← HRS.out]; simp only [TyL.narU, hr0]
            · have q3 := NU.of_call o (h := w.heap.size + 1) hlt1 (Nat.le_trans HBB.out (by omega)) HB1.out hyv
              refine yt.V_same (Same.refl _ _) (fun k hk => ?_) xr (NU.V_set (.inr rfl) (by have := HBB.out; omega) [xr, .bool true, .bool true] q3)
              rcases hk with hk | hk
              · exact .inl hk
              · exact .inr ⟨by omega, hk.2⟩
          clear HR hr0 hyv HRS
          rcases hshr with rfl | ⟨T0, y0, rfl⟩
          · go_wp2_with fail
            refine bodyPost_ret (v := .agg #[.nilIface, .bool true, .bool true]) (by simp [results, Try.results54, go_sem, a0, a1, a2]) rfl ?_
            exact HE.out _
          · go_wp2_with fail
            refine bodyPost_ret (v := .agg #[.iface T0 y0, .bool true, .bool true]) (by simp [results, Try.results54, go_sem, a0, a1, a2]) rfl ?_
            exact HE.out _
        | false =>
          cases ok with
          | false =>
            have hr0 : t.nar v = none ∧ xr = .nilIface := by
              rcases HR.out with ⟨q1, -, -, q4⟩ | ⟨y, -, q, -⟩
              · exact ⟨q1, q4⟩
              · cases q
            obtain ⟨hr0, rfl⟩ := hr0
            have HRX : Hid (l.narU v r0 = RES) := by show _ = _; rw [← HRS.out]; simp only [TyL.narU, hr0]
            clear HR hr0 HRS hshr
            go_wp2_with fail
            go_roundw
            case rel => exact ⟨k + 1, l, r0, x0, ok0, wh0, by go_num, HL.out, htN.2, ⟨(HU3.out _).1, (HU3.out _).2.1, (HU3.out _).2.2, HN.out.1, HN.out.2, HRX.out⟩⟩
            case measure => simp [intOf]; omega
          | true =>
            obtain ⟨yt, hr0, hyv⟩ : ∃ yt, t.nar v = some (yt, false) ∧ yt.V w1 (BF (Lo B) wr w1) xr := by
              rcases HR.out with ⟨-, q, -⟩ | ⟨y, q1, -, q3⟩
              · cases q
              · exact ⟨y, q1, q3⟩
            rcases hok0 with ⟨rfl, rfl, rfl, rfl⟩ | ⟨rfl, q, rfl⟩
            · have HRX : Hid (l.narU v (some (yt, false)) = RES) := by show _ = _; rw [← HRS.out]; simp only [TyL.narU, hr0]
              have HSX : Hid (∀ o, NU (some (yt, false)) xr true false B (w.heap.size + 1) (setN (w1.alloc o) (w.heap.size + 1) 0 [xr, .bool true, .bool false]) ∧ (setN (w1.alloc o) (w.heap.size + 1) 0 [xr, .bool true, .bool false]).heap[w.heap.size]? = some (.cells n0cells 80 (0, 0)) ∧ Below w.heap.size w (setN (w1.alloc o) (w.heap.size + 1) 0 [xr, .bool true, .bool false])) := fun o => by
                refine ⟨⟨setN_box _ _ _ (HU3.out o).1.box rfl, .inr ⟨yt, rfl, rfl, NU.V_set (.inl rfl) (by have := HBB.out; omega) _ (NU.of_call o (h := w.heap.size + 1) hlt1 (Nat.le_trans HBB.out (by omega)) HB1.out hyv)⟩⟩, ?_, setN_below (by omega) _ _ _ _ (HU3.out o).2.2⟩
                rw [setN_other (by omega)]; exact (HU3.out o).2.1
              clear HR hr0 HRS hyv
              rcases hshr with rfl | ⟨T0, y0, rfl⟩
              all_goals
                go_wp2_with fail
                go_roundw
                case rel => exact ⟨k + 1, l, some (yt, false), _, true, false, by go_num, HL.out, htN.2, ⟨(HSX.out _).1, (HSX.out _).2.1, (HSX.out _).2.2, HN.out.1, HN.out.2, HRX.out⟩⟩
                case measure => simp [intOf]; omega
            · have HRX : Hid (l.narU v (some q) = RES) := by show _ = _; rw [← HRS.out]; simp only [TyL.narU, hr0]
              clear HR hr0 HRS hyv
              rcases hshr with rfl | ⟨T0, y0, rfl⟩
              all_goals
                go_wp2_with fail
                go_roundw
                case rel => exact ⟨k + 1, l, some q, x0, true, wh0, by go_num, HL.out, htN.2, ⟨(HU3.out _).1, (HU3.out _).2.1, (HU3.out _).2.2, HN.out.1, HN.out.2, HRX.out⟩⟩
                case measure => simp [intOf]; omega
end Go.Proofs.Ytcfcnijldnbbnaa

/- Plain mathematics: a dict's fields as far as they are of a dict's type, told as steps, one behind the other. -/
namespace Go.Proofs.Ytcfcnijldnbbnaa

def TmF.app : TmF → TmF → TmF
  | .nil, r => r
  | .cons m x l, r => .cons m x (l.app r)
theorem TmF.app_nil : (l : TmF) → l.app .nil = l
  | .nil => rfl
  | .cons m x l => by simp only [TmF.app, TmF.app_nil l]

abbrev NSt := Option (Option (ByteArray × Tm) × Bool)
/-- one step: none ends it with nothing; what is kept, and whether it is whole -/
def Sp.nstep (op : Bool) (KS : List Bool) (fs : List (Tm → Nar)) (nm : List ByteArray) (vs : TmL) (x : Int × Int) : NSt :=
  if x.2 < 0 then (if (KS[x.1.toNat]?).getD false then some (none, true) else none)
  else match nm[x.2.toNat]?, vs.get x.2.toNat with
    | some m, some v =>
      if x.1 < 0 then (if op then some (some (m, v), true) else some (none, false))
      else match fs[x.1.toNat]? with
        | some f => match f v with
          | some (y, wh) => some (some (m, y), wh)
          | none => if (KS[x.1.toNat]?).getD false then some (none, false) else none
        | none => none
    | _, _ => none
def Sp.foldN (g : Int × Int → NSt) : List (Int × Int) → Option (TmF × Bool)
  | [] => some (.nil, true)
  | x :: l => match g x with
    | none => none
    | some (some (m, y), wh) => Sp.keepF m (some (y, wh)) (Sp.foldN g l)
    | some (none, wh) => (Sp.foldN g l).map fun r => (r.1, wh && r.2)
theorem Sp.foldN_app (g : Int × Int → NSt) : (pre l : List (Int × Int)) → Sp.foldN g (pre ++ l) = (Sp.foldN g pre).bind fun a => (Sp.foldN g l).map fun r => (a.1.app r.1, a.2 && r.2)
  | [], l => by cases h : Sp.foldN g l <;> simp [Sp.foldN, TmF.app, h]
  | x :: pre, l => by
    simp only [List.cons_append, Sp.foldN, Sp.foldN_app g pre l]
    cases g x with
    | none => rfl
    | some q =>
      obtain ⟨o, wh⟩ := q
      cases o with
      | none => cases Sp.foldN g pre <;> cases Sp.foldN g l <;> simp [Bool.and_assoc]
      | some my =>
        obtain ⟨m, y⟩ := my
        cases Sp.foldN g pre <;> cases Sp.foldN g l <;> simp [Sp.keepF, TmF.app, Bool.and_assoc]
theorem Sp.foldN_keep {g : Int × Int → NSt} {pre : List (Int × Int)} {A : TmF} {wb : Bool} (h : Sp.foldN g pre = some (A, wb)) {x : Int × Int} {m : ByteArray} {y : Tm} {wh : Bool} (hx : g x = some (some (m, y), wh)) : Sp.foldN g (pre ++ [x]) = some (A.app (.cons m y .nil), wb && wh) := by
  rw [Sp.foldN_app, h]; simp [Sp.foldN, hx, Sp.keepF]
theorem Sp.foldN_skip {g : Int × Int → NSt} {pre : List (Int × Int)} {A : TmF} {wb : Bool} (h : Sp.foldN g pre = some (A, wb)) {x : Int × Int} {wh : Bool} (hx : g x = some (none, wh)) : Sp.foldN g (pre ++ [x]) = some (A, wb && wh) := by
  rw [Sp.foldN_app, h]
  have := TmF.app_nil A
  simp [Sp.foldN, hx, this]
theorem Sp.foldN_stop {g : Int × Int → NSt} {x : Int × Int} (hx : g x = none) : (l : List (Int × Int)) → x ∈ l → Sp.foldN g l = none
  | [], h => by cases h
  | y :: l, h => by
    simp only [Sp.foldN]
    rcases List.mem_cons.1 h with rfl | h
    · rw [hx]
    · rw [Sp.foldN_stop hx l h]
      cases g y with
      | none => rfl
      | some q =>
        obtain ⟨o, wh⟩ := q
        cases o with
        | none => rfl
        | some my => obtain ⟨m, y⟩ := my; rfl
theorem Sp.keepF_none (m : ByteArray) (r : Option (TmF × Bool)) : Sp.keepF m none r = r.map fun r => (r.1, false && r.2) := by cases r <;> simp [Sp.keepF]
theorem Sp.map_true (r : Option (TmF × Bool)) : (r.map fun r => (r.1, true && r.2)) = r := by cases r <;> simp
theorem Sp.narD_mrg (op : Bool) (KS : List Bool) (FS : List (Tm → Nar)) (NM : List ByteArray) (L : TmL) : (N : Nat) → ∀ (i j : Nat) (ns : List ByteArray) (ks : List Bool) (fs : List (Tm → Nar)) (l : TmF), ks.length = ns.length → fs.length = ns.length →
    (∀ k, KS[i + k]? = ks[k]?) → (∀ k, FS[i + k]? = fs[k]?) → (∀ k, L.get (j + k) = l.vals.get k) → (∀ k, NM[j + k]? = l.names[k]?) →
    Sp.narD op N ns ks fs l = Sp.foldN (Sp.nstep op KS FS NM L) (Sp.mrg N i j ns l.names)
  | 0, i, j, ns, ks, fs, l, _, _, _, _, _, _ => by simp [Sp.narD, Sp.mrg, Sp.foldN]
  | N + 1, i, j, [], ks, fs, .nil, _, _, _, _, _, _ => by simp [Sp.narD, Sp.mrg, Sp.foldN, TmF.names]
  | N + 1, i, j, [], ks, fs, .cons m x l, h1, h2, h3, h4, h5, h6 => by
    have hks : ks = [] := by simpa using h1
    have hfs : fs = [] := by simpa using h2
    subst hks; subst hfs
    have q5 := h5 0
    have q6 := h6 0
    simp [TmF.vals, TmL.get, TmF.names] at q5 q6
    have n2 : ¬ ((j : Int) < 0) := by omega
    have e1 : Sp.nstep op KS FS NM L (-1, (j : Int)) = if op then some (some (m, x), true) else some (none, false) := by
      simp only [Sp.nstep, if_neg n2, Int.toNat_natCast, q5, q6]; rfl
    have ih := Sp.narD_mrg op KS FS NM L N i (j + 1) [] [] [] l rfl rfl h3 h4 (fun k => by rw [show j + 1 + k = j + (k + 1) by omega, h5]; rfl) (fun k => by rw [show j + 1 + k = j + (k + 1) by omega, h6]; rfl)
    simp only [Sp.narD, TmF.names, Sp.mrg, Sp.foldN, e1, ih]
    cases op with
    | false => simp [Sp.keepF_none]
    | true => simp
  | N + 1, i, j, n :: ns, [], fs, l, h1, _, _, _, _, _ => by simp at h1
  | N + 1, i, j, n :: ns, k :: ks, [], l, _, h2, _, _, _, _ => by simp at h2
  | N + 1, i, j, n :: ns, k :: ks, f :: fs, .nil, h1, h2, h3, h4, h5, h6 => by
    have q3 := h3 0
    simp at q3
    have e1 : Sp.nstep op KS FS NM L ((i : Int), -1) = if k then some (none, true) else none := by
      simp [Sp.nstep, q3]
    have ih := Sp.narD_mrg op KS FS NM L N (i + 1) j ns ks fs .nil (by simpa using h1) (by simpa using h2) (fun q => by rw [show i + 1 + q = i + (q + 1) by omega, h3]; rfl) (fun q => by rw [show i + 1 + q = i + (q + 1) by omega, h4]; rfl) h5 h6
    simp only [TmF.names] at ih
    simp only [Sp.narD, TmF.names, Sp.mrg, Sp.foldN, e1, ih]
    cases k with
    | false => simp
    | true => simp only [if_true, Sp.map_true]
  | N + 1, i, j, n :: ns, k :: ks, f :: fs, .cons m x l, h1, h2, h3, h4, h5, h6 => by
    have q3 := h3 0
    have q4 := h4 0
    have q5 := h5 0
    have q6 := h6 0
    simp [TmF.vals, TmL.get, TmF.names] at q3 q4 q5 q6
    have n1 : ¬ ((i : Int) < 0) := by omega
    have n2 : ¬ ((j : Int) < 0) := by omega
    have eA : Sp.nstep op KS FS NM L ((i : Int), -1) = if k then some (none, true) else none := by simp [Sp.nstep, q3]
    have eB : Sp.nstep op KS FS NM L (-1, (j : Int)) = if op then some (some (m, x), true) else some (none, false) := by
      simp only [Sp.nstep, if_neg n2, Int.toNat_natCast, q5, q6]; rfl
    have eC : Sp.nstep op KS FS NM L ((i : Int), (j : Int)) = match f x with | some (y, wh) => some (some (m, y), wh) | none => if k then some (none, false) else none := by
      simp only [Sp.nstep, if_neg n1, if_neg n2, Int.toNat_natCast, q3, q4, q5, q6]; rfl
    simp only [Sp.narD, TmF.names, Sp.mrg]
    by_cases c1 : Sp.cmpS n m < 0
    · rw [if_pos c1, if_pos c1]
      have ih := Sp.narD_mrg op KS FS NM L N (i + 1) j ns ks fs (.cons m x l) (by simpa using h1) (by simpa using h2) (fun q => by rw [show i + 1 + q = i + (q + 1) by omega, h3]; rfl) (fun q => by rw [show i + 1 + q = i + (q + 1) by omega, h4]; rfl) h5 h6
      simp only [TmF.names] at ih
      simp only [Sp.foldN, eA, ih]
      cases k with
      | false => simp
      | true => simp only [if_true, Sp.map_true]
    · rw [if_neg c1, if_neg c1]
      by_cases c2 : 0 < Sp.cmpS n m
      · rw [if_pos c2, if_pos c2]
        have ih := Sp.narD_mrg op KS FS NM L N i (j + 1) (n :: ns) (k :: ks) (f :: fs) l h1 h2 h3 h4 (fun k => by rw [show j + 1 + k = j + (k + 1) by omega, h5]; rfl) (fun k => by rw [show j + 1 + k = j + (k + 1) by omega, h6]; rfl)
        simp only [Sp.foldN, eB, ih]
        cases op with
        | false => simp [Sp.keepF_none]
        | true => simp
      · rw [if_neg c2, if_neg c2]
        have ih := Sp.narD_mrg op KS FS NM L N (i + 1) (j + 1) ns ks fs l (by simpa using h1) (by simpa using h2) (fun q => by rw [show i + 1 + q = i + (q + 1) by omega, h3]; rfl) (fun q => by rw [show i + 1 + q = i + (q + 1) by omega, h4]; rfl) (fun k => by rw [show j + 1 + k = j + (k + 1) by omega, h5]; rfl) (fun k => by rw [show j + 1 + k = j + (k + 1) by omega, h6]; rfl)
        simp only [Sp.foldN, eC, ih]
        cases f x with
        | none =>
          cases k with
          | false => simp
          | true => simp [Sp.keepF_none]
        | some r => obtain ⟨y, wh⟩ := r; rfl
end Go.Proofs.Ytcfcnijldnbbnaa

