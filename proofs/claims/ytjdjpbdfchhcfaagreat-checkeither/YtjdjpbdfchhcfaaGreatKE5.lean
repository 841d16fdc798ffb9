/- tenonmake.Dict: the dict of entries, in new memory. -/
import Derived.Test.YtjdjpbdfchhcfaaGreatKE4
import Derived.Test.YtjdjpbdfchhcfaaGreatKE3
import Derived.Deep.RegionHeld3
import Derived.Deep.AppendLies
import Derived.StillTactics
namespace Go.Proofs.YtjdjpbdfchhcfaaGreat
open Go.RowKit

structure FL (L : TmF) (w : World) (B : Nat → Prop) (al : Option Addr) (wr : World) (j g cap : Nat) (xs : List Value) (l : TmF) : Prop where
  len : l.len + j = L.len
  src : l.In w B al j
  own : wr.ownsRow w.heap.size 126 2 (.slice (some ⟨g, 0, none⟩) j cap) j xs
  pre : FPre wr (Own w.heap.size wr g) L xs l
  lt : w.heap.size ≤ g ∧ g < wr.heap.size
  bel : Below w.heap.size w wr

theorem FL.step {L : TmF} {w : World} {B : Nat → Prop} {al : Option Addr} {wr : World} {j g cap : Nat} {xs : List Value} {n : ByteArray} {t : Tm} {l : TmF} (h : FL L w B al wr j g cap xs (.cons n t l)) {w1 w3 : World} {o : Obj} {x : Value} {g' cap' : Nat}
    (hb : Below wr.heap.size wr w1) (hx : t.V w1 (Fr wr w1) x) (ho : w3.ownsRow w.heap.size 126 2 (.slice (some ⟨g', 0, none⟩) (j + 1) cap') (j + 1) (xs ++ [.string n, x])) (hg : (w1.alloc o).grownBy w3 (some g)) (hor : some g = some g' ∨ g' = (w1.alloc o).heap.size) :
    FL L w B al w3 (j + 1) g' cap' (xs ++ [.string n, x]) l := by
  have hz1 := hb.size
  have hz3 := hg.size
  have hza : (w1.alloc o).heap.size = w1.heap.size + 1 := by simp
  have hlt := ho.lt g' rfl
  have hsrc := h.src
  simp only [TmF.In] at hsrc
  obtain ⟨_, _, _, _, _, _, hn, _, _, hl⟩ := hsrc
  have h31 : ∀ k, k < w1.heap.size → k ≠ g → w3.heap[k]? = w1.heap[k]? := fun k hk hne => by
    rw [hg.block k (by omega) (by simpa using hne)]; exact Below.heap_alloc _ _ _ hk
  have hS : Same (Own w.heap.size wr g) wr w3 := fun k hk => by rw [h31 k (by have := hk.2.1; omega) hk.2.2]; exact hb.block k hk.2.1
  have hS1 : Same (Fr wr w1) w1 w3 := fun k hk => h31 k hk.2 (by have := hk.1; have := h.lt; omega)
  have hg' : ∀ k, k < w1.heap.size → k ≠ g → k ≠ g' := fun k hk hne e => by
    rcases hor with e' | e'
    · injection e' with e'; omega
    · omega
  refine ⟨?_, hl, ho, ?_, hlt, ?_⟩
  · have := h.len; simp [TmF.len] at this; omega
  · refine FPre.snoc L xs n t l x (FPre.same hS (fun k hk => ⟨hk.1, by have := hk.2.1; omega, hg' k (by have := hk.2.1; omega) hk.2.2⟩) L xs _ h.pre) (by unfold maxLen; omega) (t.V_same hS1 (fun k hk => ⟨?_, ?_, ?_⟩) x hx)
    · have := hk.1; have := h.lt; omega
    · have := hk.2; omega
    · exact hg' k hk.2 (by have := hk.1; have := h.lt; omega)
  · have hb1 : Below w.heap.size w (w1.alloc o) := (h.bel.trans (hb.mono h.bel.size)).alloc (by have := h.bel.size; omega) _
    exact hb1.grown hg (by have := h.bel.size; omega) (fun k e => by injection e with e; have := h.lt; omega)

theorem FL.done {L : TmF} {w : World} {B : Nat → Prop} {al : Option Addr} {wr : World} {j g cap : Nat} {xs : List Value} (h : FL L w B al wr j g cap xs .nil) (hj : j = L.len) : L.LV wr (Fr w wr) (some ⟨g, 0, none⟩) cap := by
  subst hj
  refine ⟨Ln.of h.own (fun g' o p e => by injection e with e; injection e with e; subst e; exact ⟨by have := h.lt; omega, h.lt.2⟩), ?_⟩
  refine FPre.done (S := Own w.heap.size wr g) (fun k hk => ⟨by have := hk.1; omega, hk.2.1⟩) g ⟨by have := h.lt; omega, h.lt.2⟩ L xs 0 h.pre ?_
  intro i x hi
  have := h.own.cells (g := g) rfl i x hi
  rw [Nat.zero_mul, Nat.zero_add]
  have e : (⟨g, 0, none⟩ : Addr).add i = ⟨g, i, none⟩ := by
    unfold Addr.add; split
    · rename_i h0; rw [h0]
    · simp
  rw [e] at this; exact this

theorem two_iface (s : ByteArray) (T : Nat) (x : Value) : ∀ u ∈ [Value.string s, Value.iface T x], u.oneCell' = true := fun u hu => by simp at hu; rcases hu with rfl | rfl <;> rfl
theorem two_nil (s : ByteArray) : ∀ u ∈ [Value.string s, Value.nilIface], u.oneCell' = true := fun u hu => by simp at hu; rcases hu with rfl | rfl <;> rfl

theorem Tm.V_nil {w : World} {S : Nat → Prop} {t : Tm} {v : Value} (hk : t.kind = 1) (h : t.V w S v) : v = .nilIface := by
  cases t; simp only [Tm.V] at h; exact h.1 hk
theorem Tm.V_iface {w : World} {S : Nat → Prop} {t : Tm} {v : Value} (hk : t.kind ≠ 1) (h : t.V w S v) : ∃ T x, v = .iface T x := by
  cases t with
  | mk k b i f tx by' rf l fs c vr =>
    rcases Tm.V_shape _ _ h with rfl | h'
    · exfalso
      simp only [Tm.V] at h
      obtain ⟨h1, h2, h3, h4, h5, h6, h7, h8, h9, h10, h11, h12⟩ := h
      have k1 : ¬ k = 1 := hk
      have k2 : ¬ k = 2 := fun e => by simpa using h2 e
      have k3 : ¬ k = 3 := fun e => by simpa using h3 e
      have k4 : ¬ k = 4 := fun e => by simpa using (h4 e).1
      have k5 : ¬ k = 5 := fun e => by simpa using (h5 e).1
      have k6 : ¬ k = 6 := fun e => by obtain ⟨_, _, e', _⟩ := h6 e; simp at e'
      have k7 : ¬ k = 7 := fun e => by simpa using h7 e
      have k8 : ¬ k = 8 := fun e => by obtain ⟨_, _, e', _⟩ := h8 e; simp at e'
      have k9 : ¬ k = 9 := fun e => by obtain ⟨_, _, e', _⟩ := h9 e; simp at e'
      have k10 : ¬ k = 10 := fun e => by obtain ⟨_, _, _, e', _⟩ := h10 e; simp at e'
      have k11 : ¬ k = 11 := fun e => by simpa using h11 e
      obtain ⟨T, x, e, _⟩ := h12 (k_alien k1 k2 k3 k4 k5 k6 k7 k8 k9 k10 k11)
      simp at e
    · exact h'

theorem BuiltC.nil {N : Nat} (HC : BuiltC N) {t : Tm} (hN : t.sz ≤ N) {cs : Array Value} {B : Nat → Prop} {w : World} (h : t.In w B cs) (hB : Sub B w) (hk : t.kind = 1) :
    ∀ W, Below w.heap.size w W → Calls Tryz.prog 14 #[.agg cs] W fun e w' => e = .returned .nilIface ∧ Below W.heap.size W w' ∧ t.V w' (Fr W w') .nilIface := by
  intro W hW
  refine (HC.at hN h hB W hW).mono ?_
  rintro e w' ⟨v, rfl, hb, hv, _⟩
  obtain rfl := Tm.V_nil hk hv
  exact ⟨rfl, hb, hv⟩
theorem BuiltC.iface {N : Nat} (HC : BuiltC N) {t : Tm} (hN : t.sz ≤ N) {cs : Array Value} {B : Nat → Prop} {w : World} (h : t.In w B cs) (hB : Sub B w) (hk : t.kind ≠ 1) :
    ∀ W, Below w.heap.size w W → Calls Tryz.prog 14 #[.agg cs] W fun e w' => ∃ T x, e = .returned (.iface T x) ∧ Below W.heap.size W w' ∧ t.V w' (Fr W w') (.iface T x) := by
  intro W hW
  refine (HC.at hN h hB W hW).mono ?_
  rintro e w' ⟨v, rfl, hb, hv, _⟩
  obtain ⟨T, x, rfl⟩ := Tm.V_iface hk hv
  exact ⟨T, x, rfl, hb, hv⟩

set_option maxRecDepth 100000 in
set_option maxHeartbeats 2000000 in
theorem dict_made (N : Nat) (HC : BuiltC N) (al : Option Addr) (L : TmF) (cl : Nat) (w : World) (hN : L.sz ≤ N) (B : Nat → Prop) (hB : Sub B w) (hL : L.In w B al 0) (hlen : L.len * 168 ≤ 140737488355328) :
    Calls Tryz.prog 33 #[.slice al L.len cl] w fun e w' => ∃ a cap, e = .returned (.slice a L.len cap) ∧ Below w.heap.size w w' ∧ L.LV w' (Fr w w') a cap := by
  obtain ⟨i0, hi, hz0, hz1', hz2⟩ := info_parts Tryz.infoF
  have HCH : Hid (BuiltC N) := HC
  clear HC
  have H0 : Hid (FL L w B al (w.alloc (.cells #[] 126)) 0 w.heap.size 0 [] L) :=
    ⟨rfl, hL, ⟨rfl, .inr ⟨w.heap.size, 0, #[], rfl, Nat.le_refl _, heap_alloc_new w _, Nat.le_refl _, by simp [maxLen], rfl, rfl⟩⟩, (FPre_nil _ _).2 rfl, by simp, (Below.refl _ _).alloc (Nat.le_refl _) _⟩
  clear hL
  go_enter Tryz.func33, Tryz.ntmps33
  go_wp2_with fail
  go_loopw [3, 4] (fun v x wr => ∃ (j g cap : Nat) (xs : List Value) (l : TmF), v = .slice (some ⟨g, 0, none⟩) j cap ∧ x = .int .i64 j ∧ j ≤ L.len ∧ l.sz ≤ N ∧ Hid (FL L w B al wr j g cap xs l)) (fun _ x _ => L.len - (intOf x).toNat)
  case atStart => exact ⟨0, w.heap.size, 0, [], L, rfl, rfl, by omega, hN, H0⟩
  case round =>
    obtain ⟨j, g, cap, xs, l, rfl, rfl, hj, hlN, HR⟩ := hrel
    cases l with
    | nil =>
      have hjl : L.len ≤ j := by have := HR.out.len; simp [TmF.len] at this; omega
      go_wp2_with fail
      go_ret
      have e : j = L.len := by omega
      subst e
      exact ⟨_, _, rfl, HR.out.bel, HR.out.done rfl⟩
    | cons nm t l =>
      have hsrc := HR.out.src
      simp only [TmF.In] at hsrc
      obtain ⟨g1, o1, cs, rfl, hg1, cn, hnl, hc, ht, _⟩ := hsrc
      have hg1 := hB _ hg1
      have hlt : j < L.len := by have := HR.out.len; simp [TmF.len] at this; omega
      have htN : t.sz ≤ N ∧ l.sz ≤ N := by simp [TmF.sz] at hlN; omega
      have hw0 := HR.out.bel
      have hgl := HR.out.lt
      have dn : wr.cell? ⟨g1, o1 + j * 12, none⟩ = some (.string nm) := by rw [hw0.cell (p := ⟨g1, o1 + j * 12, none⟩) (by show g1 < _; omega)]; exact cn
      cases t with
      | mk k b' i' f' tx' by' rf' l' fs' c' vr' =>
        have ht' := ht
        simp only [Tm.In] at ht'
        obtain ⟨ab', cb', al', cl', af', cf', rfl, _⟩ := ht'
        obtain ⟨e0, e1, e2, e3, e4, e5, e6, e7, e8, e9, e10⟩ := eleven (w := wr) (g := g1) (o := o1 + j * 12 + 1) (fun x hx => by rw [hw0.cell (p := ⟨g1, o1 + j * 12 + 1 + x, none⟩) (by show g1 < _; omega)]; exact hc x hx)
        have HB0 : Hid (Below w.heap.size w wr) := hw0
        have hji0 : (0 : Int) ≤ (j : Int) := Int.natCast_nonneg _
        have hji1 : (j : Int) < (L.len : Int) := by omega
        have hszr := HB0.out.size
        have HS : Hid (∀ W, Below w.heap.size w W → W.cell? ⟨g1, o1 + j * 12, none⟩ = some (.string nm) ∧ W.cell? ⟨g1, o1 + j * 12 + 1, none⟩ = some (.int .i64 k) ∧ W.cell? ⟨g1, o1 + j * 12 + 1 + 1, none⟩ = some (.bool b') ∧ W.cell? ⟨g1, o1 + j * 12 + 1 + 2, none⟩ = some (.int .i64 i') ∧ W.cell? ⟨g1, o1 + j * 12 + 1 + 3, none⟩ = some (.float .f64 f') ∧ W.cell? ⟨g1, o1 + j * 12 + 1 + 4, none⟩ = some (.string tx') ∧ W.cell? ⟨g1, o1 + j * 12 + 1 + 5, none⟩ = some (.slice ab' by'.size cb') ∧ W.cell? ⟨g1, o1 + j * 12 + 1 + 6, none⟩ = some (.int .u64 rf') ∧ W.cell? ⟨g1, o1 + j * 12 + 1 + 7, none⟩ = some (.slice al' l'.len cl') ∧ W.cell? ⟨g1, o1 + j * 12 + 1 + 8, none⟩ = some (.slice af' fs'.len cf') ∧ W.cell? ⟨g1, o1 + j * 12 + 1 + 9, none⟩ = some (.string c') ∧ W.cell? ⟨g1, o1 + j * 12 + 1 + 10, none⟩ = some (.int .i64 vr')) := fun W hW => by
          have hh : ∀ o, W.cell? ⟨g1, o, none⟩ = wr.cell? ⟨g1, o, none⟩ := fun o => by
            rw [hW.cell (p := ⟨g1, o, none⟩) (by show g1 < _; omega), hw0.cell (p := ⟨g1, o, none⟩) (by show g1 < _; omega)]
          simp only [hh]
          exact ⟨dn, e0, e1, e2, e3, e4, e5, e6, e7, e8, e9, e10⟩
        by_cases hk1 : k = 1
        · have HCT := HCH.out.nil htN.1 ht hB hk1
          unfold tcells at HCT
          have HCT : Hid _ := HCT
          clear hw0 hc ht hlN cn hk1 dn e0 e1 e2 e3 e4 e5 e6 e7 e8 e9 e10
          go_wp2_with fail
          go_region_held3 (fun W => W.cell? ⟨g1, o1 + j * 12, none⟩ = some (.string nm) ∧ W.cell? ⟨g1, o1 + j * 12 + 1, none⟩ = some (.int .i64 k) ∧ W.cell? ⟨g1, o1 + j * 12 + 1 + 1, none⟩ = some (.bool b') ∧ W.cell? ⟨g1, o1 + j * 12 + 1 + 2, none⟩ = some (.int .i64 i') ∧ W.cell? ⟨g1, o1 + j * 12 + 1 + 3, none⟩ = some (.float .f64 f') ∧ W.cell? ⟨g1, o1 + j * 12 + 1 + 4, none⟩ = some (.string tx') ∧ W.cell? ⟨g1, o1 + j * 12 + 1 + 5, none⟩ = some (.slice ab' by'.size cb') ∧ W.cell? ⟨g1, o1 + j * 12 + 1 + 6, none⟩ = some (.int .u64 rf') ∧ W.cell? ⟨g1, o1 + j * 12 + 1 + 7, none⟩ = some (.slice al' l'.len cl') ∧ W.cell? ⟨g1, o1 + j * 12 + 1 + 8, none⟩ = some (.slice af' fs'.len cf') ∧ W.cell? ⟨g1, o1 + j * 12 + 1 + 9, none⟩ = some (.string c') ∧ W.cell? ⟨g1, o1 + j * 12 + 1 + 10, none⟩ = some (.int .i64 vr'))
            (first | exact HS.out _ HB0.out | exact HS.out _ HB0.out.drew | exact HS.out _ HB1.out | exact HS.out _ (HB1.out.alloc hz1 _) | exact HS.out _ HN.out.bel)
            ((first | (go_at_call 14; refine (HCT.out _ ?_).mono ?_; exact HB0.out.drew; rintro e w1 ⟨rfl, hb1', hx⟩; have hb1 : Below wr.heap.size wr w1 := (Below.refl _ _).drew.trans hb1'; have hz1 : w.heap.size ≤ w1.heap.size := Nat.le_trans hszr hb1.size; have HB1 : Hid (Below w.heap.size w w1) := HB0.out.trans (hb1.mono hszr)) | (refine step_append_lies _ (by rfl) _ _ _ (by rfl) w.heap.size 126 i0 _ 2 32 Tryz.undD hi hz0 hz1' hz2 rfl (by omega) _ j xs (by rfl) ((owns_below hb1 HR.out.own).alloc _) ⟨w1.heap.size, 0, none⟩ 1 1 [.string nm, .nilIface] (by rfl) (by rfl) (cell_two_new _ _ _ _) (two_nil nm) (by omega) (by unfold maxLen; omega) (by omega) (by simp; omega) (w1.heap.size + 1) (by simp) ?_; intro g' cap' w3 hown' hgrow hor hlt3; have HN : Hid (FL L w B (some ⟨g1, o1, none⟩) w3 (j + 1) g' cap' (xs ++ [.string nm, .nilIface]) l) := HR.out.step hb1 hx hown' hgrow (by simpa [Value.ownBlock] using hor))))
          go_wp2_with fail
          go_roundw
          case rel => exact ⟨j + 1, g', cap', _, l, rfl, by go_num, by omega, htN.2, HN⟩
          case measure => simp [intOf]; omega
        · have HCT := HCH.out.iface htN.1 ht hB hk1
          unfold tcells at HCT
          have HCT : Hid _ := HCT
          clear hw0 hc ht hlN cn hk1 dn e0 e1 e2 e3 e4 e5 e6 e7 e8 e9 e10
          go_wp2_with fail
          go_region_held3 (fun W => W.cell? ⟨g1, o1 + j * 12, none⟩ = some (.string nm) ∧ W.cell? ⟨g1, o1 + j * 12 + 1, none⟩ = some (.int .i64 k) ∧ W.cell? ⟨g1, o1 + j * 12 + 1 + 1, none⟩ = some (.bool b') ∧ W.cell? ⟨g1, o1 + j * 12 + 1 + 2, none⟩ = some (.int .i64 i') ∧ W.cell? ⟨g1, o1 + j * 12 + 1 + 3, none⟩ = some (.float .f64 f') ∧ W.cell? ⟨g1, o1 + j * 12 + 1 + 4, none⟩ = some (.string tx') ∧ W.cell? ⟨g1, o1 + j * 12 + 1 + 5, none⟩ = some (.slice ab' by'.size cb') ∧ W.cell? ⟨g1, o1 + j * 12 + 1 + 6, none⟩ = some (.int .u64 rf') ∧ W.cell? ⟨g1, o1 + j * 12 + 1 + 7, none⟩ = some (.slice al' l'.len cl') ∧ W.cell? ⟨g1, o1 + j * 12 + 1 + 8, none⟩ = some (.slice af' fs'.len cf') ∧ W.cell? ⟨g1, o1 + j * 12 + 1 + 9, none⟩ = some (.string c') ∧ W.cell? ⟨g1, o1 + j * 12 + 1 + 10, none⟩ = some (.int .i64 vr'))
            (first | exact HS.out _ HB0.out | exact HS.out _ HB0.out.drew | exact HS.out _ HB1.out | exact HS.out _ (HB1.out.alloc hz1 _) | exact HS.out _ HN.out.bel)
            ((first | (go_at_call 14; refine (HCT.out _ ?_).mono ?_; exact HB0.out.drew; rintro e w1 ⟨T, y, rfl, hb1', hx⟩; have hb1 : Below wr.heap.size wr w1 := (Below.refl _ _).drew.trans hb1'; have hz1 : w.heap.size ≤ w1.heap.size := Nat.le_trans hszr hb1.size; have HB1 : Hid (Below w.heap.size w w1) := HB0.out.trans (hb1.mono hszr)) | (refine step_append_lies _ (by rfl) _ _ _ (by rfl) w.heap.size 126 i0 _ 2 32 Tryz.undD hi hz0 hz1' hz2 rfl (by omega) _ j xs (by rfl) ((owns_below hb1 HR.out.own).alloc _) ⟨w1.heap.size, 0, none⟩ 1 1 [.string nm, .iface T y] (by rfl) (by rfl) (cell_two_new _ _ _ _) (two_iface nm T y) (by omega) (by unfold maxLen; omega) (by omega) (by simp; omega) (w1.heap.size + 1) (by simp) ?_; intro g' cap' w3 hown' hgrow hor hlt3; have HN : Hid (FL L w B (some ⟨g1, o1, none⟩) w3 (j + 1) g' cap' (xs ++ [.string nm, .iface T y]) l) := HR.out.step hb1 hx hown' hgrow (by simpa [Value.ownBlock] using hor))))
          go_wp2_with fail
          go_roundw
          case rel => exact ⟨j + 1, g', cap', _, l, rfl, by go_num, by omega, htN.2, HN⟩
          case measure => simp [intOf]; omega
end Go.Proofs.YtjdjpbdfchhcfaaGreat

