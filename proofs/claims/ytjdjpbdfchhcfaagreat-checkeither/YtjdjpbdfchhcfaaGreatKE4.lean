/- tenonmake.Alien: whatever number it is given, a value of a type that has no kind. -/
import Derived.Test.YtjdjpbdfchhcfaaGreatKE2
import Derived.MapKept
namespace Go.Proofs.YtjdjpbdfchhcfaaGreat
open Go.RowKit

theorem ins_a (w : World) : ∃ w', (Instr.mapUpdate 127 (.map (some w.heap.size)) (.string ⟨#[97]⟩) (.int .i64 1)).run Tryz.prog (w.alloc (.map #[] 0)) = .ok () w' ∧ Below w.heap.size w w' := by
  have hu : Tryz.prog.underlying 127 = some (.map 9 3) := by kernel_rfl
  have hs : Tryz.prog.underlying 9 = some .string := by kernel_rfl
  have hg : (w.alloc (.map #[] 0)).heap[w.heap.size]? = some (.map #[] 0) := heap_alloc_new w _
  refine ⟨{ (w.alloc (.map #[] 0)) with heap := (w.alloc (.map #[] 0)).heap.setIfInBounds w.heap.size (.map #[{ key := .string ⟨#[97]⟩, val := .int .i64 1, born := 0 }] 1) }, ?_, ?_⟩
  · have h1 : Instr.findNow .string (.string ⟨#[97]⟩) [] 0 = some none := rfl
    simp [Instr.mapUpdate, run_underlying hu, MapKept.run_getObj_map hg, MapKept.run_checkKey hs (show MapKept.IsKey .string (.string ⟨#[97]⟩) from trivial), MapKept.run_findKey hs h1, MapKept.run_setObj_map _ hg, Result.andThen]
  · refine ⟨rfl, rfl, rfl, by simp, fun k hk => ?_⟩
    simp only [Array.getElem?_setIfInBounds]
    rw [if_neg (by omega)]
    exact Below.heap_alloc _ _ _ hk

set_option maxRecDepth 100000 in
set_option maxHeartbeats 400000 in
theorem alien_any (n : Int) (w : World) (_h0 : -9223372036854775808 ≤ n) (_h1 : n ≤ 9223372036854775807) :
    Calls Tryz.prog 34 #[.int .i64 n] w fun e w' => ∃ T x, e = .returned (.iface T x) ∧ Alien T ∧ Below w.heap.size w w' := by
  have hmm := @run_makeMap Tryz.prog
  obtain ⟨wm, hm, hbm⟩ := ins_a w
  go_enter Tryz.func34, Tryz.ntmps34
  go_wp2
  all_goals first | (go_ret; refine ⟨_, _, rfl, by unfold Alien; decide, ?_⟩; first | exact hbm | exact Below.refl _ _ | exact (Below.refl _ _).alloc (Nat.le_refl _) _)
end Go.Proofs.YtjdjpbdfchhcfaaGreat

/- tenonmake.Built and tenonmake.Dict: the value of a term, in new memory. -/
namespace Go.Proofs.YtjdjpbdfchhcfaaGreat
open Go.RowKit

section
variable (b : Bool) (i : Int) (f : Nat) (tx : ByteArray) (vb : Value) (rf : Int) (vl vf : Value) (c : ByteArray) (vr : Int) (w : World)
set_option maxRecDepth 100000 in
set_option maxHeartbeats 400000 in
theorem built_1 : Calls Tryz.prog 14 #[.agg (tcells 1 b i f tx vb rf vl vf c vr)] w fun e w' => e = .returned .nilIface ∧ Below w.heap.size w w' := by
  unfold tcells
  go_enter Tryz.func14, Tryz.ntmps14
  go_wp2_with fail
  go_ret
  exact ⟨rfl, (Below.refl _ _).alloc (Nat.le_refl _) _⟩
set_option maxRecDepth 100000 in
set_option maxHeartbeats 400000 in
theorem built_2 : Calls Tryz.prog 14 #[.agg (tcells 2 b i f tx vb rf vl vf c vr)] w fun e w' => e = .returned (.iface 4 (.bool b)) ∧ Below w.heap.size w w' := by
  unfold tcells
  go_enter Tryz.func14, Tryz.ntmps14
  go_wp2_with fail
  go_ret
  exact ⟨rfl, (Below.refl _ _).alloc (Nat.le_refl _) _⟩
set_option maxRecDepth 100000 in
set_option maxHeartbeats 400000 in
theorem built_3 : Calls Tryz.prog 14 #[.agg (tcells 3 b i f tx vb rf vl vf c vr)] w fun e w' => e = .returned (.iface 2 (.int .i64 i)) ∧ Below w.heap.size w w' := by
  unfold tcells
  go_enter Tryz.func14, Tryz.ntmps14
  go_wp2_with fail
  go_ret
  exact ⟨rfl, (Below.refl _ _).alloc (Nat.le_refl _) _⟩
set_option maxRecDepth 100000 in
set_option maxHeartbeats 400000 in
theorem built_4 : Calls Tryz.prog 14 #[.agg (tcells 4 b i f tx vb rf vl vf c vr)] w fun e w' => e = .returned (.iface 22 (.float .f64 f)) ∧ Below w.heap.size w w' := by
  unfold tcells
  go_enter Tryz.func14, Tryz.ntmps14
  go_wp2_with fail
  go_ret
  exact ⟨rfl, (Below.refl _ _).alloc (Nat.le_refl _) _⟩
set_option maxRecDepth 100000 in
set_option maxHeartbeats 400000 in
theorem built_5 : Calls Tryz.prog 14 #[.agg (tcells 5 b i f tx vb rf vl vf c vr)] w fun e w' => e = .returned (.iface 9 (.string tx)) ∧ Below w.heap.size w w' := by
  unfold tcells
  go_enter Tryz.func14, Tryz.ntmps14
  go_wp2_with fail
  go_ret
  exact ⟨rfl, (Below.refl _ _).alloc (Nat.le_refl _) _⟩
set_option maxRecDepth 100000 in
set_option maxHeartbeats 400000 in
theorem built_7 : Calls Tryz.prog 14 #[.agg (tcells 7 b i f tx vb rf vl vf c vr)] w fun e w' => e = .returned (.iface 25 (.int .u64 rf)) ∧ Below w.heap.size w w' := by
  unfold tcells
  go_enter Tryz.func14, Tryz.ntmps14
  go_wp2_with fail
  go_ret
  exact ⟨rfl, (Below.refl _ _).alloc (Nat.le_refl _) _⟩
set_option maxRecDepth 100000 in
set_option maxHeartbeats 400000 in
theorem built_11 : Calls Tryz.prog 14 #[.agg (tcells 11 b i f tx vb rf vl vf c vr)] w fun e w' => e = .returned (.iface 75 (.pointer none)) ∧ Below w.heap.size w w' := by
  unfold tcells
  go_enter Tryz.func14, Tryz.ntmps14
  go_wp2_with fail
  go_ret
  exact ⟨rfl, (Below.refl _ _).alloc (Nat.le_refl _) _⟩
set_option maxRecDepth 100000 in
set_option maxHeartbeats 400000 in
theorem built_alien (k : Int) (hk : k < 1 ∨ 11 < k) (h0 : -9223372036854775808 ≤ i) (h1 : i ≤ 9223372036854775807) : Calls Tryz.prog 14 #[.agg (tcells k b i f tx vb rf vl vf c vr)] w fun e w' => ∃ T x, e = .returned (.iface T x) ∧ Alien T ∧ Below w.heap.size w w' := by
  have b1 : (k == 1) = false := by simp; omega
  have b2 : (k == 2) = false := by simp; omega
  have b3 : (k == 3) = false := by simp; omega
  have b4 : (k == 4) = false := by simp; omega
  have b5 : (k == 5) = false := by simp; omega
  have b6 : (k == 6) = false := by simp; omega
  have b7 : (k == 7) = false := by simp; omega
  have b8 : (k == 8) = false := by simp; omega
  have b9 : (k == 9) = false := by simp; omega
  have b10 : (k == 10) = false := by simp; omega
  have b11 : (k == 11) = false := by simp; omega
  clear hk
  unfold tcells
  go_enter Tryz.func14, Tryz.ntmps14
  go_wp2_with (go_at_call 34; refine (alien_any _ _ h0 h1).mono ?_; rintro e w1 ⟨T, x, rfl, hT, hb1⟩)
  go_ret
  exact ⟨T, x, rfl, hT, ((Below.refl _ _).alloc (Nat.le_refl _) _).trans (hb1.mono (by simp))⟩
end

def BuiltC (N : Nat) : Prop := ∀ (t : Tm), t.sz ≤ N → ∀ (cs : Array Value) (B : Nat → Prop) (w : World), t.In w B cs → Sub B w →
  Calls Tryz.prog 14 #[.agg cs] w fun e w' => ∃ v, e = .returned v ∧ Below w.heap.size w w' ∧ t.V w' (Fr w w') v

structure BL (L : TmL) (w : World) (B : Nat → Prop) (al : Option Addr) (wr : World) (j g cap : Nat) (xs : List Value) (l : TmL) : Prop where
  len : l.len + j = L.len
  src : l.In w B al j
  own : wr.ownsRow (w.heap.size + 1) 20 1 (.slice (some ⟨g, 0, none⟩) j cap) j xs
  pre : VPre wr (Own (w.heap.size + 1) wr g) L xs l
  lt : w.heap.size + 1 ≤ g ∧ g < wr.heap.size
  bel : Below w.heap.size w wr

theorem grown_of_below {w w' : World} (h : Below w.heap.size w w') : w.grownBy w' none := ⟨h.os, h.tape, h.output, h.size, fun k hk _ => h.block k hk⟩
theorem owns_below {w w' : World} (h : Below w.heap.size w w') {base : Nat} {e : TypeId} {size : Nat} {v : Value} {n : Nat} {xs : List Value} (ho : w.ownsRow base e size v n xs) : w'.ownsRow base e size v n xs :=
  ho.kept (grown_of_below h) (by cases hv : v.ownBlock with | none => exact .inl rfl | some k => exact .inr (by simp))

theorem BL.step {L : TmL} {w : World} {B : Nat → Prop} {al : Option Addr} {wr : World} {j g cap : Nat} {xs : List Value} {t : Tm} {l : TmL} (h : BL L w B al wr j g cap xs (.cons t l)) {w1 w3 : World} {o : Obj} {x : Value} {g' cap' : Nat}
    (hb : Below wr.heap.size wr w1) (hx : t.V w1 (Fr wr w1) x) (ho : w3.ownsRow (w.heap.size + 1) 20 1 (.slice (some ⟨g', 0, none⟩) (j + 1) cap') (j + 1) (xs ++ [x])) (hg : (w1.alloc o).grownBy w3 (some g)) (hor : some g = some g' ∨ g' = (w1.alloc o).heap.size) :
    BL L w B al w3 (j + 1) g' cap' (xs ++ [x]) l := by
  have hz1 := hb.size
  have hz3 := hg.size
  have hza : (w1.alloc o).heap.size = w1.heap.size + 1 := by simp
  have hlt := ho.lt g' rfl
  have hsrc := h.src
  simp only [TmL.In] at hsrc
  obtain ⟨_, _, _, _, _, _, _, hl⟩ := hsrc
  have h31 : ∀ k, k < w1.heap.size → k ≠ g → w3.heap[k]? = w1.heap[k]? := fun k hk hne => by
    rw [hg.block k (by omega) (by simpa using hne)]; exact Below.heap_alloc _ _ _ hk
  have hS : Same (Own (w.heap.size + 1) wr g) wr w3 := fun k hk => by rw [h31 k (by have := hk.2.1; omega) hk.2.2]; exact hb.block k hk.2.1
  have hS1 : Same (Fr wr w1) w1 w3 := fun k hk => h31 k hk.2 (by have := hk.1; have := h.lt; omega)
  have hg' : ∀ k, k < w1.heap.size → k ≠ g → k ≠ g' := fun k hk hne e => by
    rcases hor with e' | e'
    · injection e' with e'; omega
    · omega
  refine ⟨?_, hl, ho, ?_, hlt, ?_⟩
  · have := h.len; simp [TmL.len] at this; omega
  · refine VPre.snoc L xs t l x (VPre.same hS (fun k hk => ⟨hk.1, by have := hk.2.1; omega, hg' k (by have := hk.2.1; omega) hk.2.2⟩) L xs _ h.pre) (t.V_same hS1 (fun k hk => ⟨?_, ?_, ?_⟩) x hx)
    · have := hk.1; have := h.lt; omega
    · have := hk.2; omega
    · exact hg' k hk.2 (by have := hk.1; have := h.lt; omega)
  · have hb1 : Below w.heap.size w (w1.alloc o) := (h.bel.trans (hb.mono h.bel.size)).alloc (by have := h.bel.size; omega) _
    exact hb1.grown hg (by have := h.bel.size; omega) (fun k e => by injection e with e; have := h.lt; omega)

theorem BL.done {L : TmL} {w : World} {B : Nat → Prop} {al : Option Addr} {wr : World} {j g cap : Nat} {xs : List Value} (h : BL L w B al wr j g cap xs .nil) (hj : j = L.len) : L.LV wr (Fr w wr) (some ⟨g, 0, none⟩) cap := by
  subst hj
  refine ⟨Ln.of h.own (fun g' o p e => by injection e with e; injection e with e; subst e; exact ⟨by have := h.lt; omega, h.lt.2⟩), ?_⟩
  refine VPre.done (S := Own (w.heap.size + 1) wr g) (fun k hk => ⟨by have := hk.1; omega, hk.2.1⟩) g ⟨by have := h.lt; omega, h.lt.2⟩ L xs 0 h.pre ?_
  intro i x hi
  have := h.own.cells (g := g) rfl i x hi
  rw [Nat.zero_add]
  have e : (⟨g, 0, none⟩ : Addr).add i = ⟨g, i, none⟩ := by
    unfold Addr.add; split
    · rename_i h0; rw [h0]
    · simp
  rw [e] at this; exact this

theorem one_iface (T : Nat) (x : Value) : ∀ u ∈ [Value.iface T x], u.oneCell' = true := fun u hu => by simp at hu; subst hu; rfl
theorem one_nil : ∀ u ∈ [Value.nilIface], u.oneCell' = true := fun u hu => by simp at hu; subst hu; rfl

theorem app_kept {wr w1 w3 : World} {o : Obj} {g : Nat} (hb : Below wr.heap.size wr w1) (hg : (w1.alloc o).grownBy w3 (some g)) {p : Addr} (hp : p.block < wr.heap.size) (hne : p.block ≠ g) : w3.cell? p = wr.cell? p := by
  refine World.cell?_of_block (w := wr) ?_
  have := hb.size
  rw [hg.block p.block (by simp; omega) (by simpa using hne), Below.heap_alloc _ _ _ (by omega)]
  exact hb.block _ hp

theorem BuiltC.at {N : Nat} (HC : BuiltC N) {t : Tm} (hN : t.sz ≤ N) {cs : Array Value} {B : Nat → Prop} {w : World} (h : t.In w B cs) (hB : Sub B w) :
    ∀ W, Below w.heap.size w W → Calls Tryz.prog 14 #[.agg cs] W fun e w' => ∃ v, e = .returned v ∧ Below W.heap.size W w' ∧ t.V w' (Fr W w') v ∧ (v = .nilIface ∨ ∃ T x, v = .iface T x) := by
  intro W hW
  refine (HC t hN cs B W (t.In_same (hB.same hW) (fun _ h => h) cs h) (hB.later hW)).mono ?_
  rintro e w' ⟨v, rfl, hb, hv⟩
  exact ⟨v, rfl, hb, hv, t.V_shape v hv⟩

set_option maxRecDepth 100000 in
set_option maxHeartbeats 1000000 in
theorem built_8 (N : Nat) (HC : BuiltC N) (b : Bool) (i : Int) (f : Nat) (tx : ByteArray) (vb : Value) (rf : Int) (al : Option Addr) (L : TmL) (cl : Nat) (vf : Value) (c : ByteArray) (vr : Int) (w : World) (hN : L.sz ≤ N) (B : Nat → Prop) (hB : Sub B w) (hL : L.In w B al 0) (hlen : L.len * 152 ≤ 140737488355328) :
    Calls Tryz.prog 14 #[.agg (tcells 8 b i f tx vb rf (.slice al L.len cl) vf c vr)] w fun e w' => ∃ a cap, e = .returned (.iface 71 (.slice a L.len cap)) ∧ Below w.heap.size w w' ∧ L.LV w' (Fr w w') a cap := by
  unfold tcells
  obtain ⟨i0, hi, hz0, hz1, hz2⟩ := info_parts Tryz.infoI
  have HCH : Hid (BuiltC N) := HC
  clear HC
  have H0 : Hid (∀ o, BL L w B al ((w.alloc o).alloc (.cells #[] 20)) 0 (w.heap.size + 1) 0 [] L) := fun o =>
    ⟨rfl, hL, ⟨rfl, .inr ⟨w.heap.size + 1, 0, #[], rfl, Nat.le_refl _, by simpa using heap_alloc_new (w.alloc o) (.cells #[] 20), Nat.le_refl _, by simp [maxLen], rfl, rfl⟩⟩, (VPre_nil _ _).2 rfl, by simp, ((Below.refl _ _).alloc (Nat.le_refl _) _).alloc (by simp) _⟩
  clear hL
  go_enter Tryz.func14, Tryz.ntmps14
  go_wp2_with fail
  go_loopw [3, 4] (fun v x wr => ∃ (j g cap : Nat) (xs : List Value) (l : TmL), v = .slice (some ⟨g, 0, none⟩) j cap ∧ x = .int .i64 j ∧ j ≤ L.len ∧ wr.cell? ⟨w.heap.size, 7, none⟩ = some (.slice al L.len cl) ∧ l.sz ≤ N ∧ Hid (BL L w B al wr j g cap xs l)) (fun _ x _ => L.len - (intOf x).toNat)
  case atStart => exact ⟨0, w.heap.size + 1, 0, [], L, rfl, rfl, by omega, by simp, hN, H0.out _⟩
  case round =>
    obtain ⟨j, g, cap, xs, l, rfl, rfl, hj, c7, hlN, HR⟩ := hrel
    cases l with
    | nil =>
      have hjl : L.len ≤ j := by have := HR.out.len; simp [TmL.len] at this; omega
      go_wp2_with fail
      go_ret
      have e : j = L.len := by omega
      subst e
      exact ⟨_, _, rfl, HR.out.bel, HR.out.done rfl⟩
    | cons t l =>
      have hsrc := HR.out.src
      simp only [TmL.In] at hsrc
      obtain ⟨g1, o1, cs, rfl, hg1, hc, ht, _⟩ := hsrc
      have hg1 := hB _ hg1
      have hlt : j < L.len := by have := HR.out.len; simp [TmL.len] at this; omega
      have htN : t.sz ≤ N ∧ l.sz ≤ N := by simp [TmL.sz] at hlN; omega
      have HCT := HCH.out.at htN.1 ht hB
      have hw0 := HR.out.bel
      have hgl := HR.out.lt
      cases t with
      | mk k b' i' f' tx' by' rf' l' fs' c' vr' =>
        have ht' := ht
        simp only [Tm.In] at ht'
        obtain ⟨ab', cb', al', cl', af', cf', rfl, _⟩ := ht'
        obtain ⟨e0, e1, e2, e3, e4, e5, e6, e7, e8, e9, e10⟩ := eleven (w := wr) (g := g1) (o := o1 + j * 11) (fun x hx => by rw [hw0.cell (p := ⟨g1, o1 + j * 11 + x, none⟩) (by show g1 < _; omega)]; exact hc x hx)
        unfold tcells at HCT
        have HCT : Hid _ := HCT
        have HB0 : Hid (Below w.heap.size w wr) := hw0
        clear hw0 hc ht hlN
        go_wp2_with fail
        refine (HCT.out _ HB0.out).mono ?_
        rintro e w1 ⟨x, rfl, hb1, hx, hsh⟩
        have hs1 := hb1.size
        rcases hsh with rfl | ⟨T, y, rfl⟩
        · go_wp2_with (at_builtin; refine wpList_app _ rfl _ _ 71 rfl (w.heap.size + 1) 20 i0 .nilIface 1 16 Tryz.undL hi hz0 hz1 hz2 rfl (by decide) _ _ xs rfl ((owns_below hb1 HR.out.own).alloc _) ⟨w1.heap.size, 0, none⟩ 1 1 [.nilIface] rfl rfl (cell_one_new _ _ _) (one_nil) (by decide) (by unfold maxLen; omega) (by omega) (by simp; omega) ?_; intro g' cap' w3 hown' hgrow hor)
          have HN := HR.out.step hb1 hx hown' hgrow hor
          have c7' : w3.cell? ⟨w.heap.size, 7, none⟩ = some (.slice (some ⟨g1, o1, none⟩) L.len cl) := (app_kept (g := g) hb1 hgrow (p := ⟨w.heap.size, 7, none⟩) (by show w.heap.size < _; omega) (by show w.heap.size ≠ _; omega)).trans c7
          go_roundw
          case rel => exact ⟨j + 1, g', cap', _, l, rfl, by go_num, by omega, c7', htN.2, HN⟩
          case measure => simp [intOf]; omega
        · go_wp2_with (at_builtin; refine wpList_app _ rfl _ _ 71 rfl (w.heap.size + 1) 20 i0 .nilIface 1 16 Tryz.undL hi hz0 hz1 hz2 rfl (by decide) _ _ xs rfl ((owns_below hb1 HR.out.own).alloc _) ⟨w1.heap.size, 0, none⟩ 1 1 [.iface T y] rfl rfl (cell_one_new _ _ _) (one_iface T y) (by decide) (by unfold maxLen; omega) (by omega) (by simp; omega) ?_; intro g' cap' w3 hown' hgrow hor)
          have HN := HR.out.step hb1 hx hown' hgrow hor
          have c7' : w3.cell? ⟨w.heap.size, 7, none⟩ = some (.slice (some ⟨g1, o1, none⟩) L.len cl) := (app_kept (g := g) hb1 hgrow (p := ⟨w.heap.size, 7, none⟩) (by show w.heap.size < _; omega) (by show w.heap.size ≠ _; omega)).trans c7
          go_roundw
          case rel => exact ⟨j + 1, g', cap', _, l, rfl, by go_num, by omega, c7', htN.2, HN⟩
          case measure => simp [intOf]; omega
end Go.Proofs.YtjdjpbdfchhcfaaGreat

