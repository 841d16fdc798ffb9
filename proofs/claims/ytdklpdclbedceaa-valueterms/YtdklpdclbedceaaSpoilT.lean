/- tenonlaw01.spoil at every term. -/
import Derived.Test.YtdklpdclbedceaaTWs
import Derived.RegionTactic
namespace Go.Proofs.Ytdklpdclbedceaa
open Go.RowKit

theorem WtS.get {w : World} {B : Nat → Prop} {P : Array Value → Prop} {k : Int} {b : Bool} {i : Int} {f : Nat} {tx : ByteArray} {ab : Option Addr} {nb cb : Nat} {rf : Int} {al : Option Addr} {nl cl : Nat} {af : Option Addr} {nf cf : Nat} {c : ByteArray} {vr : Int}
    (h : WtS w B P (tcells k b i f tx (.slice ab nb cb) rf (.slice al nl cl) (.slice af nf cf) c vr)) : (nb ≤ 140737488355328 ∧ nl ≤ 140737488355328 ∧ nf ≤ 140737488355328) ∧
  (∀ j, j < nb → ∃ g o x, ab = some ⟨g, o, none⟩ ∧ B g ∧ w.cell? ⟨g, o + j, none⟩ = some (.int .u8 x) ∧ 0 ≤ x ∧ x ≤ 255) ∧
  (∀ j, j < nl → ∃ g o es, al = some ⟨g, o, none⟩ ∧ B g ∧ (∀ x, x < 11 → w.cell? ⟨g, o + j * 11 + x, none⟩ = es[x]?) ∧ P es) ∧
  (∀ j, j < nf → ∃ g o s es, af = some ⟨g, o, none⟩ ∧ B g ∧ w.cell? ⟨g, o + j * 12, none⟩ = some (.string s) ∧ (∀ x, x < 11 → w.cell? ⟨g, o + j * 12 + 1 + x, none⟩ = es[x]?) ∧ P es) := by
  obtain ⟨k', b', i', f', tx', ab', nb', cb', rf', al', nl', cl', af', nf', cf', c', vr', e, h1, h2, h3, h4, h5, h6⟩ := h
  have hx : ∀ x : Nat, (tcells k b i f tx (.slice ab nb cb) rf (.slice al nl cl) (.slice af nf cf) c vr)[x]? = (tcells k' b' i' f' tx' (.slice ab' nb' cb') rf' (.slice al' nl' cl') (.slice af' nf' cf') c' vr')[x]? := fun x => by rw [e]
  have e5 := hx 5
  have e7 := hx 7
  have e8 := hx 8
  simp only [tcells, List.getElem?_toArray, List.getElem?_cons_succ, List.getElem?_cons_zero, Option.some.injEq, Value.slice.injEq] at e5 e7 e8
  obtain ⟨rfl, rfl, rfl⟩ := e5
  obtain ⟨rfl, rfl, rfl⟩ := e7
  obtain ⟨rfl, rfl, rfl⟩ := e8
  exact ⟨⟨h1, h2, h3⟩, h4, h5, h6⟩

/-- what spoil's loops carry: only B was written over, and the term's own box stands -/
def SI (B : Nat → Prop) (w : World) (cs : Array Value) (wr : World) : Prop := Dc B w wr ∧ wr.heap[w.heap.size]? = some (.cells cs 29 (0, 0))
theorem SI.lt {B : Nat → Prop} {w wr : World} {cs : Array Value} (h : SI B w cs wr) : w.heap.size < wr.heap.size := by
  rcases Nat.lt_or_ge w.heap.size wr.heap.size with e | e
  · exact e
  · have h2 := h.2; rw [Array.getElem?_eq_none e] at h2; simp at h2
theorem SI.later {B : Nat → Prop} {w wr w1 : World} {cs : Array Value} (h : SI B w cs wr) (hB : Sub B w) (hd : Dc B wr w1) : SI B w cs w1 :=
  ⟨h.1.trans hd, (hd.far _ h.lt (fun e => absurd (hB _ e) (Nat.lt_irrefl _))).trans h.2⟩
theorem SI.start {B : Nat → Prop} {w : World} {cs : Array Value} (hB : Sub B w) : SI B w cs (w.alloc (.cells cs 29)) := ⟨Dc.of_below ((Below.refl _ _).alloc (Nat.le_refl _) _) hB, heap_alloc_new w _⟩
theorem SI.drew {B : Nat → Prop} {w wr : World} {cs : Array Value} (h : SI B w cs wr) : SI B w cs wr.drew := ⟨⟨h.1.os, h.1.tape, h.1.output, h.1.size, h.1.far, h.1.cell, h.1.soft⟩, h.2⟩
def zT (k : Int) : List Value := [.int .i64 k, .bool false, .int .i64 0, .float .f64 0, .string ⟨#[]⟩, .slice none 0 0, .int .u64 0, .slice none 0 0, .slice none 0 0, .string ⟨#[]⟩, .int .i64 0]
theorem dv_zT {es : Array Value} (q : Int) (h : ∃ k b i f tx ab nb cb rf al nl cl af nf cf c vr, es = tcells k b i f tx (.slice ab nb cb) rf (.slice al nl cl) (.slice af nf cf) c vr) : ∀ (i : Nat) (v : Value), (zT q)[i]? = some v → ∃ x, es[i]? = some x ∧ Dv x v := by
  obtain ⟨k, b, i, f, tx, ab, nb, cb, rf, al, nl, cl, af, nf, cf, c, vr, rfl⟩ := h
  intro x v hv
  match x, hv with
  | 0, hv => simp [zT] at hv; subst hv; exact ⟨_, rfl, .inr (.inl ⟨_, _, _, rfl, rfl, fun h => by simp at h⟩)⟩
  | 1, hv => simp [zT] at hv; subst hv; exact ⟨_, rfl, .inr (.inr (.inl ⟨_, _, rfl, rfl⟩))⟩
  | 2, hv => simp [zT] at hv; subst hv; exact ⟨_, rfl, .inr (.inl ⟨_, _, _, rfl, rfl, fun h => by simp at h⟩)⟩
  | 3, hv => simp [zT] at hv; subst hv; exact ⟨_, rfl, .inr (.inr (.inr (.inl ⟨_, _, _, rfl, rfl⟩)))⟩
  | 4, hv => simp [zT] at hv; subst hv; exact ⟨_, rfl, .inr (.inr (.inr (.inr (.inl ⟨_, _, rfl, rfl⟩))))⟩
  | 5, hv => simp [zT] at hv; subst hv; exact ⟨_, rfl, .inr (.inr (.inr (.inr (.inr ⟨_, _, _, rfl, rfl⟩))))⟩
  | 6, hv => simp [zT] at hv; subst hv; exact ⟨_, rfl, .inr (.inl ⟨_, _, _, rfl, rfl, fun h => by simp at h⟩)⟩
  | 7, hv => simp [zT] at hv; subst hv; exact ⟨_, rfl, .inr (.inr (.inr (.inr (.inr ⟨_, _, _, rfl, rfl⟩))))⟩
  | 8, hv => simp [zT] at hv; subst hv; exact ⟨_, rfl, .inr (.inr (.inr (.inr (.inr ⟨_, _, _, rfl, rfl⟩))))⟩
  | 9, hv => simp [zT] at hv; subst hv; exact ⟨_, rfl, .inr (.inr (.inr (.inr (.inl ⟨_, _, rfl, rfl⟩))))⟩
  | 10, hv => simp [zT] at hv; subst hv; exact ⟨_, rfl, .inr (.inl ⟨_, _, _, rfl, rfl, fun h => by simp at h⟩)⟩
  | x + 11, hv => simp [zT] at hv
/-- eleven cells that are there and can be written -/
def Cl11 (w : World) (g o : Nat) : Prop := ∀ x, x < 11 → (∃ u, w.cell? ⟨g, o + x, none⟩ = some u) ∧ w.frozen? ⟨g, o + x, none⟩ = false

set_option maxRecDepth 100000 in
set_option maxHeartbeats 4000000 in
theorem spoilT_step (B : Nat → Prop) (w : World) (k : Int) (b : Bool) (i : Int) (f : Nat) (tx : ByteArray) (ab : Option Addr) (nb cb : Nat) (rf : Int) (al : Option Addr) (nl cl : Nat) (af : Option Addr) (nf cf : Nat) (c : ByteArray) (vr : Int) (Q : World → Array Value → Prop) (hB : Sub B w) (hS : ∀ k, B k → Soft w k)
    (H : ∀ W, Dc B w W → WtS W B (Q W) (tcells k b i f tx (.slice ab nb cb) rf (.slice al nl cl) (.slice af nf cf) c vr))
    (HQ : ∀ W es, Q W es → ∃ k b i f tx ab nb cb rf al nl cl af nf cf c vr, es = tcells k b i f tx (.slice ab nb cb) rf (.slice al nl cl) (.slice af nf cf) c vr)
    (HC : ∀ W es, Dc B w W → Q W es → Calls Try.prog 17 #[.agg es] W fun e w' => e = .returned (.tuple #[]) ∧ Dc B W w') :
    Calls Try.prog 17 #[.agg (tcells k b i f tx (.slice ab nb cb) rf (.slice al nl cl) (.slice af nf cf) c vr)] w fun e w' => e = .returned (.tuple #[]) ∧ Dc B w w' := by
  obtain ⟨⟨hnb, hnl, hnf⟩, _⟩ := (H w (Dc.refl _ _)).get
  have HBy : Hid (∀ W, Dc B w W → ∀ j, j < nb → ∃ g o x, ab = some ⟨g, o, none⟩ ∧ B g ∧ W.cell? ⟨g, o + j, none⟩ = some (.int .u8 x) ∧ W.frozen? ⟨g, o + j, none⟩ = false) := fun W hW j hj => by
    obtain ⟨g, o, x, e, hg, hc, _⟩ := (H W hW).get.2.1 j hj
    exact ⟨g, o, x, e, hg, hc, hW.soft g hg (hS g hg) _⟩
  have HLi : Hid (∀ W, Dc B w W → ∀ j, j < nl → ∃ g o es, al = some ⟨g, o, none⟩ ∧ B g ∧ (∀ x, x < 11 → W.cell? ⟨g, o + j * 11 + x, none⟩ = es[x]?) ∧ Q W es ∧ Soft W g) := fun W hW j hj => by
    obtain ⟨g, o, es, e, hg, hc, hq⟩ := (H W hW).get.2.2.1 j hj
    exact ⟨g, o, es, e, hg, hc, hq, hW.soft g hg (hS g hg)⟩
  have HFi : Hid (∀ W, Dc B w W → ∀ j, j < nf → ∃ g o s es, af = some ⟨g, o, none⟩ ∧ B g ∧ W.cell? ⟨g, o + j * 12, none⟩ = some (.string s) ∧ (∀ x, x < 11 → W.cell? ⟨g, o + j * 12 + 1 + x, none⟩ = es[x]?) ∧ Q W es ∧ Soft W g) := fun W hW j hj => by
    obtain ⟨g, o, s, es, e, hg, hn, hc, hq⟩ := (H W hW).get.2.2.2 j hj
    exact ⟨g, o, s, es, e, hg, hn, hc, hq, hW.soft g hg (hS g hg)⟩
  have HB : Hid (Sub B w) := hB
  have HCH : Hid (∀ W es, Dc B w W → Q W es → Calls Try.prog 17 #[.agg es] W fun e w' => e = .returned (.tuple #[]) ∧ Dc B W w') := HC
  have HQH : Hid (∀ W es, Q W es → ∃ k b i f tx ab nb cb rf al nl cl af nf cf c vr, es = tcells k b i f tx (.slice ab nb cb) rf (.slice al nl cl) (.slice af nf cf) c vr) := HQ
  have H0 : Hid (SI B w (tcells k b i f tx (.slice ab nb cb) rf (.slice al nl cl) (.slice af nf cf) c vr) (w.alloc (.cells (tcells k b i f tx (.slice ab nb cb) rf (.slice al nl cl) (.slice af nf cf) c vr) 29))) := SI.start hB
  clear H HC HQ hB hS
  unfold tcells at H0 ⊢
  go_enter Try.func17, Try.ntmps17
  go_wp2_with fail
  go_loopw [2] (fun x wr => ∃ j : Nat, x = .int .i64 j ∧ j ≤ nb ∧ Hid (SI B w (tcells k b i f tx (.slice ab nb cb) rf (.slice al nl cl) (.slice af nf cf) c vr) wr)) (fun x _ => nb - (intOf x).toNat)
  case atStart => exact ⟨0, rfl, by omega, H0.out⟩
  case round =>
    obtain ⟨j, rfl, hj, HI⟩ := hrel
    obtain ⟨z0, z1, z2, z3, z4, z5, z6, z7, z8, z9, z10⟩ := tbox HI.out.2
    have hi0 : (0 : Int) ≤ (j : Int) := Int.natCast_nonneg _
    by_cases hjl : j < nb
    · have hi1 : (j : Int) < (nb : Int) := by omega
      obtain ⟨g, o, x, rfl, hg, c0, f0⟩ := HBy.out wr HI.out.1 j hjl
      have HN : Hid (∀ y : Int, SI B w (tcells k b i f tx (.slice (some ⟨g, o, none⟩) nb cb) rf (.slice al nl cl) (.slice af nf cf) c vr) (wr.setCell ⟨g, o + j, none⟩ (.int .u8 (y % 256))).drew) := fun y => (HI.out.later HB.out (Dc.set hg c0 (.inr (.inl ⟨_, _, _, rfl, rfl, fun _ => by omega⟩)))).drew
      clear z0 z1 z2 z3 z4 z6 z7 z8 z9 z10 hg
      go_wp2_with fail
      go_region
      all_goals
        go_wp2_with fail
        go_roundw
        case rel => exact ⟨j + 1, by go_num, by omega, HN.out _⟩
        case measure => simp [intOf]; omega
    · have hi1 : ¬ ((j : Int) < (nb : Int)) := by omega
      have HI1 : Hid (SI B w (tcells k b i f tx (.slice ab nb cb) rf (.slice al nl cl) (.slice af nf cf) c vr) wr) := HI.out
      go_wp2_with fail
      go_loopw [3] (fun x wr => ∃ j : Nat, x = .int .i64 j ∧ j ≤ nl ∧ Hid (SI B w (tcells k b i f tx (.slice ab nb cb) rf (.slice al nl cl) (.slice af nf cf) c vr) wr)) (fun x _ => nl - (intOf x).toNat)
      case atStart => exact ⟨0, rfl, by omega, HI1.out⟩
      case round =>
        obtain ⟨j2, rfl, hj2, HI2⟩ := hrel
        obtain ⟨z0, z1, z2, z3, z4, z5, z6, z7, z8, z9, z10⟩ := tbox HI2.out.2
        have hi02 : (0 : Int) ≤ (j2 : Int) := Int.natCast_nonneg _
        by_cases hjl2 : j2 < nl
        · have hi12 : (j2 : Int) < (nl : Int) := by omega
          obtain ⟨g, o, es, rfl, hg, hc, hq, _⟩ := HLi.out wr HI2.out.1 j2 hjl2
          have HX : Hid (Calls Try.prog 17 #[.agg es] wr fun e w' => e = .returned (.tuple #[]) ∧ Dc B wr w') := HCH.out wr es HI2.out.1 hq
          obtain ⟨k', b', i', f', tx', ab', nb', cb', rf', al', nl', cl', af', nf', cf', c', vr', rfl⟩ := HQH.out wr es hq
          obtain ⟨e0, e1, e2, e3, e4, e5, e6, e7, e8, e9, e10⟩ := eleven (w := wr) (g := g) (o := o + j2 * 11) hc
          have HN : Hid (∀ w1, Dc B wr w1 → Cl11 w1 g (o + j2 * 11) ∧ SI B w (tcells k b i f tx (.slice ab nb cb) rf (.slice (some ⟨g, o, none⟩) nl cl) (.slice af nf cf) c vr) (setN w1 g (o + j2 * 11) (zT 99)) ∧ w1.cell? ⟨w.heap.size, 7, none⟩ = some (.slice (some ⟨g, o, none⟩) nl cl)) := fun w1 hd => by
            have hi := HI2.out.later HB.out hd
            obtain ⟨g', o', es', e', hg', hc', hq', hs'⟩ := HLi.out w1 hi.1 j2 hjl2
            simp only [Option.some.injEq, Addr.mk.injEq, and_true] at e'
            obtain ⟨rfl, rfl⟩ := e'
            have hes := HQH.out w1 es' hq'
            have hsz : es'.size = 11 := by obtain ⟨_, _, _, _, _, _, _, _, _, _, _, _, _, _, _, _, _, rfl⟩ := hes; rfl
            refine ⟨fun x hx => ⟨⟨es'[x]'(by omega), by rw [hc' x hx]; simp [hsz, hx]⟩, hs' _⟩, hi.later HB.out (Dc.setN hg' (zT 99) w1 _ fun x v hv => ?_), (tbox hi.2).2.2.2.2.2.2.2.1⟩
            obtain ⟨y, hy, hdv⟩ := dv_zT 99 hes x v hv
            have hx : x < 11 := by have := (Array.getElem?_eq_some_iff.1 hy).1; omega
            exact ⟨y, by rw [hc' x hx]; exact hy, hdv⟩
          unfold tcells at HX
          clear hc hq hg z0 z1 z2 z3 z4 z5 z6 z8 z9 z10
          go_wp2_with fail
          refine HX.out.mono ?_
          rintro e w1 ⟨rfl, hd1⟩
          obtain ⟨hcl, hsi, z7'⟩ := HN.out w1 hd1
          have HN2 : Hid (SI B w (tcells k b i f tx (.slice ab nb cb) rf (.slice (some ⟨g, o, none⟩) nl cl) (.slice af nf cf) c vr) (setN w1 g (o + j2 * 11) (zT 99))) := hsi
          obtain ⟨⟨u0, hu0⟩, hf0⟩ : (∃ u, w1.cell? ⟨g, o + j2 * 11, none⟩ = some u) ∧ w1.frozen? ⟨g, o + j2 * 11, none⟩ = false := hcl 0 (by decide); obtain ⟨⟨u1, hu1⟩, hf1⟩ := hcl 1 (by decide); obtain ⟨⟨u2, hu2⟩, hf2⟩ := hcl 2 (by decide); obtain ⟨⟨u3, hu3⟩, hf3⟩ := hcl 3 (by decide); obtain ⟨⟨u4, hu4⟩, hf4⟩ := hcl 4 (by decide); obtain ⟨⟨u5, hu5⟩, hf5⟩ := hcl 5 (by decide); obtain ⟨⟨u6, hu6⟩, hf6⟩ := hcl 6 (by decide); obtain ⟨⟨u7, hu7⟩, hf7⟩ := hcl 7 (by decide); obtain ⟨⟨u8, hu8⟩, hf8⟩ := hcl 8 (by decide); obtain ⟨⟨u9, hu9⟩, hf9⟩ := hcl 9 (by decide); obtain ⟨⟨u10, hu10⟩, hf10⟩ := hcl 10 (by decide)
          clear hd1 hsi hcl
          go_wp2_with fail
          go_roundw
          case rel => exact ⟨j2 + 1, by go_num, by omega, HN2.out⟩
          case measure => simp [intOf]; omega
        · have hi12 : ¬ ((j2 : Int) < (nl : Int)) := by omega
          have HI3 : Hid (SI B w (tcells k b i f tx (.slice ab nb cb) rf (.slice al nl cl) (.slice af nf cf) c vr) wr) := HI2.out
          go_wp2_with fail
          go_loopw [4] (fun x wr => ∃ j : Nat, x = .int .i64 j ∧ j ≤ nf ∧ Hid (SI B w (tcells k b i f tx (.slice ab nb cb) rf (.slice al nl cl) (.slice af nf cf) c vr) wr)) (fun x _ => nf - (intOf x).toNat)
          case atStart => exact ⟨0, rfl, by omega, HI3.out⟩
          case round =>
            obtain ⟨j3, rfl, hj3, HI4⟩ := hrel
            obtain ⟨z0, z1, z2, z3, z4, z5, z6, z7, z8, z9, z10⟩ := tbox HI4.out.2
            have hi03 : (0 : Int) ≤ (j3 : Int) := Int.natCast_nonneg _
            by_cases hjl3 : j3 < nf
            · have hi13 : (j3 : Int) < (nf : Int) := by omega
              obtain ⟨g, o, s, es, rfl, hg, hn, hc, hq, _⟩ := HFi.out wr HI4.out.1 j3 hjl3
              have HX : Hid (Calls Try.prog 17 #[.agg es] wr fun e w' => e = .returned (.tuple #[]) ∧ Dc B wr w') := HCH.out wr es HI4.out.1 hq
              obtain ⟨k', b', i', f', tx', ab', nb', cb', rf', al', nl', cl', af', nf', cf', c', vr', rfl⟩ := HQH.out wr es hq
              obtain ⟨e0, e1, e2, e3, e4, e5, e6, e7, e8, e9, e10⟩ := eleven (w := wr) (g := g) (o := o + j3 * 12 + 1) hc
              have HN : Hid (∀ w1, Dc B wr w1 → ((∃ u, w1.cell? ⟨g, o + j3 * 12, none⟩ = some u) ∧ w1.frozen? ⟨g, o + j3 * 12, none⟩ = false) ∧ Cl11 w1 g (o + j3 * 12 + 1) ∧ SI B w (tcells k b i f tx (.slice ab nb cb) rf (.slice al nl cl) (.slice (some ⟨g, o, none⟩) nf cf) c vr) (setN w1 g (o + j3 * 12) (.string nmSpoilt :: zT 0)) ∧ w1.cell? ⟨w.heap.size, 8, none⟩ = some (.slice (some ⟨g, o, none⟩) nf cf)) := fun w1 hd => by
                have hi := HI4.out.later HB.out hd
                obtain ⟨g', o', s', es', e', hg', hn', hc', hq', hs'⟩ := HFi.out w1 hi.1 j3 hjl3
                simp only [Option.some.injEq, Addr.mk.injEq, and_true] at e'
                obtain ⟨rfl, rfl⟩ := e'
                have hes := HQH.out w1 es' hq'
                have hsz : es'.size = 11 := by obtain ⟨_, _, _, _, _, _, _, _, _, _, _, _, _, _, _, _, _, rfl⟩ := hes; rfl
                refine ⟨⟨⟨_, hn'⟩, hs' _⟩, fun x hx => ⟨⟨es'[x]'(by omega), by rw [hc' x hx]; simp [hsz, hx]⟩, hs' _⟩, hi.later HB.out (Dc.setN hg' (.string nmSpoilt :: zT 0) w1 _ fun x v hv => ?_), (tbox hi.2).2.2.2.2.2.2.2.2.1⟩
                cases x with
                | zero => simp at hv; subst hv; exact ⟨_, hn', .inr (.inr (.inr (.inr (.inl ⟨_, _, rfl, rfl⟩))))⟩
                | succ x =>
                  obtain ⟨y, hy, hdv⟩ := dv_zT 0 hes x v (by simpa using hv)
                  have hx : x < 11 := by have := (Array.getElem?_eq_some_iff.1 hy).1; omega
                  exact ⟨y, by rw [show o + j3 * 12 + (x + 1) = o + j3 * 12 + 1 + x by omega, hc' x hx]; exact hy, hdv⟩
              unfold tcells at HX
              clear hc hq hg hn z0 z1 z2 z3 z4 z5 z6 z7 z9 z10
              go_wp2_with fail
              refine HX.out.mono ?_
              rintro e w1 ⟨rfl, hd1⟩
              obtain ⟨⟨⟨un, hun⟩, hfn⟩, hcl, hsi, z8'⟩ := HN.out w1 hd1
              have HN2 : Hid (SI B w (tcells k b i f tx (.slice ab nb cb) rf (.slice al nl cl) (.slice (some ⟨g, o, none⟩) nf cf) c vr) (setN w1 g (o + j3 * 12) (.string nmSpoilt :: zT 0))) := hsi
              obtain ⟨⟨u0, hu0⟩, hf0⟩ : (∃ u, w1.cell? ⟨g, o + j3 * 12 + 1, none⟩ = some u) ∧ w1.frozen? ⟨g, o + j3 * 12 + 1, none⟩ = false := hcl 0 (by decide); obtain ⟨⟨u1, hu1⟩, hf1⟩ := hcl 1 (by decide); obtain ⟨⟨u2, hu2⟩, hf2⟩ := hcl 2 (by decide); obtain ⟨⟨u3, hu3⟩, hf3⟩ := hcl 3 (by decide); obtain ⟨⟨u4, hu4⟩, hf4⟩ := hcl 4 (by decide); obtain ⟨⟨u5, hu5⟩, hf5⟩ := hcl 5 (by decide); obtain ⟨⟨u6, hu6⟩, hf6⟩ := hcl 6 (by decide); obtain ⟨⟨u7, hu7⟩, hf7⟩ := hcl 7 (by decide); obtain ⟨⟨u8, hu8⟩, hf8⟩ := hcl 8 (by decide); obtain ⟨⟨u9, hu9⟩, hf9⟩ := hcl 9 (by decide); obtain ⟨⟨u10, hu10⟩, hf10⟩ := hcl 10 (by decide)
              clear hd1 hsi hcl
              go_wp2_with fail
              go_roundw
              case rel => exact ⟨j3 + 1, by go_num, by omega, HN2.out⟩
              case measure => simp [intOf]; omega
            · have hi13 : ¬ ((j3 : Int) < (nf : Int)) := by omega
              go_wp2_with fail
              go_end0
              exact ⟨rfl, HI4.out.1⟩

theorem spoilT_any : ∀ (n : Nat) (cs : Array Value) (B : Nat → Prop) (w : World), Wt w B n cs → Sub B w → (∀ k, B k → Soft w k) → Calls Try.prog 17 #[.agg cs] w fun e w' => e = .returned (.tuple #[]) ∧ Dc B w w'
  | 0, cs, B, w, h, hB, hS => by
    have H := fun W (hW : Dc B w W) => Wt.dc hW 0 cs cs h.size h (Dcs.refl h.size)
    obtain ⟨k, b, i, f, tx, ab, nb, cb, rf, al, nl, cl, af, nf, cf, c, vr, rfl, _⟩ := h
    exact spoilT_step B w k b i f tx ab nb cb rf al nl cl af nf cf c vr (fun _ _ => False) hB hS H (fun _ _ h => h.elim) (fun _ _ _ h => h.elim)
  | n + 1, cs, B, w, h, hB, hS => by
    have H := fun W (hW : Dc B w W) => Wt.dc hW (n + 1) cs cs h.size h (Dcs.refl h.size)
    obtain ⟨k, b, i, f, tx, ab, nb, cb, rf, al, nl, cl, af, nf, cf, c, vr, rfl, _⟩ := h
    refine spoilT_step B w k b i f tx ab nb cb rf al nl cl af nf cf c vr (fun W => Wt W B n) hB hS H (fun W es h => ?_) (fun W es hW h => spoilT_any n es B W h (hW.sub hB) (fun k hk => hW.soft k hk (hS k hk)))
    cases n with
    | zero => obtain ⟨k, b, i, f, tx, ab, nb, cb, rf, al, nl, cl, af, nf, cf, c, vr, e, _⟩ := h; exact ⟨k, b, i, f, tx, ab, nb, cb, rf, al, nl, cl, af, nf, cf, c, vr, e⟩
    | succ n => obtain ⟨k, b, i, f, tx, ab, nb, cb, rf, al, nl, cl, af, nf, cf, c, vr, e, _⟩ := h; exact ⟨k, b, i, f, tx, ab, nb, cb, rf, al, nl, cl, af, nf, cf, c, vr, e⟩
end Go.Proofs.Ytdklpdclbedceaa
