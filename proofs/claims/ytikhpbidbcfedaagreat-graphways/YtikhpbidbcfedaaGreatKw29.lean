/- tenonref14.far: how far each place is. -/
import Derived.Test.YtikhpbidbcfedaaGreatKw18
import Derived.Test.YtikhpbidbcfedaaGreatKw21
import Derived.Test.YtikhpbidbcfedaaGreatKw22
import Derived.Test.YtikhpbidbcfedaaGreatKw16
import Derived.Test.YtikhpbidbcfedaaGreatKw23
import Derived.Test.YtikhpbidbcfedaaGreatKw20
namespace Go.Proofs.YtikhpbidbcfedaaGreat
open Go.RowKit Go.ChangeMaps

def Sp.dsl (L : Nat) (s : Bf) : List Int := (List.range L).map s.dst
theorem dsl_len (L : Nat) (s : Bf) : (Sp.dsl L s).length = L := by simp [Sp.dsl]
theorem dsl_at {L i : Nat} (s : Bf) (h : i < L) : (Sp.dsl L s)[i]? = some (s.dst i) := by simp [Sp.dsl, h]
theorem dsl_put {L n p k : Nat} {s : Bf} : Sp.dsl L (s.put n p k) = (Sp.dsl L s).set n (k : Int) := by
  apply List.ext_getElem?
  intro t
  rw [List.getElem?_set, dsl_len]
  by_cases ht : t < L
  · rw [dsl_at _ ht, dsl_at _ ht]
    by_cases e : n = t
    · subst e; simp [Bf.dst, Bf.put, ht]
    · rw [if_neg e]; simp [Bf.dst, Bf.put, Ne.symm e]
  · rw [List.getElem?_eq_none (by rw [dsl_len]; omega), List.getElem?_eq_none (by rw [dsl_len]; omega)]
    by_cases e : n = t
    · subst e; simp [ht]
    · simp [e]
structure FrI (w : World) (L gi : Nat) (s : Bf) (gs : Option Nat) (c : Nat) (wr : World) : Prop where
  bel : Below w.heap.size w wr
  out : OwnR wr 3 gi L L (iv (Sp.dsl L s))
  ord : NdI wr gs c (s.ord.map fun j : Nat => (j : Int))
  lo : w.heap.size ≤ gi ∧ ∀ g, gs = some g → w.heap.size ≤ g ∧ g ≠ gi
  ok : Bok L s
  lvb : ∀ x ∈ s.ord, s.lv x < s.ord.length
theorem FrI.at_ {w wr : World} {L gi : Nat} {s : Bf} {gs : Option Nat} {c : Nat} (h : FrI w L gi s gs c wr) {i : Nat} (hi : i < L) : wr.cell? ⟨gi, i, none⟩ = some (.int .i64 (s.dst i)) ∧ wr.frozen? ⟨gi, i, none⟩ = false :=
  ⟨h.out.cell (by simp [iv, dsl_at s hi]), h.out.free _⟩
theorem FrI.put {w wr w4 : World} {L gi : Nat} {s : Bf} {gs : Option Nat} {c g' c' n p k : Nat} (h : FrI w L gi s gs c wr) (hn : n < L) (hno : n ∉ s.ord) (hk : k ≤ s.ord.length)
    (ho : OwnR w4 3 g' (s.ord.length + 1) c' (iv (s.ord.map (fun j : Nat => (j : Int)) ++ [(n : Int)]))) (hg : ((wr.setCell ⟨gi, n, none⟩ (.int .i64 (k : Int))).alloc (.cells #[.int .i64 (n : Int)] 3)).grownBy w4 gs) (hor : gs = some g' ∨ (wr.setCell ⟨gi, n, none⟩ (.int .i64 (k : Int))).heap.size < g') :
    FrI w L gi (s.put n p k) (some g') c' w4 := by
  have hgl := h.out.lt
  have hs : (wr.setCell ⟨gi, n, none⟩ (.int .i64 (k : Int))).heap.size = wr.heap.size := by simp [World.setCell]
  rw [hs] at hor
  have hg' : w.heap.size ≤ g' ∧ g' ≠ gi := by
    rcases hor with h1 | h1
    · exact h.lo.2 g' h1
    · have := h.bel.size; exact ⟨by omega, by omega⟩
  have hgi : w4.heap[gi]? = (wr.setCell ⟨gi, n, none⟩ (.int .i64 (k : Int))).heap[gi]? := (hg.block gi (by rw [al_size, hs]; omega) (fun e => by have := (h.lo.2 gi e.symm).2; exact this rfl)).trans (Below.heap_alloc _ _ gi (by rw [hs]; exact hgl))
  have hb1 : Below w.heap.size w (wr.setCell ⟨gi, n, none⟩ (.int .i64 (k : Int))) := ⟨h.bel.os, h.bel.tape, h.bel.output, by rw [hs]; exact h.bel.size, fun k hk => (Below.heap_setCell wr _ _ k (show k ≠ gi by have := h.lo.1; omega)).trans (h.bel.block k hk)⟩
  have hb2 := hb1.alloc hb1.size (.cells #[.int .i64 (n : Int)] 3)
  refine ⟨hb2.grown hg hb2.size (fun k hk => (h.lo.2 k hk).1), ?_, ⟨(fun e => by cases e), fun g hgg => ?_⟩, ⟨h.lo.1, fun g hgg => ?_⟩, ?_, ?_⟩
  · have h1 := (h.out.set n (.int .i64 (k : Int))).keep hgi
    rw [dsl_put]
    rw [show iv ((Sp.dsl L s).set n (k : Int)) = (iv (Sp.dsl L s)).set n (.int .i64 (k : Int)) from List.map_set]
    exact h1
  · injection hgg with hgg; subst hgg
    have : (s.put n p k).ord = s.ord ++ [n] := rfl
    rw [this, List.map_append]
    simpa using ho
  · injection hgg with hgg; subst hgg; exact hg'
  · refine ⟨?_, fun x hx => ?_⟩
    · simp only [Bf.put, List.nodup_append]; exact ⟨h.ok.nd, by simp, fun x hx y hy => by simp at hy; subst hy; exact fun e => hno (e ▸ hx)⟩
    · simp [Bf.put] at hx; rcases hx with hx | rfl
      · exact h.ok.bd x hx
      · exact hn
  · intro x hx
    simp only [Bf.put, List.mem_append, List.mem_singleton] at hx
    simp only [Bf.put, List.length_append, List.length_singleton]
    by_cases e : x = n
    · rw [if_pos e]; omega
    · rw [if_neg e]; have := h.lvb x (hx.resolve_right e); omega
def FarE (w : World) (L : Nat) (s : Bf) (e : Ending) (w' : World) : Prop := ∃ gi, e = .returned (.slice (some ⟨gi, 0, none⟩) L L) ∧ OwnR w' 3 gi L L (iv (Sp.dsl L s)) ∧ w.heap.size ≤ gi ∧ Below w.heap.size w w'

end Go.Proofs.YtikhpbidbcfedaaGreat

/- tenonref14.least: the least of the shortest ways. -/
namespace Go.Proofs.YtikhpbidbcfedaaGreat
open Go.RowKit Go.ChangeMaps

structure DsK (nx : Nat → List Nat) (L b : Nat) (d : Nat → Int) : Prop where
  bd : ∀ x, -1 ≤ d x ∧ d x ≤ 4096
  stp : ∀ n, n < L → 0 ≤ d n → n ≠ b → ∃ v ∈ nx n, d v = d n - 1 ∧ 0 ≤ d v
  b0 : d b = 0
  lt : ∀ i, ∀ x ∈ nx i, x < L
theorem DsK.fnd {nx : Nat → List Nat} {L b : Nat} {d : Nat → Int} (H : DsK nx L b d) {n : Nat} (hn : n < L) (h0 : 0 ≤ d n) (hb : n ≠ b) : ∃ k v : Nat, (nx n)[k]? = some v ∧ d v = d n - 1 ∧ (∀ j u : Nat, j < k → (nx n)[j]? = some u → d u ≠ d n - 1) ∧ Sp.stp nx d n = v ∧ 0 ≤ d v := by
  obtain ⟨v0, h1, h2, h3⟩ := H.stp n hn h0 hb
  cases hf : (nx n).find? fun v => d v == d n - 1 with
  | none => have := List.find?_eq_none.1 hf v0 h1; simp [h2] at this
  | some v =>
    obtain ⟨hp, pre, bs, hl, hno⟩ := List.find?_eq_some_iff_append.1 hf
    have hd : d v = d n - 1 := by simpa using hp
    refine ⟨pre.length, v, by rw [hl]; simp, hd, fun j u hj hu => ?_, by unfold Sp.stp; rw [hf]; rfl, by omega⟩
    rw [hl, List.getElem?_append_left hj] at hu
    have := hno u (List.mem_of_getElem? hu)
    simpa using this
theorem lst_ne {nx : Nat → List Nat} {d : Nat → Int} {b : Nat} : ∀ f n, ∃ r, Sp.lst nx d b f n = n :: r
  | 0, n => ⟨[], rfl⟩
  | f + 1, n => by
    by_cases h : n = b
    · exact ⟨[], by rw [Sp.lst, if_pos h]⟩
    · exact ⟨_, by rw [Sp.lst, if_neg h]⟩
def LsI (nx : Nat → List Nat) (d : Nat → Int) (b a : Nat) (l : List Nat) (n f : Nat) : Prop := l ++ (Sp.lst nx d b f n).drop 1 = Sp.lst nx d b (d a).toNat a ∧ l.length + f = (d a).toNat + 1
theorem LsI.ini {nx : Nat → List Nat} {d : Nat → Int} {b a : Nat} : LsI nx d b a [a] a (d a).toNat := by
  obtain ⟨r, hr⟩ := lst_ne (nx := nx) (d := d) (b := b) (d a).toNat a
  exact ⟨by rw [hr]; rfl, by simp; omega⟩
theorem LsI.step {nx : Nat → List Nat} {d : Nat → Int} {b a n f v : Nat} {l : List Nat} (h : LsI nx d b a l n (f + 1)) (hb : n ≠ b) (hv : Sp.stp nx d n = v) : LsI nx d b a (l ++ [v]) v f := by
  obtain ⟨r, hr⟩ := lst_ne (nx := nx) (d := d) (b := b) f v
  obtain ⟨h1, h2⟩ := h
  refine ⟨?_, by rw [List.length_append, List.length_singleton]; omega⟩
  rw [Sp.lst, if_neg hb, hv] at h1
  rw [← h1, hr]; simp
theorem LsI.fin {nx : Nat → List Nat} {d : Nat → Int} {b a f : Nat} {l : List Nat} (h : LsI nx d b a l b f) (h0 : f = 0) : l = Sp.lst nx d b (d a).toNat a := by
  have := h.1; rw [h0] at this; simpa [Sp.lst] using this

end Go.Proofs.YtikhpbidbcfedaaGreat

/- tenonref14.Path: the least of the shortest ways between two nodes. -/
namespace Go.Proofs.YtikhpbidbcfedaaGreat
open Go.RowKit Go.ChangeMaps

def Sp.path (N : List Int) (nx : Nat → List Nat) (x y : Int) : Option (List Int) :=
  if x ∈ N ∧ y ∈ N then
    let t := Bf.all (Sp.bkn nx N.length) (-1) N.length [N.idxOf y]
    if N.idxOf x ∈ t.ord then some (Sp.rfs N (Sp.lst nx t.dst (N.idxOf y) (t.lv (N.idxOf x)) (N.idxOf x))) else none
  else none
def Sp.pathE (N : List Int) (x y : Int) : Int := if x ∈ N ∧ y ∈ N then 142 else 140
theorem twoW (nx : Nat → List Nat) (L a b : Nat) (hb : ∀ i, ∀ x ∈ nx i, x < L) (hlt : ∀ i, (nx i).Pairwise (· < ·)) (ha : a < L) (hbL : b < L) : TwoW nx (Sp.bkn nx L) L a b (Bf.all nx (-1) L [a]) (Bf.all (Sp.bkn nx L) (-1) L [b]) :=
  ⟨all_BI hlt hb (by simpa using ha), all_BI (fun i => bkn_lt nx L i) (fun i x hx => (bkn_mem.1 hx).1) (by simpa using hbL), fun x y hx _ => by rw [bkn_mem]; exact ⟨fun h => ⟨hx, h⟩, fun h => h.2⟩, hb, fun i x hx => (bkn_mem.1 hx).1, hlt⟩
theorem BI.lvps {nx : Nat → List Nat} {L : Nat} {wo : Int} {src : List Nat} {s : Bf} (H : BI nx wo L src s s.ord.length []) : ∀ n, ∀ x ∈ s.ord, s.ps x ≤ n → s.lv x ≤ s.ps x := by
  intro n
  induction n with
  | zero =>
    intro x hx hn
    rcases H.st x hx with ⟨_, _, h⟩ | ⟨_, h2, _⟩ <;> omega
  | succ n ih =>
    intro x hx hn
    rcases H.st x hx with ⟨_, _, h⟩ | ⟨h1, h2, _, h4, _⟩
    · omega
    · have := ih _ h1 (by omega); omega
theorem TwoW.ds {nx bk : Nat → List Nat} {L a b : Nat} {s t : Bf} (H : TwoW nx bk L a b s t) (hL : L ≤ 4096) : DsK nx L b t.dst where
  bd x := by
    unfold Bf.dst
    split
    · rename_i h
      have h1 := nd_len H.ht.nd H.ht.bd
      have h2 := H.ht.lvps _ x h (Nat.le_refl _)
      have h3 := H.ht.pslt h
      omega
    · omega
  stp n hn h0 hb := by
    have hno : n ∈ t.ord := Classical.byContradiction fun h => by simp [Bf.dst, h] at h0
    obtain ⟨y, h1, h2, h3⟩ := H.d3 hno hb
    exact ⟨y, h1, by simp [Bf.dst, hno, h2, h3], by simp [Bf.dst, h2]⟩
  b0 := by simp [Bf.dst, H.bin, H.lb]
  lt := H.nb

end Go.Proofs.YtikhpbidbcfedaaGreat

/- graph.Path. -/
namespace Go.Proofs.YtikhpbidbcfedaaGreat
open Go.RowKit Go.ChangeMaps

theorem belT2 {B : Nat} {w W0 w1 : World} (h : Below B w W0) (k : Below W0.heap.size W0 w1) (hz : W0.heap.size = B + 1) : Below B w w1 := h.trans ⟨k.os, k.tape, k.output, k.size, fun j hj => k.block j (by omega)⟩
set_option maxRecDepth 100000 in
set_option maxHeartbeats 4000000 in
theorem pPath_any (D : Nat → Prop) (gb : Nat) (N : List Int) (nx : Nat → List Nat) (x y : Int) (w : World) (hg : GrE w D gb N nx) (hx0 : 0 ≤ x ∧ x < 18446744073709551616) (hy0 : 0 ≤ y ∧ y < 18446744073709551616) (hn : N.length ≤ 4096) (hb : ∀ i, ∀ x ∈ nx i, x < N.length) (hnl : ∀ p, (nx p).length ≤ 4096) (hlt : ∀ i, (nx i).Pairwise (· < ·)) :
    Calls Tryz.prog 11 #[.pointer (some ⟨gb, 0, none⟩), .int .u64 x, .int .u64 y] w (ReE w (Sp.path N nx x y) (Sp.pathE N x y)) := by
  obtain ⟨gn, cn, lo, xb, bl, cp, hG⟩ := hg.gr
  have HG : Hid (GR w gb N nx gn cn lo xb bl cp) := hG
  obtain ⟨W0, hW0⟩ : ∃ W0, w.alloc (.cells #[.int .u64 x, .int .u64 y] 25) = W0 := ⟨_, rfl⟩
  have hbW : Below w.heap.size w W0 := by rw [← hW0]; exact (Below.refl _ _).alloc (Nat.le_refl _) _
  have hWn : W0.heap[w.heap.size]? = some (.cells #[.int .u64 x, .int .u64 y] 25 (0, 0)) := by rw [← hW0]; exact heap_alloc_new w _
  have hWz : W0.heap.size = w.heap.size + 1 := by rw [← hW0]; exact al_size _ _
  have hRA : RefsAt W0 (w.heap.size + 1) (some ⟨w.heap.size, 0, none⟩) [x, y] := by
    refine ⟨?_, (fun h => by cases h), fun z hz => ?_⟩
    · intro t u hu
      refine ⟨w.heap.size, 0, rfl, by omega, ?_⟩
      rcases t with _ | _ | t
      · simp [World.cell?, hWn] at hu ⊢; exact hu
      · simp [World.cell?, hWn] at hu ⊢; exact hu
      · simp at hu
    · simp at hz; rcases hz with rfl | rfl
      · exact hx0
      · exact hy0
  have HP : Hid (Calls Tryz.prog 28 #[.pointer (some ⟨gb, 0, none⟩), .slice (some ⟨w.heap.size, 0, none⟩) 2 2] W0 (PlE W0 N [x, y])) := by
    obtain ⟨gs, c, mb, xb2, G, es, ck, bl2, cp2, lo2, h⟩ := hg
    have hxl := h.nxt.lt
    have hcn : CnG W0 gb mb xb2 N.length (.slice (adr gs) N.length c) G es ck N := h.cn.keep ⟨hbW.os, hbW.tape, hbW.output, hbW.size, fun k hk _ => hbW.block k hk⟩
    exact placesOf_any gb mb xb2 N.length _ G es ck N _ 2 [x, y] (w.heap.size + 1) W0 hcn hRA (by omega) (by simp)
  have HSP : Hid (∀ (a g c2 : Nat) (W : World), Below w.heap.size w W → InI W (some ⟨g, 0, none⟩) [a] → a < N.length → Calls Tryz.prog 30 #[.pointer (some ⟨gb, 0, none⟩), .slice (some ⟨g, 0, none⟩) 1 c2, .int .i64 (-1)] W (SprE W N.length (Bf.all nx (-1) N.length [a]))) := fun a g c2 W hW hi ha => spread_any gb N nx gn cn lo xb bl cp (some ⟨g, 0, none⟩) c2 [a] (-1) W (hG.keep hW) hi (by simpa using ha) hb hn (by simp) hnl
  have HRF : Hid (∀ (g c2 : Nat) (l : List Nat) (W : World), Below w.heap.size w W → InI W (some ⟨g, 0, none⟩) l → (∀ x ∈ l, x < N.length) → l.length ≤ 4096 → Calls Tryz.prog 32 #[.pointer (some ⟨gb, 0, none⟩), .slice (some ⟨g, 0, none⟩) l.length c2] W (RfE W (Sp.rfs N l))) := fun g c2 l W hW hi hl hll => refs_any gb N nx gn cn lo xb bl cp (some ⟨g, 0, none⟩) c2 l W (hG.keep hW) hi hl (by omega)
  have HTW : Hid (∀ a b, a < N.length → b < N.length → TwoW nx (Sp.bkn nx N.length) N.length a b (Bf.all nx (-1) N.length [a]) (Bf.all (Sp.bkn nx N.length) (-1) N.length [b])) := fun a b ha hbL => twoW nx N.length a b hb hlt ha hbL
  have HBW : Hid (Below w.heap.size w W0 ∧ W0.heap.size = w.heap.size + 1) := ⟨hbW, hWz⟩
  clear hg hG hb hnl hlt HG hRA hWn hbW hWz hx0 hy0
  go_enter Tryz.func11, Tryz.ntmps11
  go_wp2_with fail
  clear hW0
  refine HP.out.mono ?_
  rintro e w1 ⟨hb1, h⟩
  rcases h with ⟨hn0, rfl⟩ | ⟨ps, gs, c, hps, rfl, hnd, hlo⟩
  · have hnot : ¬ (x ∈ N ∧ y ∈ N) := fun h => by simp [Sp.pls, h.1, h.2] at hn0
    have HF : Hid (Below w.heap.size w w1 ∧ Sp.path N nx x y = none ∧ Sp.pathE N x y = 140) := ⟨belT2 HBW.out.1 hb1 HBW.out.2, by unfold Sp.path; rw [if_neg hnot], by unfold Sp.pathE; rw [if_neg hnot]⟩
    clear hb1 hn0 hnot HP HSP HRF HTW HBW
    go_wp2_with fail
    go_ret2
    exact ⟨HF.out.1, .inl ⟨HF.out.2.1, by rw [HF.out.2.2]; rfl⟩⟩
  · have hx : x ∈ N := Classical.byContradiction fun h => by simp [Sp.pls, h] at hps
    have hy : y ∈ N := Classical.byContradiction fun h => by simp [Sp.pls, h, hx] at hps
    obtain ⟨a, ha⟩ : ∃ a, N.idxOf x = a := ⟨_, rfl⟩
    obtain ⟨b, hbb⟩ : ∃ b, N.idxOf y = b := ⟨_, rfl⟩
    have haL : a < N.length := by rw [← ha]; exact List.idxOf_lt_length_of_mem hx
    have hbL : b < N.length := by rw [← hbb]; exact List.idxOf_lt_length_of_mem hy
    have hpe : ps = [a, b] := by simp [Sp.pls, hx, hy, ha, hbb] at hps; exact hps.symm
    subst hpe
    obtain ⟨g, rfl⟩ : ∃ g, gs = some g := by
      cases gs with
      | some g => exact ⟨g, rfl⟩
      | none => have := (hnd.1 rfl).1; simp at this
    have hcb : w1.cell? ⟨g, 1, none⟩ = some (.int .i64 (b : Nat)) := (hnd.2 g rfl).cell (by simp [iv])
    have hgl := (hnd.2 g rfl).lt
    have hcc : 2 ≤ c := by
      obtain ⟨cur, _, h2, _⟩ := (hnd.2 g rfl).blk
      simpa using h2
    have hIN : InI w1 (some ⟨g, 0, none⟩) [a] := fun t u hu => by
      rcases t with _ | t
      · simp [iv] at hu; subst hu
        exact ⟨g, 0, rfl, hgl, (hnd.2 g rfl).cell (by simp [iv])⟩
      · simp [iv] at hu
    have hbw1 := belT2 HBW.out.1 hb1 HBW.out.2
    have HS2 : Hid (∀ c2, Calls Tryz.prog 30 #[.pointer (some ⟨gb, 0, none⟩), .slice (some ⟨g, 0, none⟩) 1 c2, .int .i64 (-1)] w1 (SprE w1 N.length (Bf.all nx (-1) N.length [a]))) := fun c2 => HSP.out a g c2 w1 hbw1 hIN haL
    have H2 := HTW.out a b haL hbL
    obtain ⟨t, ht⟩ : ∃ t, Bf.all (Sp.bkn nx N.length) (-1) N.length [b] = t := ⟨_, rfl⟩
    obtain ⟨s, hs⟩ : ∃ s, Bf.all nx (-1) N.length [a] = s := ⟨_, rfl⟩
    rw [ht, hs] at H2
    rw [hs] at HS2
    have HTT : Hid (TwoW nx (Sp.bkn nx N.length) N.length a b s t) := H2
    have HF0 : Hid (b ∉ s.ord → Sp.path N nx x y = none ∧ Sp.pathE N x y = 142) := fun h => by
      have h' : a ∉ t.ord := fun h2 => h (H2.both.1 h2)
      unfold Sp.path Sp.pathE
      simp only [hx, hy, and_self, if_true, ha, hbb, ht, if_neg h']
    have HF1 : Hid (b ∈ s.ord → Sp.path N nx x y = some (Sp.rfs N (s.chn (s.ps b) b).reverse)) := fun h => by
      obtain ⟨h1, h2⟩ := H2.way h
      unfold Sp.path
      simp only [hx, hy, and_self, if_true, ha, hbb, ht, if_pos h2, h1]
    have HB1 : Hid (Below w.heap.size w w1) := hbw1
    have hadg : adr (some g) = some ⟨g, 0, none⟩ := rfl
    clear hb1 hps hnd hlo hIN hbw1 HP HSP HTW HBW hx hy ha hbb ht hs H2
    go_wp2_with fail
    refine (HS2.out c).mono ?_
    rintro e w2 ⟨gi, gs2, c2, rfl, hby, hor, hgi, hg2, hb2⟩
    obtain ⟨W3, hW3⟩ : ∃ W3, w2.alloc (.cells #[.slice (some ⟨gi, 0, none⟩) N.length N.length, .slice (adr gs2) s.ord.length c2] 65) = W3 := ⟨_, rfl⟩
    have hbx : W3.heap[w2.heap.size]? = some (.cells #[.slice (some ⟨gi, 0, none⟩) N.length N.length, .slice (adr gs2) s.ord.length c2] 65 (0, 0)) := by rw [← hW3]; exact heap_alloc_new w2 _
    have hb3 : Below w2.heap.size w2 W3 := by rw [← hW3]; exact (Below.refl _ _).alloc (Nat.le_refl _) _
    have hz3 : W3.heap.size = w2.heap.size + 1 := by rw [← hW3]; exact al_size _ _
    have hgl2 : g < w2.heap.size := Nat.lt_of_lt_of_le hgl hb2.size
    have hgl3 : g < W3.heap.size := by omega
    have hcb2 : W3.cell? ⟨g, 1, none⟩ = some (.int .i64 (b : Nat)) := by rw [World.cell?_of_block (w := w2) (hb3.block g hgl2), World.cell?_of_block (w := w1) (hb2.block g hgl)]; exact hcb
    have hx30 : W3.cell? ⟨w2.heap.size, 0, none⟩ = some (.slice (some ⟨gi, 0, none⟩) N.length N.length) := by simp [World.cell?, hbx]
    have hx31 : W3.cell? ⟨w2.heap.size, 1, none⟩ = some (.slice (adr gs2) s.ord.length c2) := by simp [World.cell?, hbx]
    have hby3 := hby.keep (hb3.block gi hby.lt)
    have HBY : Hid (Below w.heap.size w W3 ∧ OwnR W3 3 gi N.length N.length (iv (Sp.byl N.length s)) ∧ w2.heap.size < W3.heap.size) := ⟨belT HB1.out (hb2.trans (hb3.mono hb2.size)), hby3, by omega⟩
    have hcv : W3.cell? ⟨gi, b, none⟩ = some (.int .i64 (if b ∈ s.ord then (s.bq b : Int) else -1)) := hby3.cell (by simp [iv, byl_at s hbL])
    obtain ⟨V, hV⟩ : ∃ V, (if b ∈ s.ord then (s.bq b : Int) else -1) = V := ⟨_, rfl⟩
    rw [hV] at hcv
    have HH : Hid (∀ W : World, Below W3.heap.size W3 W → Calls Tryz.prog 31 #[.agg #[.slice (some ⟨gi, 0, none⟩) N.length N.length, .slice (adr gs2) s.ord.length c2], .int .i64 (b : Int)] W fun e w' => e = .returned (.bool (V != -1)) ∧ Below W.heap.size W w') := fun W hW => has_any gi N.length N.length _ b _ W (by rw [World.cell?_of_block (w := W3) (hW.block gi hby3.lt)]; exact hcv) hbL
    have HX3 : Hid (g < W3.heap.size ∧ W3.cell? ⟨g, 1, none⟩ = some (.int .i64 (b : Nat)) ∧ W3.cell? ⟨w2.heap.size, 0, none⟩ = some (.slice (some ⟨gi, 0, none⟩) N.length N.length) ∧ W3.cell? ⟨w2.heap.size, 1, none⟩ = some (.slice (adr gs2) s.ord.length c2)) := ⟨hgl3, hcb2, hx30, hx31⟩
    clear hby hor hgi hg2 hb2 hcv hcb hgl HS2 HB1 hb3 hbx hby3 hgl2 hz3 hgl3
    go_wp2_with fail
    clear hW3
    go_cut [30] from 25 (fun v30 wc => v30 = .bool (!(V != -1)) ∧ Hid (Below W3.heap.size W3 wc))
    case first =>
      go_region_with (go_at_call 31; refine (HH.out _ (by first | exact (Below.refl _ _).drew | exact Below.refl _ _)).mono ?_; rintro e w4 ⟨rfl, hb4⟩; have HB4 : Hid (Below W3.heap.size W3 w4) := ⟨hb4.os, hb4.tape, hb4.output, hb4.size, hb4.block⟩; clear hb4)
      all_goals go_wp2_with fail
      all_goals go_meet
      all_goals exact ⟨rfl, HB4.out⟩
    case rest =>
    obtain ⟨rfl, HC⟩ := hcut
    have kk : ∀ q o, q < W3.heap.size → wc.cell? ⟨q, o, none⟩ = W3.cell? ⟨q, o, none⟩ := fun q o hq => World.cell?_of_block (HC.out.block q hq)
    have hcb3 : wc.cell? ⟨g, 1, none⟩ = some (.int .i64 (b : Nat)) := by rw [kk _ _ HX3.out.1]; exact HX3.out.2.1
    have hy30 : wc.cell? ⟨w2.heap.size, 0, none⟩ = some (.slice (some ⟨gi, 0, none⟩) N.length N.length) := by rw [kk _ _ HBY.out.2.2]; exact HX3.out.2.2.1
    have hy31 : wc.cell? ⟨w2.heap.size, 1, none⟩ = some (.slice (adr gs2) s.ord.length c2) := by rw [kk _ _ HBY.out.2.2]; exact HX3.out.2.2.2
    have HB3 : Hid (Below w.heap.size w wc ∧ OwnR wc 3 gi N.length N.length (iv (Sp.byl N.length s))) := ⟨belT HBY.out.1 HC.out, HBY.out.2.1.keep (HC.out.block gi HBY.out.2.1.lt)⟩
    clear kk hcb2 hx30 hx31 HX3 HBY HH HC
    by_cases hin : b ∈ s.ord
    · have hv : (V != -1) = true := by rw [← hV, if_pos hin]; simp
      rw [hv]
      have HWY : Hid (∀ W : World, Below wc.heap.size wc W → Calls Tryz.prog 33 #[.agg #[.slice (some ⟨gi, 0, none⟩) N.length N.length, .slice (adr gs2) s.ord.length c2], .int .i64 (b : Int)] W (WayE W (s.chn (s.ps b) b).reverse)) := fun W hW => way_any nx (-1) N.length [a] s HTT.out.hs gi _ b W hin (HB3.out.2.keep (hW.block gi HB3.out.2.lt)) hn
      have hwf := (chn_way HTT.out.hs (s.ps b) b hin (Nat.le_refl _)).1
      have HWF : Hid ((∀ x ∈ (s.chn (s.ps b) b).reverse, x < N.length) ∧ (s.chn (s.ps b) b).reverse.length ≤ 4096) := ⟨hwf.bd, Nat.le_trans (nd_len hwf.nd hwf.bd) hn⟩
      have HP1 : Hid (Sp.path N nx x y = some (Sp.rfs N (s.chn (s.ps b) b).reverse)) := HF1.out hin
      obtain ⟨l, hl⟩ : ∃ l, (s.chn (s.ps b) b).reverse = l := ⟨_, rfl⟩
      rw [hl] at HWY HWF HP1
      clear hwf hl hv hV hin HF0 HF1 HTT
      go_wp2_with fail
      go_cut [6, 7] from 25 (fun v6 v7 wx => v7 = .int .i64 0 ∧ ∃ (gs5 : Option Nat) (c5 : Nat), v6 = .slice (adr gs5) (Sp.rfs N l).length c5 ∧ Hid (NdR wx gs5 c5 (Sp.rfs N l) ∧ (∀ g, gs5 = some g → w.heap.size ≤ g) ∧ Below w.heap.size w wx))
      case first =>
        go_region_with (first
          | (go_at_call 33; refine (HWY.out _ (by first | exact (Below.refl _ _).drew | exact Below.refl _ _)).mono ?_; rintro e w4 ⟨g4, c4, rfl, ho4, hlo4, hb4⟩; have hbb4 : Below w.heap.size w w4 := belT HB3.out.1 ⟨hb4.os, hb4.tape, hb4.output, hb4.size, hb4.block⟩; have HRR : Hid (Calls Tryz.prog 32 #[.pointer (some ⟨gb, 0, none⟩), .slice (some ⟨g4, 0, none⟩) l.length c4] w4 (RfE w4 (Sp.rfs N l))) := HRF.out g4 c4 l w4 hbb4 (fun t u hu => ⟨g4, 0, rfl, ho4.lt, by simpa using ho4.cell hu⟩) HWF.out.1 HWF.out.2; have HB4 : Hid (Below w.heap.size w w4) := hbb4; clear hbb4 ho4 hlo4 hb4)
          | (go_at_call 32; refine HRR.out.mono ?_; rintro e w5 ⟨gs5, c5, rfl, h1, h2, h3⟩; have HF3 : Hid (NdR w5 gs5 c5 (Sp.rfs N l) ∧ (∀ g, gs5 = some g → w.heap.size ≤ g) ∧ Below w.heap.size w w5) := ⟨h1, fun g hg => Nat.le_trans HB4.out.size (h2 g hg), belT HB4.out h3⟩; clear h1 h2 h3))
        all_goals go_wp2_with fail
        all_goals go_meet
        all_goals exact ⟨rfl, gs5, c5, rfl, HF3.out⟩
      case rest =>
        obtain ⟨rfl, gs5, c5, rfl, HF3⟩ := hcut
        go_wp2_with fail
        go_ret2
        exact ⟨HF3.out.2.2, .inr ⟨_, gs5, c5, HP1.out, rfl, HF3.out.1, HF3.out.2.1⟩⟩
    · have hv : (V != -1) = false := by rw [← hV, if_neg hin]; rfl
      rw [hv]
      have HP1 : Hid (Sp.path N nx x y = none ∧ Sp.pathE N x y = 142) := HF0.out hin
      clear hv hV hin HF0 HF1 HTT HRF
      go_wp2_with fail
      go_ret2
      exact ⟨HB3.out.1, .inl ⟨HP1.out.1, by rw [HP1.out.2]; rfl⟩⟩
end Go.Proofs.YtikhpbidbcfedaaGreat

