/- A graph that is only read; a search as it lies in memory. -/
import Derived.Test.YtikhpbidbcfedaaGreatKk1
import Derived.Test.YtikhpbidbcfedaaGreatKk14
import Derived.Test.YtikhpbidbcfedaaGreatKk15
import Derived.RangeFuncBox
import Derived.RangeFuncLeaves
import Derived.Shelf.Abstract
import Derived.WalkKit
import Derived.OwnWalkIn
import Derived.TacticsInMore
import Derived.LoopNIn
import Derived.LoopIn
import Derived.Maps.AppendAt
import Derived.Test.YtikhpbidbcfedaaGreatKk12
namespace Go.Proofs.YtikhpbidbcfedaaGreat
open Go.RowKit Go.ChangeMaps

structure GR (w : World) (gb : Nat) (N : List Int) (nx : Nat → List Nat) (gn : Option Nat) (cn lo xb : Nat) (bl : Nat → Option Nat) (cp : Nat → Nat) : Prop where
  c0 : w.cell? ⟨gb, 0, none⟩ = some (.slice (adr gn) N.length cn)
  c2 : w.cell? ⟨gb, 2, none⟩ = some (.slice (some ⟨xb, 0, none⟩) N.length N.length)
  nds : Nds w gn cn N
  nxt : NxR w lo xb N.length bl cp (fun t => (nx t).map (fun j : Nat => (j : Int)))
  lt : gb < w.heap.size
theorem GR.keep {w w' : World} {gb : Nat} {N : List Int} {nx : Nat → List Nat} {gn : Option Nat} {cn lo xb : Nat} {bl : Nat → Option Nat} {cp : Nat → Nat} (h : GR w gb N nx gn cn lo xb bl cp) (hb : Below w.heap.size w w') : GR w' gb N nx gn cn lo xb bl cp :=
  ⟨by rw [World.cell?_of_block (w := w) (hb.block gb h.lt)]; exact h.c0, by rw [World.cell?_of_block (w := w) (hb.block gb h.lt)]; exact h.c2,
   h.nds.keep (fun g hg => hb.block g (h.nds.2 g hg).lt), h.nxt.keep (hb.block xb h.nxt.lt.1) (fun t g ht hg => hb.block g (h.nxt.lt.2 t g ht hg)), Nat.lt_of_lt_of_le h.lt hb.size⟩
def GRE (w : World) (gb : Nat) (N : List Int) (nx : Nat → List Nat) : Prop := ∃ gn cn lo xb bl cp, GR w gb N nx gn cn lo xb bl cp
theorem GRE.keep {w w' : World} {gb : Nat} {N : List Int} {nx : Nat → List Nat} (h : GRE w gb N nx) (hb : Below w.heap.size w w') : GRE w' gb N nx := by
  obtain ⟨gn, cn, lo, xb, bl, cp, h⟩ := h
  exact ⟨gn, cn, lo, xb, bl, cp, h.keep hb⟩
theorem GrE.gr {w : World} {D : Nat → Prop} {gb : Nat} {N : List Int} {nx : Nat → List Nat} (h : GrE w D gb N nx) : GRE w gb N nx := by
  obtain ⟨gs, c, mb, xb, G, es, ck, bl, cp, lo, h⟩ := h
  exact ⟨gs, c, lo, xb, bl, cp, by simp [World.cell?, h.cn.cells], by simp [World.cell?, h.cn.cells], h.nds, h.nxt, (Array.getElem?_eq_some_iff.1 h.cn.cells).1⟩
theorem GR.row {w : World} {gb : Nat} {N : List Int} {nx : Nat → List Nat} {gn : Option Nat} {cn lo xb : Nat} {bl : Nat → Option Nat} {cp : Nat → Nat} (h : GR w gb N nx gn cn lo xb bl cp) {p : Nat} (hp : p < N.length) :
    w.cell? ⟨xb, p, none⟩ = some (.slice (adr (bl p)) (nx p).length (cp p)) ∧ ∀ k j, (nx p)[k]? = some j → ∃ g, bl p = some g ∧ w.cell? ⟨g, k, none⟩ = some (.int .i64 (j : Nat)) := by
  refine ⟨by have := (h.nxt.cell hp).1; rwa [List.length_map] at this, fun k j hj => ?_⟩
  obtain ⟨g, hg⟩ : ∃ g, bl p = some g := by
    cases hb : bl p with
    | some g => exact ⟨g, rfl⟩
    | none => have := ((h.nxt.row p hp).1 hb).1; rw [List.map_eq_nil_iff] at this; rw [this] at hj; simp at hj
  exact ⟨g, hg, ((h.nxt.row p hp).2 g hg).cell (by simp [iv, hj])⟩
def InI (w : World) (a : Option Addr) (l : List Nat) : Prop := RowV w (· < w.heap.size) a (iv (l.map fun j : Nat => (j : Int)))
theorem InI.keep {w w' : World} {a : Option Addr} {l : List Nat} (h : InI w a l) (hb : Below w.heap.size w w') : InI w' a l := RowV.same h (fun k hk => hb.block k hk) (fun _ hk => Nat.lt_of_lt_of_le hk hb.size)
theorem InI.at_ {w : World} {a : Option Addr} {l : List Nat} (h : InI w a l) {i j : Nat} (hj : l[i]? = some j) : ∃ b o, a = some ⟨b, o, none⟩ ∧ w.cell? ⟨b, o + i, none⟩ = some (.int .i64 (j : Nat)) := by
  obtain ⟨b, o, h1, _, h2⟩ := h i (.int .i64 (j : Nat)) (by simp [iv, hj])
  exact ⟨b, o, h1, h2⟩
theorem NdI.inI {w : World} {gs : Option Nat} {c : Nat} {l : List Nat} (h : NdI w gs c (l.map fun j : Nat => (j : Int))) : InI w (adr gs) l := by
  intro t x hx
  cases gs with
  | none => have := (h.1 rfl).1; rw [this] at hx; simp at hx
  | some g => exact ⟨g, 0, rfl, (h.2 g rfl).lt, by simpa using (h.2 g rfl).cell hx⟩

def Sp.bls (L : Nat) (s : Bf) : List Bool := (List.range L).map fun i => decide (i ∈ s.ord)
theorem bls_len (L : Nat) (s : Bf) : (Sp.bls L s).length = L := by simp [Sp.bls]
theorem bls_at {L i : Nat} (s : Bf) (h : i < L) : (Sp.bls L s)[i]? = some (decide (i ∈ s.ord)) := by simp [Sp.bls, h]
theorem bls_put {L n p k : Nat} {s : Bf} : Sp.bls L (s.put n p k) = (Sp.bls L s).set n true := by
  apply List.ext_getElem?
  intro t
  rw [List.getElem?_set, bls_len]
  by_cases ht : t < L
  · rw [bls_at _ ht, bls_at _ ht]
    by_cases e : n = t
    · subst e; simp [Bf.put, ht]
    · simp [Bf.put, e, Ne.symm e]
  · rw [List.getElem?_eq_none (by rw [bls_len]; omega), List.getElem?_eq_none (by rw [bls_len]; omega)]
    by_cases e : n = t
    · subst e; simp [ht]
    · simp [e]
theorem row_append {wo : Int} {p : Nat} : ∀ (l m : List Nat) (s : Bf), Bf.row wo p (l ++ m) s = Bf.row wo p m (Bf.row wo p l s)
  | [], m, s => rfl
  | n :: l, m, s => by rw [List.cons_append, Bf.row, row_append l m, Bf.row]
theorem ini_append {wo : Int} : ∀ (l m : List Nat) (s : Bf), Bf.ini wo (l ++ m) s = Bf.ini wo m (Bf.ini wo l s)
  | [], m, s => rfl
  | n :: l, m, s => by rw [List.cons_append, Bf.ini, ini_append l m, Bf.ini]
theorem ini_snoc {wo : Int} {l : List Nat} {i n : Nat} {s : Bf} (h : l[i]? = some n) : Bf.ini wo (l.take (i + 1)) s = (Bf.ini wo (l.take i) s).met wo n n 0 := by
  rw [List.take_add_one, h, ini_append]; rfl
theorem row_snoc {wo : Int} {p : Nat} {l : List Nat} {i n : Nat} {s : Bf} (h : l[i]? = some n) : Bf.row wo p (l.take (i + 1)) s = (Bf.row wo p (l.take i) s).met wo n p ((Bf.row wo p (l.take i) s).lv p + 1) := by
  rw [List.take_add_one, h, row_append]; rfl
structure Bok (L : Nat) (s : Bf) : Prop where
  nd : s.ord.Nodup
  bd : ∀ x ∈ s.ord, x < L
theorem Bok.met {L : Nat} {s : Bf} (h : Bok L s) {wo : Int} {n p k : Nat} (hn : n < L) : Bok L (s.met wo n p k) := by
  unfold Bf.met
  split
  · rename_i hc
    refine ⟨?_, fun x hx => ?_⟩
    · simp only [Bf.put, List.nodup_append]; exact ⟨h.nd, by simp, fun x hx y hy => by simp at hy; subst hy; exact fun e => hc.2 (e ▸ hx)⟩
    · simp [Bf.put] at hx; rcases hx with hx | rfl
      · exact h.bd x hx
      · exact hn
  · exact h
theorem Bok.row {L : Nat} {wo : Int} {p : Nat} : ∀ {l : List Nat} {s : Bf}, Bok L s → (∀ x ∈ l, x < L) → Bok L (Bf.row wo p l s)
  | [], s, h, hl => h
  | n :: l, s, h, hl => by rw [Bf.row]; exact Bok.row (h.met (hl n (by simp))) (fun x hx => hl x (by simp [hx]))
theorem Bok.ini {L : Nat} {wo : Int} : ∀ {l : List Nat} {s : Bf}, Bok L s → (∀ x ∈ l, x < L) → Bok L (Bf.ini wo l s)
  | [], s, h, hl => h
  | n :: l, s, h, hl => by rw [Bf.ini]; exact Bok.ini (h.met (hl n (by simp))) (fun x hx => hl x (by simp [hx]))
theorem Bok.rnd {L : Nat} {nx : Nat → List Nat} {wo : Int} {s0 : Bf} (h : Bok L s0) (hb : ∀ i, ∀ x ∈ nx i, x < L) : ∀ k, Bok L (Bf.rnd nx wo s0 k)
  | 0 => h
  | k + 1 => by
    rw [Bf.rnd]; split
    · exact (Bok.rnd h hb k).row (hb _)
    · exact Bok.rnd h hb k
theorem Bok.no (L : Nat) : Bok L Bf.no := ⟨by simp [Bf.no], by simp [Bf.no]⟩
theorem Bok.len {L : Nat} {s : Bf} (h : Bok L s) : s.ord.length ≤ L := nd_len h.nd h.bd

structure SrI (w : World) (L gi : Nat) (s : Bf) (gs : Option Nat) (c : Nat) (wr : World) : Prop where
  bel : Below w.heap.size w wr
  bls : OwnR wr 4 gi L L (bv (Sp.bls L s))
  ord : NdI wr gs c (s.ord.map fun j : Nat => (j : Int))
  lo : w.heap.size ≤ gi ∧ ∀ g, gs = some g → w.heap.size ≤ g ∧ g ≠ gi
  ok : Bok L s
theorem SrI.at_ {w wr : World} {L gi : Nat} {s : Bf} {gs : Option Nat} {c : Nat} (h : SrI w L gi s gs c wr) {i : Nat} (hi : i < L) : wr.cell? ⟨gi, i, none⟩ = some (.bool (decide (i ∈ s.ord))) ∧ wr.frozen? ⟨gi, i, none⟩ = false :=
  ⟨h.bls.cell (by simp [bv, bls_at s hi]), h.bls.free _⟩
theorem SrI.put {w wr w4 : World} {L gi : Nat} {s : Bf} {gs : Option Nat} {c g' c' n p k : Nat} (h : SrI w L gi s gs c wr) (hn : n < L) (hno : n ∉ s.ord)
    (ho : OwnR w4 3 g' (s.ord.length + 1) c' (iv (s.ord.map (fun j : Nat => (j : Int)) ++ [(n : Int)]))) (hg : ((wr.setCell ⟨gi, n, none⟩ (.bool true)).alloc (.cells #[.int .i64 (n : Int)] 3)).grownBy w4 gs) (hor : gs = some g' ∨ (wr.setCell ⟨gi, n, none⟩ (.bool true)).heap.size < g') :
    SrI w L gi (s.put n p k) (some g') c' w4 := by
  have hgl := h.bls.lt
  have hs : (wr.setCell ⟨gi, n, none⟩ (.bool true)).heap.size = wr.heap.size := by simp [World.setCell]
  rw [hs] at hor
  have hg' : w.heap.size ≤ g' ∧ g' ≠ gi := by
    rcases hor with h1 | h1
    · exact h.lo.2 g' h1
    · have := h.bel.size; exact ⟨by omega, by omega⟩
  have hgi : w4.heap[gi]? = (wr.setCell ⟨gi, n, none⟩ (.bool true)).heap[gi]? := (hg.block gi (by rw [al_size, hs]; omega) (fun e => by have := (h.lo.2 gi e.symm).2; exact this rfl)).trans (Below.heap_alloc _ _ gi (by rw [hs]; exact hgl))
  have hb1 : Below w.heap.size w (wr.setCell ⟨gi, n, none⟩ (.bool true)) := ⟨h.bel.os, h.bel.tape, h.bel.output, by rw [hs]; exact h.bel.size, fun k hk => (Below.heap_setCell wr _ _ k (show k ≠ gi by have := h.lo.1; omega)).trans (h.bel.block k hk)⟩
  have hb2 := hb1.alloc hb1.size (.cells #[.int .i64 (n : Int)] 3)
  refine ⟨hb2.grown hg hb2.size (fun k hk => (h.lo.2 k hk).1), ?_, ⟨(fun e => by cases e), fun g hgg => ?_⟩, ⟨h.lo.1, fun g hgg => ?_⟩, ?_⟩
  · have h1 := (h.bls.set n (.bool true)).keep hgi
    rw [bls_put]
    rw [show bv ((Sp.bls L s).set n true) = (bv (Sp.bls L s)).set n (.bool true) from List.map_set]
    exact h1
  · injection hgg with hgg; subst hgg
    have : (s.put n p k).ord = s.ord ++ [n] := rfl
    rw [this, List.map_append]
    simpa using ho
  · injection hgg with hgg; subst hgg; exact hg'
  · refine ⟨?_, fun x hx => ?_⟩
    · simp only [Bf.put, List.nodup_append]; exact ⟨h.ok.nd, by simp, fun x hx y hy => by simp at hy; subst hy; exact fun e => hno (e ▸ hx)⟩
    · simp [Bf.put] at hx; rcases hx with hx | rfl
      · exact h.ok.bd x hx
      · exact hn
end Go.Proofs.YtikhpbidbcfedaaGreat

/- slices.Values of a row of ints: its iterator tells them, one behind the other. -/
namespace Go.Proofs.YtikhpbidbcfedaaGreat
open Go.RowKit Go.Shelf

attribute [local go_sem] Oper.semAt_some

def IRow (n₀ : Nat) (W : World) (sv : Value) (zs : List Int) : Prop :=
  (sv = .slice none 0 0 ∧ zs = []) ∨ ∃ b off cap, sv = .slice (some ⟨b, off, none⟩) zs.length cap ∧ b < n₀ ∧ ∀ j z, zs[j]? = some z → W.cell? ⟨b, off + j, none⟩ = some (.int .i64 z)
theorem IRow.below {n₀ : Nat} {A B : World} (h : Below n₀ A B) {sv : Value} {zs : List Int} : IRow n₀ A sv zs → IRow n₀ B sv zs
  | .inl e => .inl e
  | .inr ⟨b, off, cap, e, hb, hc⟩ => .inr ⟨b, off, cap, e, hb, fun j z hj => (h.cell (p := ⟨b, off + j, none⟩) hb).trans (hc j z hj)⟩

set_option maxRecDepth 100000 in
set_option maxHeartbeats 2000000 in
theorem valI1_in (F : Fence) (n : Nat) (h7 : F.fn 71) (hro : F.round = none) (hn : 1 ≤ n) (l Bs n₀ b off cap : Nat) (zs : List Int) (hreach : zs.length * 8 ≤ 140737488351232) (hb : b < n₀) (J Jx : List Int → World → Prop)
    (hY : ∀ pre x W, J pre W → pre.length < zs.length → YieldAt F (n - 1) Tryz.prog l #[.int .i64 x] W fun e W' =>
      (e = .returned (.bool true) ∧ J (pre ++ [x]) W' ∧ Below n₀ W W') ∨ (e = .returned (.bool false) ∧ Jx (pre ++ [x]) W'))
    (W : World) (hBs : W.cell? ⟨Bs, 0, none⟩ = some (.slice (some ⟨b, off, none⟩) zs.length cap)) (hc : ∀ j z, zs[j]? = some z → W.cell? ⟨b, off + j, none⟩ = some (.int .i64 z)) (h0 : J [] W) :
    CallsIn F n Tryz.prog 71 #[.func (.yield l) #[] #[], .pointer (some ⟨Bs, 0, none⟩)] W fun e W' => (∃ v, e = .returned v) ∧
      (J zs W' ∨ (∃ pre, pre <+: zs ∧ Jx pre W')) := by
  refine callsIn_of_wp Tryz.func71 rfl h7 ?_ hro
  simp only [Tryz.ntmps71, List.size_toArray, List.length_cons, List.length_nil, Nat.reduceAdd, Nat.reduceSub, Array.replicate_succ, Array.replicate_zero, List.push_toArray, List.append_toArray, List.nil_append, List.cons_append]
  gi_wp2
  gi_loopw [7] (fun i wr => ∃ k : Nat, k ≤ zs.length ∧ i = .int .i64 k ∧ J (zs.take k) wr ∧ Below n₀ W wr)
    (fun i _ => zs.length - (intOf i).toNat)
  case atStart => exact ⟨0, Nat.zero_le _, rfl, h0, Below.refl _ _⟩
  case round =>
    obtain ⟨k, hk, rfl, hJs, hnx⟩ := hrel
    by_cases hlt : k < zs.length
    · have hz : zs[k]? = some zs[k] := List.getElem?_eq_getElem hlt
      have hcx' : wr.cell? ⟨b, off + k, none⟩ = some (.int .i64 zs[k]) := (hnx.cell (p := ⟨b, off + k, none⟩) hb).trans (hc k _ hz)
      obtain ⟨fn, tmps, assign, body, hy, hR⟩ := hY _ zs[k] wr hJs (by rw [List.length_take]; omega)
      have htk : zs.take k ++ [zs[k]] = zs.take (k + 1) := by rw [List.take_add_one, hz]; rfl
      gi_wp2
      refine hR.mono ?_
      rintro e W3 (⟨rfl, hJ3, hk3⟩ | ⟨rfl, hJx3⟩)
      · gi_wp2
        go_roundw
        case rel => exact ⟨k + 1, by omega, by simp, by rw [← htk]; exact hJ3, hnx.trans hk3⟩
        case measure => simp [intOf]; omega
      · gi_wp2
        refine bodyPost_ret (results_none rfl _ _ _) rfl ?_
        exact ⟨⟨_, rfl⟩, .inr ⟨_, by rw [htk]; exact List.take_prefix _ _, hJx3⟩⟩
    · obtain rfl : k = zs.length := by omega
      gi_wp2
      go_end0
      exact ⟨⟨_, rfl⟩, .inl (by rw [List.take_length] at hJs; exact hJs)⟩

set_option maxRecDepth 100000 in
set_option maxHeartbeats 1000000 in
theorem valI1_nil_in (F : Fence) (n : Nat) (h7 : F.fn 71) (hro : F.round = none) (l Bs : Nat) (J : List Int → World → Prop) (W : World) (hBs : W.cell? ⟨Bs, 0, none⟩ = some (.slice none 0 0)) (h0 : J [] W) :
    CallsIn F n Tryz.prog 71 #[.func (.yield l) #[] #[], .pointer (some ⟨Bs, 0, none⟩)] W fun e W' => (∃ v, e = .returned v) ∧ J [] W' := by
  refine callsIn_of_wp Tryz.func71 rfl h7 ?_ hro
  simp only [Tryz.ntmps71, List.size_toArray, List.length_cons, List.length_nil, Nat.reduceAdd, Nat.reduceSub, Array.replicate_succ, Array.replicate_zero, List.push_toArray, List.append_toArray, List.nil_append, List.cons_append]
  gi_wp2
  gi_loopw [7] (fun i wr => i = .int .i64 0 ∧ J [] wr) (fun _ _ => 0)
  case atStart => exact ⟨rfl, h0⟩
  case round =>
    obtain ⟨rfl, hJs⟩ := hrel
    gi_wp2
    go_end0
    exact ⟨⟨_, rfl⟩, hJs⟩

set_option maxHeartbeats 1000000 in
theorem valI_in (F : Fence) (n : Nat) (h5 : F.fn 52) (hro : F.round = none) (a : Option Addr) (len cap : Nat) (w : World) :
    CallsIn F n Tryz.prog 52 #[.slice a len cap] w fun e w' => e = .returned (.func (.func 71) #[] #[.pointer (some ⟨w.heap.size, 0, none⟩)]) ∧ w' = w.alloc (.cells #[.slice a len cap] 60) := by
  refine callsIn_of_wp Tryz.func52 rfl h5 ?_ hro
  simp only [Tryz.ntmps52, List.size_toArray, List.length_cons, List.length_nil, Nat.reduceAdd, Nat.reduceSub, Array.replicate_succ, Array.replicate_zero, List.push_toArray, List.append_toArray, List.nil_append, List.cons_append]
  gi_wp2
  go_ret
  exact ⟨rfl, rfl⟩

theorem valI_stops (F : Fence) (n : Nat) (h7 : F.fn 71) (hro : F.round = none) (hn : 1 ≤ n) (Bs n₀ : Nat) (sv : Value) (zs : List Int) (hreach : zs.length * 8 ≤ 140737488351232) (w : World) (hBs : Bs < w.heap.size) (hn₀ : n₀ ≤ w.heap.size)
    (hc : w.cell? ⟨Bs, 0, none⟩ = some sv) (hI : IRow n₀ w sv zs) :
    SeqStopsK F n Tryz.prog 71 #[.pointer (some ⟨Bs, 0, none⟩)] (fun x : Int => #[Value.int .i64 x]) (Below n₀) (fun ys => ys = zs) (fun pre => pre <+: zs) zs.length w := fun l J Jx W hW _ _ hY h0 => by
  have hc' := (hW.cell (p := ⟨Bs, 0, none⟩) hBs).trans hc
  rcases hI.below (hW.mono hn₀) with ⟨rfl, rfl⟩ | ⟨b, off, cap, rfl, hb, hcs⟩
  · exact (valI1_nil_in F n h7 hro l Bs J W hc' h0).mono fun e W' ⟨he, hj⟩ => ⟨he, .inl ⟨_, rfl, hj⟩⟩
  · refine (valI1_in F n h7 hro hn l Bs n₀ b off cap zs hreach hb J Jx hY W hc' hcs h0).mono ?_
    rintro e W' ⟨he, hj | ⟨pre, hp, hj⟩⟩
    · exact ⟨he, .inl ⟨_, rfl, hj⟩⟩
    · exact ⟨he, .inr ⟨_, hp, hj⟩⟩


theorem Tryz.infoZi : (Tryz.prog.info? 3).map (fun i => (i.zero, i.size, i.bytes)) = some (some (.int .i64 0), 1, 8) := by kernel_rfl
theorem Tryz.undZi : Tryz.prog.underlying 60 = some (.slice 3) := by kernel_rfl

set_option maxRecDepth 100000 in
set_option maxHeartbeats 2000000 in
theorem apsI_in (F : Fence) (n : Nat) (h3 : F.fn 103) (h5 : F.fn 71) (hro : F.round = none) (hn : 3 ≤ n) (Bs : Nat) (sv : Value) (zs : List Int) (hreach : zs.length * 8 ≤ 140737488351232) (w : World) (hBs : w.cell? ⟨Bs, 0, none⟩ = some sv) (hI : IRow w.heap.size w sv zs) :
    CallsIn F n Tryz.prog 103 #[.slice none 0 0, .func (.func 71) #[] #[.pointer (some ⟨Bs, 0, none⟩)]] w fun e W' => ∃ v, e = .returned v ∧ W'.ownsRow w.heap.size 3 1 v zs.length (zs.map (Value.int .i64)) ∧ (v = .slice none 0 0 ↔ zs = []) ∧ Below w.heap.size w W' := by
  have h1 : 1 ≤ n := by omega
  have hBl : Bs < w.heap.size := World.block_lt_of_cell? _ _ hBs
  obtain ⟨i0, hi, hz0, hz1, hz2⟩ := info_parts Tryz.infoZi
  refine callsIn_of_wp_marks Tryz.func103 rfl h3 ?_ hro
  simp only [Tryz.ntmps103, List.size_toArray, List.length_cons, List.length_nil, Nat.reduceAdd, Nat.reduceSub, Array.replicate_succ, Array.replicate_zero, List.push_toArray, List.append_toArray, List.nil_append, List.cons_append]
  gi_wp2
  have bO := Boxed.new w 60 (.slice none 0 0)
  have hB0 : Below w.heap.size w (w.alloc (.cells #[.slice none 0 0] 60)) := (Below.refl _ w).alloc (Nat.le_refl _) _
  have hcs : (w.alloc (.cells #[.slice none 0 0] 60)).cell? ⟨Bs, 0, none⟩ = some sv := (hB0.cell (p := ⟨Bs, 0, none⟩) hBl).trans hBs
  refine wpIn_rangeFunc_ownG hro h1 (gf := 71) (lb := #[.pointer (some ⟨Bs, 0, none⟩)]) rfl h5 (enters_of Tryz.func71 (by kernel_rfl) rfl)
    (valI_stops F (n - 1) h5 hro (by omega) Bs w.heap.size sv zs hreach _ (by simp; omega) (by simp) hcs (hI.below hB0)) belowK_t (belowK_b (by simp)) (Below.refl _ _) (fun _ => rfl)
    (fun pre W => (∃ v, Boxed W w.heap.size 60 v ∧ W.ownsRow w.heap.size 3 1 v pre.length (pre.map (Value.int .i64)) ∧ (v = .slice none 0 0 ↔ pre = [])) ∧ Below w.heap.size w W)
    (fun _ _ _ => False)
    (OwnFrom.and (Own.from (holdsRow_own w.heap.size w.heap.size 60 3 1 (fun pre : List Int => pre.length) (fun pre => pre.map (Value.int .i64)) (fun pre v => v = .slice none 0 0 ↔ pre = [])) _) (ownFrom_below (Nat.le_refl _) (by simp)))
    (fun _ _ _ _ _ hs _ _ => hs)
    ⟨⟨_, bO, World.ownsRow_nil _ _ _ _, by simp⟩, hB0⟩
    (fun x => { tmps := #[.slice none 0 0, .func (.func 71) #[] #[.pointer (some ⟨Bs, 0, none⟩)], .pointer (some ⟨w.heap.size, 0, none⟩), undef, .slice none 0 0, .int .i64 x, .func (.func 71) #[] #[.pointer (some ⟨Bs, 0, none⟩)], .int .i64 x, undef, undef, undef, undef, undef], defers := [] }) ?assign ?body ?done ?stop
  case assign =>
    intro l x W K hK
    gi_wp2
    exact hK
  case body =>
    rintro l pre x W ⟨⟨v, hv, hrow, hnil⟩, hB⟩ hlt
    have hc := hv.cell
    gi_wp2_with (gi_at_builtin; refine wpListIn_append_own _ rfl _ _ 60 rfl w.heap.size 3 i0 (.int .i64 0) 1 8 Tryz.undZi hi hz0 hz1 hz2 rfl (by decide) _ _ _ rfl (hrow.alloc _) ⟨W.heap.size, 0, none⟩ 1 1 [.int .i64 x] rfl rfl (cell_one_new _ _ _) (by simp [Value.oneCell']) (by unfold maxLen; omega) (by omega) (by have := hB.size; simp; omega) ?_; intro v' w1 hown' hgrow _; obtain ⟨g', cap', rfl⟩ := ownsRow_succ hown'; obtain ⟨hv1, hv2, hr2, hk2, hb2⟩ := hv.appended (by decide) hrow hB.size (Nat.le_refl _) hown' hgrow; have hc1 := hv1.cell; have hf1 := hv1.frozen)
    exact ⟨hk2.from _, hb2, ⟨_, hv2, by simpa using hr2, by simp⟩, hB.trans hb2⟩
  case done =>
    rintro D ys W hD rfl ⟨⟨v, hv, hrow, hnil⟩, hB⟩ hK
    have hc := hv.cell
    gi_wp2
    refine ⟨by simp, .inl ⟨_, _, rfl, run_takeDeferred hK, ?_⟩⟩
    exact ⟨_, results_tmp rfl _ _ _, v, rfl, ownsRow_putObj hrow _ hK rfl, hnil, hB.trans (belowK_b (w := w) (Nat.le_refl _) W D _ _ (by simp at hD; omega) hK rfl rfl)⟩
  case stop =>
    rintro D c pre W _ _ h _
    exact h.elim

set_option maxRecDepth 100000 in
set_option maxHeartbeats 2000000 in
theorem colI_in (F : Fence) (n : Nat) (h8 : F.fn 70) (h3 : F.fn 103) (h5 : F.fn 71) (hro : F.round = none) (hn : 4 ≤ n) (Bs : Nat) (sv : Value) (zs : List Int) (hreach : zs.length * 8 ≤ 140737488351232) (w : World) (hBs : w.cell? ⟨Bs, 0, none⟩ = some sv) (hI : IRow w.heap.size w sv zs) :
    CallsIn F n Tryz.prog 70 #[.func (.func 71) #[] #[.pointer (some ⟨Bs, 0, none⟩)]] w fun e W' => ∃ v, e = .returned v ∧ W'.ownsRow w.heap.size 3 1 v zs.length (zs.map (Value.int .i64)) ∧ (v = .slice none 0 0 ↔ zs = []) ∧ Below w.heap.size w W' := by
  have h1 : 1 ≤ n := by omega
  refine callsIn_of_wp Tryz.func70 rfl h8 ?_ hro
  simp only [Tryz.ntmps70, List.size_toArray, List.length_cons, List.length_nil, Nat.reduceAdd, Nat.reduceSub, Array.replicate_succ, Array.replicate_zero, List.push_toArray, List.append_toArray, List.nil_append, List.cons_append]
  gi_wp2_with (gi_at_call 103; refine (apsI_in F (n - 1) h3 h5 hro (by omega) Bs sv zs hreach _ hBs hI).mono ?_; rintro e w' ⟨v, rfl, hr⟩)
  go_ret
  exact ⟨v, rfl, hr⟩

theorem own_ndI {W : World} {base : Nat} {v : Value} {zs : List Int} (h : W.ownsRow base 3 1 v zs.length (zs.map (Value.int .i64))) : ∃ gs c, v = .slice (adr gs) zs.length c ∧ NdI W gs c zs ∧ ∀ g, gs = some g → base ≤ g := by
  rcases h.2 with ⟨rfl, hz⟩ | ⟨g, cap, cur, rfl, hbase, _⟩
  · have : zs = [] := List.eq_nil_of_length_eq_zero hz
    subst this
    exact ⟨none, 0, rfl, ⟨fun _ => ⟨rfl, rfl⟩, fun g hg => by cases hg⟩, fun g hg => by cases hg⟩
  · exact ⟨some g, cap, rfl, ⟨(fun e => by cases e), fun g' hg => by injection hg with hg; subst hg; exact OwnR.of h⟩, fun g' hg => by injection hg with hg; subst hg; exact hbase⟩
set_option maxRecDepth 100000 in
set_option maxHeartbeats 2000000 in
theorem sortedI_any (Bs : Nat) (sv : Value) (zs : List Int) (hreach : zs.length * 8 ≤ 140737488351232) (w : World) (hBs : w.cell? ⟨Bs, 0, none⟩ = some sv) (hI : IRow w.heap.size w sv zs) :
    Calls Tryz.prog 51 #[.func (.func 71) #[] #[.pointer (some ⟨Bs, 0, none⟩)]] w fun e W' => ∃ gs c, e = .returned (.slice (adr gs) zs.length c) ∧ NdI W' gs c (Sp.srt zs) ∧ (∀ g, gs = some g → w.heap.size ≤ g) ∧ Below w.heap.size w W' := by
  have HC : Hid (Calls Tryz.prog 70 #[.func (.func 71) #[] #[.pointer (some ⟨Bs, 0, none⟩)]] w fun e W' => ∃ v, e = .returned v ∧ W'.ownsRow w.heap.size 3 1 v zs.length (zs.map (Value.int .i64)) ∧ (v = .slice none 0 0 ↔ zs = []) ∧ Below w.heap.size w W') :=
    (callsIn_wide (n := 4)).1 (colI_in Fence.wide 4 trivial trivial trivial rfl (by omega) Bs sv zs hreach w hBs hI)
  clear hI hBs
  go_enter Tryz.func51, Tryz.ntmps51
  go_wp2_with fail
  refine HC.out.mono ?_
  rintro e W ⟨v, rfl, hrow, _, hb⟩
  obtain ⟨gs, c, rfl, hnd, hlo⟩ := own_ndI hrow
  have HQ : Hid (Calls Tryz.prog 49 #[.slice (adr gs) zs.length c] W fun e w' => e = .returned (.tuple #[]) ∧ NdI w' gs c (Sp.srt zs) ∧ Below w.heap.size w w') := by
    refine (sortI gs c zs W hnd (by omega)).mono ?_
    rintro e w' ⟨rfl, h1, h2⟩
    exact ⟨rfl, h1, h2.1.trans hb.os, h2.2.1.trans hb.tape, h2.2.2.1.trans hb.output, Nat.le_trans hb.size h2.2.2.2.1, fun k hk => (h2.2.2.2.2 k (Nat.lt_of_lt_of_le hk hb.size) (fun e => by have := hlo k e; omega)).trans (hb.block k hk)⟩
  have HL : Hid (∀ g, gs = some g → w.heap.size ≤ g) := hlo
  clear hrow hb hnd hlo
  go_wp2_with fail
  refine HQ.out.mono ?_
  rintro e w' ⟨rfl, ho⟩
  go_wp2_with fail
  go_ret
  exact ⟨gs, c, rfl, ho.1, HL.out, ho.2⟩
end Go.Proofs.YtikhpbidbcfedaaGreat

