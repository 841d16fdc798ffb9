/- Plain mathematics: ways that Path tells, edges that Edges tells, and the ring. -/
import Derived.Test.YtikhpbidbcfedaaGreatKw28
import Derived.Test.YtikhpbidbcfedaaGreatKw23
import Derived.Test.YtikhpbidbcfedaaGreatKw29
import Derived.Test.YtikhpbidbcfedaaGreatKw26
import Derived.ProofKit
import Derived.OpenShut
import Derived.SizedLaws
import Derived.Test.YtikhpbidbcfedaaGreatKw14
namespace Go.Proofs.YtikhpbidbcfedaaGreat
open Go.RowKit Go.ChangeMaps

section
variable {N : List Int} {nx : Nat → List Nat} (hN : N.Pairwise (· < ·)) (hb : ∀ i, ∀ x ∈ nx i, x < N.length) (hlt : ∀ i, (nx i).Pairwise (· < ·))
include hN
theorem idx_at {a : Nat} {x : Int} (h : N[a]? = some x) : x ∈ N ∧ N.idxOf x = a ∧ a < N.length := by
  obtain ⟨ha, e⟩ := List.getElem?_eq_some_iff.1 h
  subst e
  have hnd : N.Nodup := hN.imp fun {a b} (h : a < b) => by omega
  exact ⟨List.getElem_mem ha, hnd.idxOf_getElem a ha, ha⟩
include hb hlt
theorem path_at {a b : Nat} {x y : Int} (hx : N[a]? = some x) (hy : N[b]? = some y) : (b ∉ (Bf.all nx (-1) N.length [a]).ord → Sp.path N nx x y = none) ∧ (b ∈ (Bf.all nx (-1) N.length [a]).ord → Sp.path N nx x y = some (Sp.rfs N ((Bf.all nx (-1) N.length [a]).chn ((Bf.all nx (-1) N.length [a]).ps b) b).reverse)) := by
  obtain ⟨mx, ex, lx⟩ := idx_at hN hx
  obtain ⟨my, ey, ly⟩ := idx_at hN hy
  have H2 := twoW nx N.length a b hb hlt lx ly
  refine ⟨fun h => ?_, fun h => ?_⟩
  · have h' : a ∉ (Bf.all (Sp.bkn nx N.length) (-1) N.length [b]).ord := fun h2 => h (H2.both.1 h2)
    unfold Sp.path
    simp only [mx, my, and_self, if_true, ex, ey, if_neg h']
  · obtain ⟨h1, h2⟩ := H2.way h
    unfold Sp.path
    simp only [mx, my, and_self, if_true, ex, ey, if_pos h2, h1]
omit hN hb hlt
theorem eds_at {x y : Int} (hb : ∀ i, ∀ x ∈ nx i, x < N.length) (h : (x, y) ∈ Sp.eds N nx N.length 0) : ∃ a b, N[a]? = some x ∧ N[b]? = some y ∧ b ∈ nx a := by
  simp only [Sp.eds, List.take_zero, List.map_nil, List.append_nil, List.mem_flatten, List.mem_map, List.mem_range] at h
  obtain ⟨l, ⟨a, ha, rfl⟩, h⟩ := h
  obtain ⟨b, hbb, e⟩ := List.mem_map.1 h
  injection e with e1 e2
  have hbl := hb a b hbb
  refine ⟨a, b, ?_, ?_, hbb⟩
  · rw [← e1, List.getD_eq_getElem?_getD, List.getElem?_eq_getElem ha]; rfl
  · rw [← e2, List.getD_eq_getElem?_getD, List.getElem?_eq_getElem hbl]; rfl
end
theorem rfs_len2 (N : List Int) (l : List Nat) : (Sp.rfs N l).length = l.length := by simp [Sp.rfs]
theorem lst_le {nx : Nat → List Nat} {d : Nat → Int} {b : Nat} : ∀ f n, (Sp.lst nx d b f n).length ≤ f + 1
  | 0, n => by simp [Sp.lst]
  | f + 1, n => by
    rw [Sp.lst]
    split
    · simp
    · have := lst_le (nx := nx) (d := d) (b := b) f (Sp.stp nx d n); simp; omega
theorem path_le {N : List Int} {nx : Nat → List Nat} {x y : Int} (hn : N.length ≤ 4096) (hb : ∀ i, ∀ x ∈ nx i, x < N.length) (hlt : ∀ i, (nx i).Pairwise (· < ·)) : ((Sp.path N nx x y).getD []).length ≤ 8192 := by
  unfold Sp.path
  split
  · rename_i h
    dsimp only
    split
    · rename_i hin
      have hx := List.idxOf_lt_length_of_mem h.1
      have hy := List.idxOf_lt_length_of_mem h.2
      have H := twoW nx N.length _ _ hb hlt hx hy
      have h1 := (H.ds hn).bd (N.idxOf x)
      simp only [Bf.dst, if_pos hin] at h1
      simp only [Option.getD_some, rfs_len2]
      exact Nat.le_trans (lst_le _ _) (by omega)
    · simp
  · simp

end Go.Proofs.YtikhpbidbcfedaaGreat

/- References and edges that can be read as data: how they lie in memory. -/
namespace Go.Proofs.YtikhpbidbcfedaaGreat
open Go.ChangeShapes Go.WideShapes Go.ChangeAt Go.RowKit

theorem Tryz.cRf : Tryz.prog.cellsOf 25 = 1 := by kernel_rfl
theorem Tryz.bRf : Tryz.prog.bytesOf 25 = 8 := by kernel_rfl
theorem Tryz.cEg : Tryz.prog.cellsOf 38 = 2 := by kernel_rfl
theorem Tryz.bEg : Tryz.prog.bytesOf 38 = 16 := by kernel_rfl
theorem reach_iq : reachBytes = 140737488351232 := by rfl
theorem add_nn (b o i : Nat) : (⟨b, o, none⟩ : Addr).add i = ⟨b, o + i, none⟩ := addN b o i
set_option maxRecDepth 100000 in
theorem spot_of {W : World} {base : Nat} {t e : TypeId} (ht : Tryz.prog.underlying t = some (.slice e)) {a : Addr} {l c : Nat} (h : Value.okWide Tryz.prog W .any base t (.slice (some a) l c)) : a.spot = none := by
  simp only [Value.okWide, ht, Cell.okWide] at h
  simp only [Cell.ok, ht] at h
  exact h.2.2.2.1
theorem at_elem {i n : Nat} {α β : Type} {x : Option α} {f : α → Option β} {l : List β} (hn : l.length = n) (hi : i < n) (h : x.bind f = l[i]?) : ∃ a, x = some a ∧ ∃ y, f a = some y := by
  rw [List.getElem?_eq_getElem (by omega)] at h
  cases x with
  | none => simp at h
  | some a => exact ⟨a, rfl, _, h⟩
section
variable {H : Type} {enc : TypeId × Value → H} {W : World}
set_option maxRecDepth 100000 in
theorem open_rfs {n : Nat} {v : Value} {x : DataW H × List MemPlace} (h : DataW.trod enc Tryz.prog W 0 (fun _ => true) true n 22 [v] = some x) (hw : ∀ m ∈ x.1.weights Tryz.prog 22, m ≤ reachBytes) (hs : ∀ a l c, v = .slice (some a) l c → a.spot = none) :
    ∃ (l : List Int) (a : Option Addr) (cap : Nat), v = .slice a l.length cap ∧ l.length * 8 ≤ 140737488355328 ∧ RefsAt W W.heap.size a l := by
  rcases DataW.trod_slice Tryz.underlying22 h with ⟨hcs, rfl⟩ | ⟨a, len, cap, elems, rest, n', rfl, hcs, rfl, _, hlc, hcm, hlen, hel, _, _⟩
  · simp at hcs; subst hcs; exact ⟨[], none, 0, rfl, by simp, (fun t x hx => by simp at hx), (fun _ => .inl rfl), (fun x hx => by simp at hx)⟩
  · simp at hcs; subst hcs
    have hlen' : len * 8 ≤ 140737488355328 := by
      have := hw (((elems.map (·.1)).length + (rest.map (·.1)).length) * Tryz.prog.bytesOf 25) (by simp only [DataW.weights, Tryz.underlying22]; exact List.mem_cons_self ..)
      rw [Tryz.bRf, List.length_map, List.length_map, hlen] at this
      have := reach_iq
      omega
    have hsp := hs a len cap rfl
    obtain ⟨b, o, spot⟩ := a
    obtain rfl : spot = none := hsp
    have hread : ∀ i, i < len → ∃ z : Int, W.cell? ⟨b, o + i, none⟩ = some (.int .u64 z) ∧ 0 ≤ z ∧ z < 18446744073709551616 := fun i hi => by
      obtain ⟨cs, hc, y, ht⟩ := at_elem hlen hi (hel i hi)
      obtain ⟨z, rfl, _, hz⟩ := DataW.trod_int Tryz.underlying25 ht
      rw [Tryz.cRf, add_nn, Nat.mul_one] at hc
      obtain ⟨_, _, hcell⟩ := World.cells?_some hc
      have h00 := hcell 0 (by simp)
      rw [add_nn] at h00
      have hb := bounds_u64 hz
      exact ⟨z, by simpa using h00, hb.1, by omega⟩
    refine ⟨(List.range len).map fun i => match W.cell? ⟨b, o + i, none⟩ with | some (.int .u64 z) => z | _ => 0, some ⟨b, o, none⟩, cap, by simp, by simpa using hlen', fun t x hx => ?_, fun hn => .inr ⟨b, o, rfl⟩, fun x hx => ?_⟩
    · have htl : t < len := by have := (List.getElem?_eq_some_iff.1 hx).1; simpa using this
      obtain ⟨z, hz, _⟩ := hread t htl
      refine ⟨b, o, rfl, World.block_lt_of_cell? _ _ hz, ?_⟩
      simp [htl, hz] at hx
      rw [← hx]; exact hz
    · obtain ⟨i, hi, rfl⟩ := List.mem_map.1 hx
      obtain ⟨z, hz, h1, h2⟩ := hread i (by simpa using hi)
      rw [hz]; exact ⟨h1, h2⟩
set_option maxRecDepth 100000 in
theorem open_eds {n : Nat} {v : Value} {x : DataW H × List MemPlace} (h : DataW.trod enc Tryz.prog W 0 (fun _ => true) true n 23 [v] = some x) (hw : ∀ m ∈ x.1.weights Tryz.prog 23, m ≤ reachBytes) (hs : ∀ a l c, v = .slice (some a) l c → a.spot = none) :
    ∃ (l : List (Int × Int)) (a : Option Addr) (cap : Nat), v = .slice a l.length cap ∧ l.length * 16 ≤ 140737488355328 ∧ EdgesAt W W.heap.size a l := by
  rcases DataW.trod_slice Tryz.underlying23 h with ⟨hcs, rfl⟩ | ⟨a, len, cap, elems, rest, n', rfl, hcs, rfl, _, hlc, hcm, hlen, hel, _, _⟩
  · simp at hcs; subst hcs; exact ⟨[], none, 0, rfl, by simp, (fun t x hx => by simp at hx), (fun _ => .inl rfl), (fun x hx => by simp at hx)⟩
  · simp at hcs; subst hcs
    have hlen' : len * 16 ≤ 140737488355328 := by
      have := hw (((elems.map (·.1)).length + (rest.map (·.1)).length) * Tryz.prog.bytesOf 38) (by simp only [DataW.weights, Tryz.underlying23]; exact List.mem_cons_self ..)
      rw [Tryz.bEg, List.length_map, List.length_map, hlen] at this
      have := reach_iq
      omega
    have hsp := hs a len cap rfl
    obtain ⟨b, o, spot⟩ := a
    obtain rfl : spot = none := hsp
    have hread : ∀ i, i < len → ∃ z y : Int, W.cell? ⟨b, o + i * 2, none⟩ = some (.int .u64 z) ∧ W.cell? ⟨b, o + i * 2 + 1, none⟩ = some (.int .u64 y) ∧ (0 ≤ z ∧ z < 18446744073709551616) ∧ 0 ≤ y ∧ y < 18446744073709551616 := fun i hi => by
      obtain ⟨cs, hc, w, ht⟩ := at_elem hlen hi (hel i hi)
      rw [Tryz.cEg, add_nn] at hc
      obtain ⟨_, hl2, hcell⟩ := World.cells?_some hc
      have h00 := hcell 0 (by simp)
      have h01 := hcell 1 (by simp)
      rw [add_nn] at h00 h01
      obtain ⟨xs, n2, rfl, hx, hlc2, hxs, hf⟩ := DataW.trod_struct Tryz.underlying38 ht
      obtain ⟨z, y, hz, hy, rfl⟩ : ∃ z y : Int, (Lit.int .u64 z).wf = true ∧ (Lit.int .u64 y).wf = true ∧ cs = [.int .u64 z, .int .u64 y] := by
        match cs, hl2 with
        | [c0, c1], _ =>
          match xs, hxs with
          | [y0, y1], _ =>
            have f0 := hf 0 _ rfl
            have f1 := hf 1 _ rfl
            simp [Tryz.cRf] at f0
            simp [Tryz.cRf] at f1
            obtain ⟨z, hz, _, hzw⟩ := DataW.trod_int Tryz.underlying25 f0
            obtain ⟨y, hy, _, hyw⟩ := DataW.trod_int Tryz.underlying25 f1
            simp at hz hy
            subst hz hy
            exact ⟨z, y, hzw, hyw, rfl⟩
      have hb := bounds_u64 hz
      have hb2 := bounds_u64 hy
      exact ⟨z, y, by simpa using h00, by simpa using h01, ⟨hb.1, by omega⟩, hb2.1, by omega⟩
    refine ⟨(List.range len).map fun i => (match W.cell? ⟨b, o + i * 2, none⟩ with | some (.int .u64 z) => z | _ => 0, match W.cell? ⟨b, o + i * 2 + 1, none⟩ with | some (.int .u64 z) => z | _ => 0), some ⟨b, o, none⟩, cap, by simp, by simpa using hlen', fun t x hx => ?_, fun hn => .inr ⟨b, o, rfl⟩, fun x hx => ?_⟩
    · have htl : t < len := by have := (List.getElem?_eq_some_iff.1 hx).1; simpa using this
      obtain ⟨z, y, hz, hy, _⟩ := hread t htl
      simp [htl, hz, hy] at hx
      subst hx
      exact ⟨b, o, rfl, World.block_lt_of_cell? _ _ hz, hz, hy⟩
    · obtain ⟨i, hi, rfl⟩ := List.mem_map.1 hx
      obtain ⟨z, y, hz, hy, h1, h2⟩ := hread i (by simpa using hi)
      rw [hz, hy]; exact ⟨h1, h2⟩
end
end Go.Proofs.YtikhpbidbcfedaaGreat

/- graph.walk.all, given one. -/
namespace Go.Proofs.YtikhpbidbcfedaaGreat
open Go.RowKit Go.ChangeMaps

def wsC (xb eb n Fe Fl : Nat) (ce cl : Array Value) : Array Value := #[.slice (some ⟨xb, 0, none⟩) n n, .slice (some ⟨eb, 0, none⟩) n n, .func (.func Fe) #[] ce, .func (.func Fl) #[] cl]
section
variable {σ : Type} {V : Vr σ} {n m0 eb : Nat} {M : Nat → Prop} {I : σ → World → Prop} {Fe Fl : Nat} {ce cl : Array Value} {nx : Nat → List Nat} {lo xb : Nat} {bl : Nat → Option Nat} {cp : Nat → Nat}
def OneC (σ : Type) (V : Vr σ) (n m0 eb : Nat) (M : Nat → Prop) (I : σ → World → Prop) (Fe Fl : Nat) (ce cl : Array Value) (nx : Nat → List Nat) (lo xb : Nat) (bl : Nat → Option Nat) (cp : Nat → Nat) (f : Nat) : Prop :=
  ∀ j st W, WkI σ n m0 eb M I nx lo xb bl cp st W → j < n → st.1[j]? = some false → Sp.cf st.1 ≤ f → Calls Tryz.prog 67 #[.agg (wsC xb eb n Fe Fl ce cl), .int .i64 (j : Nat)] W (WkE σ n m0 eb M I nx lo xb bl cp (wOne V nx f j st) W)
def AllC (σ : Type) (V : Vr σ) (n m0 eb : Nat) (M : Nat → Prop) (I : σ → World → Prop) (Fe Fl : Nat) (ce cl : Array Value) (nx : Nat → List Nat) (lo xb : Nat) (bl : Nat → Option Nat) (cp : Nat → Nat) (f : Nat) : Prop :=
  ∀ (l : List Nat) st W gs c, WkI σ n m0 eb M I nx lo xb bl cp st W → Sp.cf st.1 ≤ f → (∀ j ∈ l, j < n) → NdI W gs c (l.map fun j : Nat => (j : Int)) → Sta M eb gs → l.length * 8 ≤ 140737488355328 → Calls Tryz.prog 46 #[.agg (wsC xb eb n Fe Fl ce cl), .slice (adr gs) l.length c] W (WkE σ n m0 eb M I nx lo xb bl cp (wAll (wOne V nx f) l st) W)

end
end Go.Proofs.YtikhpbidbcfedaaGreat

/- Walks with any visitor, one that puts nodes into a row of its own too: what is asked of one. -/
namespace Go.Proofs.YtikhpbidbcfedaaGreat
open Go.RowKit Go.ChangeMaps

structure KwO (M : Nat → Option Obj → Prop) (w w' : World) : Prop where
  os : w'.os = w.os
  tape : w'.tape = w.tape
  output : w'.output = w.output
  size : w.heap.size ≤ w'.heap.size
  block : ∀ j, j < w.heap.size → ¬ M j (w.heap[j]?) → w'.heap[j]? = w.heap[j]?
theorem KwO.refl (M : Nat → Option Obj → Prop) (w : World) : KwO M w w := ⟨rfl, rfl, rfl, Nat.le_refl _, fun _ _ _ => rfl⟩
theorem KwO.trans {M : Nat → Option Obj → Prop} {a b d : World} (h : KwO M a b) (k : KwO M b d) : KwO M a d := ⟨k.os.trans h.os, k.tape.trans h.tape, k.output.trans h.output, Nat.le_trans h.size k.size, fun j h1 h2 => (k.block j (Nat.lt_of_lt_of_le h1 h.size) (by rw [h.block j h1 h2]; exact h2)).trans (h.block j h1 h2)⟩
theorem KwO.mono {M M' : Nat → Option Obj → Prop} {w w' : World} (h : KwO M w w') (hm : ∀ j o, M j o → M' j o) : KwO M' w w' := ⟨h.os, h.tape, h.output, h.size, fun j h1 h2 => h.block j h1 fun h3 => h2 (hm j _ h3)⟩
theorem KwO.alloc {M : Nat → Option Obj → Prop} {a w : World} (h : KwO M a w) (o : Obj) : KwO M a (w.alloc o) := h.trans ⟨rfl, rfl, rfl, by simp, fun j h1 _ => Below.heap_alloc w o j h1⟩
theorem KwO.drew {M : Nat → Option Obj → Prop} {a w : World} (h : KwO M a w) : KwO M a w.drew := ⟨h.os, h.tape, h.output, h.size, h.block⟩
theorem KwO.set {M : Nat → Option Obj → Prop} {c o : Nat} {a w : World} (h : KwO M a w) (hc : (∀ o, M c o) ∨ a.heap.size ≤ c) (v : Value) : KwO M a (w.setCell ⟨c, o, none⟩ v) := ⟨h.os, h.tape, h.output, by simpa [World.setCell] using h.size, fun j h1 h2 => (Below.heap_setCell _ _ _ _ (show j ≠ c by intro e; subst e; rcases hc with hc | hc; exact h2 (hc _); omega)).trans (h.block j h1 h2)⟩

structure VisO (σ : Type) (V : Vr σ) (zf : σ → Nat) (n m0 eb : Nat) (M : Nat → Option Obj → Prop) (I : σ → World → Prop) (Fe Fl : Nat) (ce cl : Array Value) : Prop where
  keep : ∀ s (W W' : World), I s W → W.heap.size ≤ W'.heap.size → (∀ k, k < W.heap.size → k ≠ eb → W'.heap[k]? = W.heap[k]?) → W'.os = W.os → W'.tape = W.tape → W'.output = W.output → I s W'
  enter : ∀ s j (W : World), j < n → zf s < 16384 → I s W → Calls Tryz.prog Fe (#[.int .i64 (j : Nat)] ++ ce) W fun e W' => BEnd (V.enter s j).1 e ∧ I (V.enter s j).2 W' ∧ KwO M W W'
  leave : ∀ s j (W : World), j < n → zf s < 16384 → I s W → Calls Tryz.prog Fl (#[.int .i64 (j : Nat)] ++ cl) W fun e W' => BEnd (V.leave s j).1 e ∧ I (V.leave s j).2 W' ∧ KwO M W W'
  ecf : ∀ (j : Nat) (W : World), Sem.run Tryz.prog (callFunc Fe (#[.int .i64 (j : Nat)] ++ ce)) W = .ok (.enter Fe (#[.int .i64 (j : Nat)] ++ ce)) W
  lcf : ∀ (j : Nat) (W : World), Sem.run Tryz.prog (callFunc Fl (#[.int .i64 (j : Nat)] ++ cl)) W = .ok (.enter Fl (#[.int .i64 (j : Nat)] ++ cl)) W
  sze : ∀ s j, zf (V.enter s j).2 ≤ zf s + 1
  szl : ∀ s j, zf (V.leave s j).2 ≤ zf s + 1
  box : ∀ k c, m0 ≤ k → ¬ M k (some (.cells c 83 (0, 0)))
  eo : eb < m0 ∧ ∀ o, ¬ M eb o
def StaO (M : Nat → Option Obj → Prop) (eb : Nat) (gs : Option Nat) : Prop := ∀ g, gs = some g → (∀ o, ¬ M g o) ∧ g ≠ eb
structure WkJ (σ : Type) (zf : σ → Nat) (T n m0 eb : Nat) (M : Nat → Option Obj → Prop) (I : σ → World → Prop) (nx : Nat → List Nat) (lo xb : Nat) (bl : Nat → Option Nat) (cp : Nat → Nat) (st : Wst σ) (w : World) : Prop where
  inv : I st.2 w
  ent : OwnR w 4 eb n n (bv st.1)
  nxt : NxR w lo xb n bl cp (fun t => (nx t).map (fun j : Nat => (j : Int)))
  sz : m0 ≤ w.heap.size
  sx : (∀ o, ¬ M xb o) ∧ xb ≠ eb
  sb : ∀ t, t < n → StaO M eb (bl t)
  nb : ∀ t, t < n → ∀ j ∈ nx t, j < n
  bud : zf st.2 + 2 * Sp.cf st.1 ≤ T ∧ T ≤ 16384
theorem WkJ.len {σ : Type} {zf : σ → Nat} {T n m0 eb : Nat} {M : Nat → Option Obj → Prop} {I : σ → World → Prop} {nx : Nat → List Nat} {lo xb : Nat} {bl : Nat → Option Nat} {cp : Nat → Nat} {st : Wst σ} {w : World} (h : WkJ σ zf T n m0 eb M I nx lo xb bl cp st w) : st.1.length = n := by simpa using h.ent.len
theorem WkJ.step {σ : Type} {zf : σ → Nat} {T n m0 eb : Nat} {M : Nat → Option Obj → Prop} {I : σ → World → Prop} {nx : Nat → List Nat} {lo xb : Nat} {bl : Nat → Option Nat} {cp : Nat → Nat} {st : Wst σ} {w w' : World} {s' : σ} (h : WkJ σ zf T n m0 eb M I nx lo xb bl cp st w) (hk : KwO M w w') (hm : ∀ o, ¬ M eb o) (hI : I s' w') {T' : Nat} (hT : zf s' + 2 * Sp.cf st.1 ≤ T' ∧ T' ≤ 16384) : WkJ σ zf T' n m0 eb M I nx lo xb bl cp (st.1, s') w' :=
  ⟨hI, h.ent.keep (hk.block eb h.ent.lt (hm _)), h.nxt.keep (hk.block xb h.nxt.lt.1 (h.sx.1 _)) (fun t g ht hg => hk.block g (h.nxt.lt.2 t g ht hg) ((h.sb t ht g hg).1 _)), Nat.le_trans h.sz hk.size, h.sx, h.sb, h.nb, hT⟩
theorem WkJ.alloc {σ : Type} {V : Vr σ} {zf : σ → Nat} {T n m0 eb : Nat} {M : Nat → Option Obj → Prop} {I : σ → World → Prop} {Fe Fl : Nat} {ce cl : Array Value} {nx : Nat → List Nat} {lo xb : Nat} {bl : Nat → Option Nat} {cp : Nat → Nat} {st : Wst σ} {w : World} (hV : VisO σ V zf n m0 eb M I Fe Fl ce cl) (h : WkJ σ zf T n m0 eb M I nx lo xb bl cp st w) (o : Obj) : WkJ σ zf T n m0 eb M I nx lo xb bl cp st (w.alloc o) :=
  ⟨hV.keep _ w _ h.inv (by simp) (fun k h1 _ => Below.heap_alloc w o k h1) rfl rfl rfl, h.ent.keep (Below.heap_alloc w o eb h.ent.lt), h.nxt.keep (Below.heap_alloc w o xb h.nxt.lt.1) (fun t g ht hg => Below.heap_alloc w o g (h.nxt.lt.2 t g ht hg)), by rw [al_size]; have := h.sz; omega, h.sx, h.sb, h.nb, h.bud⟩
theorem WkJ.drew {σ : Type} {V : Vr σ} {zf : σ → Nat} {T n m0 eb : Nat} {M : Nat → Option Obj → Prop} {I : σ → World → Prop} {Fe Fl : Nat} {ce cl : Array Value} {nx : Nat → List Nat} {lo xb : Nat} {bl : Nat → Option Nat} {cp : Nat → Nat} {st : Wst σ} {w : World} (hV : VisO σ V zf n m0 eb M I Fe Fl ce cl) (h : WkJ σ zf T n m0 eb M I nx lo xb bl cp st w) : WkJ σ zf T n m0 eb M I nx lo xb bl cp st w.drew :=
  ⟨hV.keep _ w _ h.inv (Nat.le_refl _) (fun _ _ _ => rfl) rfl rfl rfl, h.ent.keep rfl, h.nxt.keep rfl (fun _ _ _ _ => rfl), h.sz, h.sx, h.sb, h.nb, h.bud⟩
theorem WkJ.mark {σ : Type} {V : Vr σ} {zf : σ → Nat} {T n m0 eb : Nat} {M : Nat → Option Obj → Prop} {I : σ → World → Prop} {Fe Fl : Nat} {ce cl : Array Value} {nx : Nat → List Nat} {lo xb : Nat} {bl : Nat → Option Nat} {cp : Nat → Nat} {st : Wst σ} {w : World} (hV : VisO σ V zf n m0 eb M I Fe Fl ce cl) (h : WkJ σ zf T n m0 eb M I nx lo xb bl cp st w) {j : Nat} (hj : st.1[j]? = some false) : WkJ σ zf (T - 2) n m0 eb M I nx lo xb bl cp (st.1.set j true, st.2) (w.setCell ⟨eb, j, none⟩ (.bool true)) := by
  have e : ∀ k, k ≠ eb → (w.setCell ⟨eb, j, none⟩ (.bool true)).heap[k]? = w.heap[k]? := fun k hk => Below.heap_setCell w _ _ k hk
  refine ⟨hV.keep _ w _ h.inv (by simp [World.setCell]) (fun k _ h2 => e k h2) rfl rfl rfl, ?_, h.nxt.keep (e xb h.sx.2) (fun t g ht hg => e g (h.sb t ht g hg).2), by simpa [World.setCell] using h.sz, h.sx, h.sb, h.nb, by have := cf_set hj; have := h.bud; show zf st.2 + 2 * Sp.cf (st.1.set j true) ≤ T - 2 ∧ T - 2 ≤ 16384; omega⟩
  have := h.ent.set j (.bool true)
  rw [show bv (st.1.set j true) = (bv st.1).set j (.bool true) from List.map_set]
  exact this
theorem WkJ.more {σ : Type} {zf : σ → Nat} {T T' n m0 eb : Nat} {M : Nat → Option Obj → Prop} {I : σ → World → Prop} {nx : Nat → List Nat} {lo xb : Nat} {bl : Nat → Option Nat} {cp : Nat → Nat} {st : Wst σ} {w : World} (h : WkJ σ zf T n m0 eb M I nx lo xb bl cp st w) (h1 : T ≤ T') (h2 : T' ≤ 16384) : WkJ σ zf T' n m0 eb M I nx lo xb bl cp st w :=
  ⟨h.inv, h.ent, h.nxt, h.sz, h.sx, h.sb, h.nb, Nat.le_trans h.bud.1 h1, h2⟩
def WkF (σ : Type) (zf : σ → Nat) (T n m0 eb : Nat) (M : Nat → Option Obj → Prop) (I : σ → World → Prop) (nx : Nat → List Nat) (lo xb : Nat) (bl : Nat → Option Nat) (cp : Nat → Nat) (r : Option Bool × Wst σ) (w : World) (e : Ending) (w' : World) : Prop :=
  BEnd r.1 e ∧ WkJ σ zf T n m0 eb M I nx lo xb bl cp r.2 w' ∧ KwO (fun k o => M k o ∨ k = eb) w w'
end Go.Proofs.YtikhpbidbcfedaaGreat

