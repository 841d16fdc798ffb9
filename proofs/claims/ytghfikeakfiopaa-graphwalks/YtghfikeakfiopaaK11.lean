/- graph.bare: what its parts are, ahead of the walk. -/
import Derived.Test.YtghfikeakfiopaaK2
import Derived.Test.YtghfikeakfiopaaK3
import Derived.Test.YtghfikeakfiopaaK10
import Derived.Deep.RegionWith
import Derived.Laws.MakeOwn
import Derived.Deep.Cut
namespace Go.Proofs.Ytghfikeakfiopaa
open Go.RowKit Go.ChangeMaps

theorem al_get (w : World) (o : Obj) (k : Nat) : (w.alloc o).heap[k]? = if k = w.heap.size then some o else w.heap[k]? := by
  show (w.heap.push o)[k]? = _
  rw [Array.getElem?_push]
theorem al_size (w : World) (o : Obj) : (w.alloc o).heap.size = w.heap.size + 1 := by simp
def Nds (w : World) (gs : Option Nat) (c : Nat) (l : List Int) : Prop := (gs = none → l = []) ∧ ∀ g, gs = some g → OwnR w 36 g l.length c (rv l)
def adr (gs : Option Nat) : Option Addr := gs.map fun g => ⟨g, 0, none⟩
theorem Nds.keep {w w' : World} {gs : Option Nat} {c : Nat} {l : List Int} (h : Nds w gs c l) (hb : ∀ g, gs = some g → w'.heap[g]? = w.heap[g]?) : Nds w' gs c l := ⟨h.1, fun g hg => (h.2 g hg).keep (hb g hg)⟩
theorem OwnR.sorted {w w' : World} {e : TypeId} {g n c : Nat} {l : List Int} {d' : Array Int} (h : OwnR w e g n c (rv l)) (hs : SR w g 0 l.toArray d' w') : OwnR w' e g n c (rv d'.toList) := by
  have hl : l.length = n := by simpa using h.len
  have hz : d'.size = n := by rw [hs.sz]; simpa using hl
  obtain ⟨cur, h1, h2, h3, h4, h5⟩ := h.blk
  obtain ⟨cur', k1, k2, k3⟩ := hs.row cur e (0, 0) h1
  refine ⟨by simp [hz], cur', k1, h2, h3, by omega, ?_⟩
  apply List.ext_getElem?
  intro t
  by_cases ht : t < n
  · have := (hs.holds t (by omega)).1
    rw [Nat.zero_add] at this
    simp only [World.cell?, k1] at this
    rw [List.getElem?_take, if_pos ht]
    have ht2 : t < d'.size := by omega
    simp [rv, ht2] at this ⊢
    exact this.symm
  · rw [List.getElem?_eq_none (by simp; omega), List.getElem?_eq_none (by simp; omega)]

def Srt (w : World) (gs : Option Nat) (w' : World) : Prop := w'.os = w.os ∧ w'.tape = w.tape ∧ w'.output = w.output ∧ w.heap.size ≤ w'.heap.size ∧ ∀ j, j < w.heap.size → gs ≠ some j → w'.heap[j]? = w.heap[j]?
theorem sortN (gs : Option Nat) (c : Nat) (l : List Int) (w : World) (h : Nds w gs c l) (hl : l.length < 4611686018427387904) :
    Calls Try.prog 36 #[.slice (adr gs) l.length c] w fun e w' => e = .returned (.tuple #[]) ∧ Nds w' gs c (Sp.srt l) ∧ Srt w gs w' := by
  cases gs with
  | none =>
    have hn := h.1 rfl
    subst hn
    refine (sort_none _ c w).mono ?_
    rintro e w' ⟨rfl, rfl⟩
    exact ⟨rfl, ⟨fun _ => by simp [Sp.srt], fun g hg => by cases hg⟩, rfl, rfl, rfl, Nat.le_refl _, fun _ _ _ => rfl⟩
  | some g =>
    have ho := h.2 g rfl
    have hc := sort_ref g 0 c l.toArray w ho.holds ho.lt (by simpa using hl)
    refine (show Calls Try.prog 36 #[.slice (adr (some g)) l.length c] w _ from by simpa [adr] using hc).mono ?_
    rintro e w' ⟨rfl, hs⟩
    refine ⟨rfl, ⟨(fun h => by cases h), fun g' hg => ?_⟩, hs.os, hs.tape, hs.output, hs.size, fun j h1 h2 => hs.block j h1 (fun e => h2 (by rw [e]))⟩
    injection hg with hg
    subst hg
    have := ho.sorted hs
    rw [show (Sp.srt l).length = l.length from srt_len l]
    simpa [Sp.srt] using this

structure BrI (w0 : World) (n : Nat) (gb : Nat) (gs : Option Nat) (c mb xb : Nat) (l : List Int) (w : World) : Prop where
  bel : Below w0.heap.size w0 w
  cells : w.heap[gb]? = some (.cells #[.slice (adr gs) n c, .map (some mb), .slice (some ⟨xb, 0, none⟩) n n] 68 (0, 0))
  nds : Nds w gs c l
  map : w.heap[mb]? = some (.map #[] 0)
  nxt : ∃ cur : Array Value, w.heap[xb]? = some (.cells cur 52 (0, 0)) ∧ cur.size = n ∧ ∀ t, t < n → cur[t]? = some (.slice none 0 0)
  lo : w0.heap.size ≤ gb ∧ w0.heap.size ≤ mb ∧ w0.heap.size ≤ xb ∧ ∀ g, gs = some g → w0.heap.size ≤ g
  ne : gb ≠ mb ∧ gb ≠ xb ∧ mb ≠ xb ∧ ∀ g, gs = some g → g ≠ gb ∧ g ≠ mb ∧ g ≠ xb
theorem cloneN (a : Option Addr) (cap : Nat) (l : List Int) (B : Nat) (w : World) (h : RefsAt w B a l) (hB : B ≤ w.heap.size) (hl : l.length * 8 ≤ 140737488355328) :
    Calls Try.prog 35 #[.slice a l.length cap] w fun e w' => ∃ gs c, e = .returned (.slice (adr gs) l.length c) ∧ Nds w' gs c l ∧ (∀ g, gs = some g → w.heap.size ≤ g ∧ g < w'.heap.size) ∧ Below w.heap.size w w' := by
  refine (clone_any a cap l B w h hB hl).mono ?_
  rintro e w' ⟨a', c, rfl, h1 | ⟨g, rfl, h2, h3⟩, hb⟩
  · obtain ⟨rfl, rfl, rfl⟩ := h1
    exact ⟨none, c, rfl, ⟨fun _ => rfl, fun g hg => by cases hg⟩, (fun g hg => by cases hg), hb⟩
  · refine ⟨some g, c, rfl, ⟨(fun h => by cases h), fun g' hg => ?_⟩, fun g' hg => ?_, hb⟩
    · injection hg with hg; subst hg; exact h3
    · injection hg with hg; subst hg; exact ⟨h2, h3.lt⟩
structure Bar (w0 w : World) (gb : Nat) (gs : Option Nat) (c mb xb n : Nat) (G : List (Int × Int)) (N : List Int) : Prop where
  bel : Below w0.heap.size w0 w
  cells : w.heap[gb]? = some (.cells #[.slice (adr gs) n c, .map (some mb), .slice (some ⟨xb, 0, none⟩) n n] 68 (0, 0))
  nds : Nds w gs c N
  map : ∃ es ck, MpI w mb G es ck
  fro : ∀ k v, (k, v) ∈ G → ∃ t : Nat, v = t ∧ N[t]? = some k
  to : ∀ k, k ∈ N → ∃ v, (k, v) ∈ G
  nxt : ∃ cur : Array Value, w.heap[xb]? = some (.cells cur 52 (0, 0)) ∧ cur.size = n ∧ ∀ t, t < n → cur[t]? = some (.slice none 0 0)
  lo : w0.heap.size ≤ gb ∧ w0.heap.size ≤ mb ∧ w0.heap.size ≤ xb ∧ ∀ g, gs = some g → w0.heap.size ≤ g
  ne : gb ≠ mb ∧ gb ≠ xb ∧ mb ≠ xb ∧ ∀ g, gs = some g → g ≠ gb ∧ g ≠ mb ∧ g ≠ xb
structure BrQ (w2 : World) (mb : Nat) (N : List Int) (i : Nat) (G : List (Int × Int)) (es : Array MapEntry) (ck : Nat) (wr : World) : Prop where
  mp : MpI wr mb G es ck
  os : wr.os = w2.os
  tape : wr.tape = w2.tape
  output : wr.output = w2.output
  size : wr.heap.size = w2.heap.size
  block : ∀ k, k ≠ mb → wr.heap[k]? = w2.heap[k]?
  fro : ∀ k v, (k, v) ∈ G → ∃ t : Nat, v = t ∧ t < i ∧ N[t]? = some k
  to : ∀ k, k ∈ N.take i → ∃ v, (k, v) ∈ G
  nd : (N.take i).Nodup → G.length = i
  dup : ¬ (N.take i).Nodup → G.length < i
theorem BrQ.step {w2 wr : World} {mb i : Nat} {N : List Int} {G G' : List (Int × Int)} {es es' : Array MapEntry} {ck ck' : Nat} (h : BrQ w2 mb N i G es ck wr) {x : Int} (hx : N[i]? = some x)
    (h1 : MpI (setBlock wr mb (.map es' ck')) mb G' es' ck') (h2 : ∀ k v, (k, v) ∈ G' ↔ (k = x ∧ v = (i : Int)) ∨ (k ≠ x ∧ (k, v) ∈ G)) (h3 : G'.length = G.length + (if x ∈ G.map (·.1) then 0 else 1)) : BrQ w2 mb N (i + 1) G' es' ck' (setBlock wr mb (.map es' ck')) := by
  have ht : N.take (i + 1) = N.take i ++ [x] := by rw [List.take_add_one, hx]; rfl
  have hk : x ∈ G.map (·.1) ↔ x ∈ N.take i := by
    constructor
    · intro h4
      obtain ⟨⟨k, v⟩, h5, h6⟩ := List.mem_map.1 h4
      obtain ⟨t, _, h7, h8⟩ := h.fro k v h5
      simp at h6
      subst h6
      exact List.mem_of_getElem? (i := t) (by rw [List.getElem?_take, if_pos h7]; exact h8)
    · intro h4
      obtain ⟨v, h5⟩ := h.to x h4
      exact List.mem_map.2 ⟨_, h5, rfl⟩
  refine ⟨h1, h.os, h.tape, h.output, (setG_size _ _ _).trans h.size, fun k hk => (setG_other hk).trans (h.block k hk), fun k v hm => ?_, fun k hm => ?_, fun hn => ?_, fun hn => ?_⟩
  · rcases (h2 k v).1 hm with ⟨rfl, rfl⟩ | ⟨_, h5⟩
    · exact ⟨i, rfl, by omega, hx⟩
    · obtain ⟨t, e, h6, h7⟩ := h.fro k v h5
      exact ⟨t, e, by omega, h7⟩
  · by_cases e : k = x
    · exact ⟨i, (h2 k i).2 (.inl ⟨e, rfl⟩)⟩
    · rw [ht, List.mem_append, List.mem_singleton] at hm
      obtain ⟨v, hv⟩ := h.to k (hm.resolve_right e)
      exact ⟨v, (h2 k v).2 (.inr ⟨e, hv⟩)⟩
  · rw [ht, List.nodup_append] at hn
    have hno : x ∉ N.take i := fun hm => hn.2.2 x hm x (by simp) rfl
    rw [h3, if_neg (fun hm => hno (hk.1 hm)), h.nd hn.1]
  · rw [h3]
    by_cases hn0 : (N.take i).Nodup
    · have hyes : x ∈ N.take i := by
        apply Classical.byContradiction
        intro hno
        apply hn
        rw [ht, List.nodup_append]
        exact ⟨hn0, by simp, fun a ha b hb => by simp at hb; subst hb; exact fun e => hno (e ▸ ha)⟩
      rw [if_pos (hk.2 hyes), h.nd hn0]; omega
    · have := h.dup hn0
      split <;> omega
theorem Try.infoSl : (Try.prog.info? 52).map (fun i => (i.zero, i.size, i.bytes)) = some (some (.slice none 0 0), 1, 24) := by kernel_rfl
theorem Try.undSS : Try.prog.underlying 55 = some (.slice 52) := by kernel_rfl
theorem dr_heap (w : World) : w.drew.heap = w.heap := rfl
theorem brI_mk {w W3 : World} {n gb : Nat} {gs : Option Nat} {c mb xb : Nat} {l : List Int} {M : Array Value} (bel : Below w.heap.size w W3) (hn : Nds W3 gs c l) (hm : W3.heap[mb]? = some (.map #[] 0)) (hx : W3.heap[xb]? = some (.cells M 52 (0, 0)))
    (hM : M.size = n ∧ ∀ t, t < n → M[t]? = some (.slice none 0 0)) (l1 : w.heap.size ≤ mb) (l2 : w.heap.size ≤ xb) (l3 : ∀ g, gs = some g → w.heap.size ≤ g) (n1 : mb ≠ xb) (n2 : ∀ g, gs = some g → g ≠ mb ∧ g ≠ xb) (hgb : gb = W3.heap.size) :
    BrI w n gb gs c mb xb l (W3.alloc (.cells #[.slice (adr gs) n c, .map (some mb), .slice (some ⟨xb, 0, none⟩) n n] 68)) := by
  subst hgb
  have hm1 : mb < W3.heap.size := (Array.getElem?_eq_some_iff.1 hm).1
  have hx1 : xb < W3.heap.size := (Array.getElem?_eq_some_iff.1 hx).1
  have hg1 : ∀ g, gs = some g → g < W3.heap.size := fun g hg => (hn.2 g hg).lt
  have old : ∀ o k, k < W3.heap.size → (W3.alloc o).heap[k]? = W3.heap[k]? := fun o k hk => Below.heap_alloc W3 o k hk
  exact ⟨bel.alloc bel.size _, heap_alloc_new _ _, hn.keep (fun g hg => old _ g (hg1 g hg)), (old _ _ hm1).trans hm, ⟨M, (old _ _ hx1).trans hx, hM.1, hM.2⟩, ⟨bel.size, l1, l2, l3⟩, ⟨by omega, by omega, n1, fun g hg => ⟨by have := hg1 g hg; omega, (n2 g hg).1, (n2 g hg).2⟩⟩⟩
end Go.Proofs.Ytghfikeakfiopaa

/- graph.connect: how the rows of where nodes lead lie, and how they grow. -/
namespace Go.Proofs.Ytghfikeakfiopaa
open Go.RowKit Go.ChangeMaps

theorem Srt.refl (w : World) (gs : Option Nat) : Srt w gs w := ⟨rfl, rfl, rfl, Nat.le_refl _, fun _ _ _ => rfl⟩
theorem Srt.trans {a b d : World} {gs : Option Nat} (h : Srt a gs b) (k : Srt b gs d) : Srt a gs d := ⟨k.1.trans h.1, k.2.1.trans h.2.1, k.2.2.1.trans h.2.2.1, Nat.le_trans h.2.2.2.1 k.2.2.2.1, fun j h1 h2 => (k.2.2.2.2 j (Nat.lt_of_lt_of_le h1 h.2.2.2.1) h2).trans (h.2.2.2.2 j h1 h2)⟩
theorem Srt.alloc {a w : World} {gs : Option Nat} (h : Srt a gs w) (o : Obj) : Srt a gs (w.alloc o) := h.trans ⟨rfl, rfl, rfl, by simp, fun j h1 _ => Below.heap_alloc w o j h1⟩
theorem Srt.drew {a w : World} {gs : Option Nat} (h : Srt a gs w) : Srt a gs w.drew := h
theorem Srt.drewN {a w : World} {gs : Option Nat} (h : Srt a gs w) (q : Nat) : Srt a gs (w.drewN q) := h
theorem Srt.set {a w : World} {x o : Nat} (h : Srt a (some x) w) (c : Nat) (hc : c = x ∨ a.heap.size ≤ c) (v : Value) : Srt a (some x) (w.setCell ⟨c, o, none⟩ v) :=
  ⟨h.1, h.2.1, h.2.2.1, by simpa [World.setCell] using h.2.2.2.1, fun j h1 h2 => (Below.heap_setCell w _ v j (show j ≠ c by rcases hc with rfl | hc; exact fun e => h2 (by rw [e]); omega)).trans (h.2.2.2.2 j h1 h2)⟩
theorem Srt.grown {a w w' : World} {x : Nat} {r : Option Nat} (h : Srt a (some x) w) (hg : w.grownBy w' r) (hr : ∀ k, r = some k → k = x ∨ a.heap.size ≤ k) : Srt a (some x) w' :=
  ⟨hg.os.trans h.1, hg.tape.trans h.2.1, hg.output.trans h.2.2.1, Nat.le_trans h.2.2.2.1 hg.size, fun j h1 h2 => (hg.block j (Nat.lt_of_lt_of_le h1 h.2.2.2.1) (fun e => by rcases hr j e.symm with h3 | h3; exact h2 (by rw [h3]); omega)).trans (h.2.2.2.2 j h1 h2)⟩

abbrev iv (l : List Int) : List Value := l.map (Value.int .i64)
theorem iv_one (l : List Int) : ∀ u ∈ iv l, u.oneCell' = true := fun u hu => by
  obtain ⟨x, _, rfl⟩ := List.mem_map.1 hu; rfl
theorem Try.infoIn : (Try.prog.info? 3).map (fun i => (i.zero, i.size, i.bytes)) = some (some (.int .i64 0), 1, 8) := by kernel_rfl
theorem Try.undIs : Try.prog.underlying 52 = some (.slice 3) := by kernel_rfl
def NdI (w : World) (gs : Option Nat) (c : Nat) (l : List Int) : Prop := (gs = none → l = [] ∧ c = 0) ∧ ∀ g, gs = some g → OwnR w 3 g l.length c (iv l)
theorem NdI.keep {w w' : World} {gs : Option Nat} {c : Nat} {l : List Int} (h : NdI w gs c l) (hb : ∀ g, gs = some g → w'.heap[g]? = w.heap[g]?) : NdI w' gs c l := ⟨h.1, fun g hg => (h.2 g hg).keep (hb g hg)⟩
structure NxR (w : World) (lo xb n : Nat) (bl : Nat → Option Nat) (cp : Nat → Nat) (R : Nat → List Int) : Prop where
  blk : ∃ cur : Array Value, w.heap[xb]? = some (.cells cur 52 (0, 0)) ∧ cur.size = n ∧ ∀ t, t < n → cur[t]? = some (.slice (adr (bl t)) (R t).length (cp t))
  row : ∀ t, t < n → NdI w (bl t) (cp t) (R t)
  lo : ∀ t g, t < n → bl t = some g → lo ≤ g
  ap : ∀ t t' g, t < n → t' < n → bl t = some g → bl t' = some g → t = t'
theorem NxR.cell {w : World} {lo xb n : Nat} {bl : Nat → Option Nat} {cp : Nat → Nat} {R : Nat → List Int} (h : NxR w lo xb n bl cp R) {t : Nat} (ht : t < n) : w.cell? ⟨xb, t, none⟩ = some (.slice (adr (bl t)) (R t).length (cp t)) ∧ w.frozen? ⟨xb, t, none⟩ = false := by
  obtain ⟨cur, h1, h2, h3⟩ := h.blk
  exact ⟨by simp only [World.cell?, h1]; exact h3 t ht, by simp [World.frozen?, h1]⟩
theorem NxR.keep {w w' : World} {lo xb n : Nat} {bl : Nat → Option Nat} {cp : Nat → Nat} {R : Nat → List Int} (h : NxR w lo xb n bl cp R) (hx : w'.heap[xb]? = w.heap[xb]?) (hb : ∀ t g, t < n → bl t = some g → w'.heap[g]? = w.heap[g]?) : NxR w' lo xb n bl cp R := by
  obtain ⟨cur, h1, h2⟩ := h.blk
  exact ⟨⟨cur, hx.trans h1, h2⟩, fun t ht => (h.row t ht).keep (fun g hg => hb t g ht hg), h.lo, h.ap⟩
theorem NxR.lt {w : World} {lo xb n : Nat} {bl : Nat → Option Nat} {cp : Nat → Nat} {R : Nat → List Int} (h : NxR w lo xb n bl cp R) : xb < w.heap.size ∧ ∀ t g, t < n → bl t = some g → g < w.heap.size := by
  obtain ⟨cur, h1, h2⟩ := h.blk
  exact ⟨(Array.getElem?_eq_some_iff.1 h1).1, fun t g ht hg => ((h.row t ht).2 g hg).lt⟩
theorem NxR.put {w w1 : World} {lo xb n f : Nat} {bl : Nat → Option Nat} {cp : Nat → Nat} {R : Nat → List Int} {g' c' : Nat} {l' : List Int} (h : NxR w lo xb n bl cp R) (hf : f < n) (hxl : xb < lo)
    (hx : w1.heap[xb]? = w.heap[xb]?) (hk : ∀ k, k < w.heap.size → bl f ≠ some k → w1.heap[k]? = w.heap[k]?) (ho : OwnR w1 3 g' l'.length c' (iv l')) (hg : bl f = some g' ∨ w.heap.size ≤ g') (hlo : lo ≤ w.heap.size) :
    NxR (w1.setCell ⟨xb, f, none⟩ (.slice (some ⟨g', 0, none⟩) l'.length c')) lo xb n (fun t => if t = f then some g' else bl t) (fun t => if t = f then c' else cp t) (fun t => if t = f then l' else R t) := by
  obtain ⟨cur, h1, h2, h3⟩ := h.blk
  have hlt := h.lt
  have hgx : g' ≠ xb := by rcases hg with hg | hg; have := h.lo f g' hf hg; omega; omega
  have e1 : (w1.setCell ⟨xb, f, none⟩ (.slice (some ⟨g', 0, none⟩) l'.length c')).heap[xb]? = some (.cells (cur.setIfInBounds f (.slice (some ⟨g', 0, none⟩) l'.length c')) 52 (0, 0)) := by
    rw [Sort.setCell_eq]; show (w1.heap.modify xb _)[xb]? = _
    rw [Array.getElem?_modify, if_pos rfl, hx, h1]; rfl
  have e2 : ∀ k, k ≠ xb → (w1.setCell ⟨xb, f, none⟩ (.slice (some ⟨g', 0, none⟩) l'.length c')).heap[k]? = w1.heap[k]? := fun k hk => Below.heap_setCell w1 _ _ k hk
  refine ⟨⟨_, e1, by simpa using h2, fun t ht => ?_⟩, fun t ht => ?_, fun t g ht hgt => ?_, fun t t' g ht ht' hgt hgt' => ?_⟩
  · rw [Array.getElem?_setIfInBounds]
    by_cases e : f = t
    · subst e; rw [if_pos rfl, if_pos (by omega)]; simp [adr]
    · rw [if_neg e, if_neg (Ne.symm e), if_neg (Ne.symm e), if_neg (Ne.symm e)]; exact h3 t ht
  · by_cases e : t = f
    · simp only [if_pos e]
      refine ⟨(fun hc => by cases hc), fun g hgg => ?_⟩
      injection hgg with hgg; subst hgg
      exact ho.keep (e2 g' hgx)
    · simp only [if_neg e]
      refine (h.row t ht).keep fun g hgt => ?_
      have hgl := hlt.2 t g ht hgt
      have := h.lo t g ht hgt
      exact (e2 g (by omega)).trans (hk g hgl (fun e' => e (h.ap t f g ht hf hgt e')))
  · by_cases e : t = f
    · simp only [if_pos e] at hgt; injection hgt with hgt; subst hgt
      rcases hg with hg | hg
      · exact h.lo f g' hf hg
      · omega
    · simp only [if_neg e] at hgt; exact h.lo t g ht hgt
  · by_cases e : t = f
    · by_cases e' : t' = f
      · omega
      · simp only [if_pos e] at hgt; simp only [if_neg e'] at hgt'
        injection hgt with hgt; subst hgt
        exfalso
        rcases hg with hg | hg
        · exact e' (h.ap t' f g' ht' hf hgt' hg)
        · have := hlt.2 t' g' ht' hgt'; omega
    · by_cases e' : t' = f
      · simp only [if_neg e] at hgt; simp only [if_pos e'] at hgt'
        injection hgt' with hgt'; subst hgt'
        exfalso
        rcases hg with hg | hg
        · exact e (h.ap t f g' ht hf hgt hg)
        · have := hlt.2 t g' ht hgt; omega
      · simp only [if_neg e] at hgt; simp only [if_neg e'] at hgt'; exact h.ap t t' g ht ht' hgt hgt'
theorem appI (gs : Option Nat) (c : Nat) (l : List Int) (w : World) (h : NdI w gs c l) (x : Int) (hl : l.length * 8 ≤ 140737488355328) (ty : TypeId) :
    ∃ g' c' w', (Builtin.append_ #[52, 52] ty #[.slice (adr gs) l.length c, .slice (some ⟨w.heap.size, 0, none⟩) 1 1]).run Try.prog (w.alloc (.cells #[.int .i64 x] 3)) = .ok (.slice (some ⟨g', 0, none⟩) (l.length + 1) c') w' ∧
      OwnR w' 3 g' (l.length + 1) c' (iv (l ++ [x])) ∧ (w.alloc (.cells #[.int .i64 x] 3)).grownBy w' gs ∧ (gs = some g' ∨ w.heap.size < g') := by
  obtain ⟨i0, hi, hz0, hz1, hz2⟩ := info_parts Try.infoIn
  have hlx : ∀ j u, [Value.int .i64 x][j]? = some u → (w.alloc (.cells #[.int .i64 x] 3)).cell? ((⟨w.heap.size, 0, none⟩ : Addr).add j) = some u := cell_one_new _ _ _
  cases gs with
  | some g =>
    have ho := (h.2 g rfl).keep (Below.heap_alloc w (.cells #[.int .i64 x] 3) g (h.2 g rfl).lt)
    obtain ⟨g', c', w', h1, h2, h3, h4⟩ := run_appS (P := Try.prog) (w.alloc (.cells #[.int .i64 x] 3)) 52 52 ty 3 i0 (.int .i64 0) 8 Try.undIs hi hz0 hz1 hz2 rfl g l.length c (iv l) ho _ 1 [.int .i64 x] (Src.ofSlice _ Try.undIs ⟨w.heap.size, 0, none⟩ 1 1 [.int .i64 x] rfl hlx (fun u hu => by simp at hu; subst hu; rfl)) (by omega) (by decide)
    exact ⟨g', c', w', h1, by simpa [iv] using h2, h3, h4.imp (fun e => by rw [e]) (fun e => by rw [e, al_size]; omega)⟩
  | none =>
    obtain ⟨rfl, rfl⟩ := h.1 rfl
    have hr := run_append_nil (P := Try.prog) (w.alloc (.cells #[.int .i64 x] 3)) 52 ty 3 i0 (.int .i64 0) Try.undIs hi hz0 ⟨w.heap.size, 0, none⟩ 1 1 [.int .i64 x] (by rw [hz1]; rfl) hlx (by decide) (by decide) (by rw [hz2]; decide)
    have hge := grownCap_ge (w.alloc (.cells #[.int .i64 x] 3)) 1 0 3
    have hcm := grownCap_le_maxLen (w.alloc (.cells #[.int .i64 x] 3)) 1 0 3 (by simp [maxLen])
    refine ⟨_, _, _, hr, ⟨by simp [iv], _, heap_alloc_new _ _, by simpa using hge, hcm, ?_, ?_⟩, ⟨rfl, rfl, rfl, by simp, fun k hk _ => heap_alloc_old (w.alloc (.cells #[.int .i64 x] 3)).drew _ hk⟩, .inr (by rw [al_size]; omega)⟩
    · simp only [Array.size_append, List.size_toArray, size_zeroCells, List.length_cons, List.length_nil]
      have : (Value.int .i64 0).cells.size = 1 := rfl
      rw [this]; omega
    · simp [iv]
end Go.Proofs.Ytghfikeakfiopaa

