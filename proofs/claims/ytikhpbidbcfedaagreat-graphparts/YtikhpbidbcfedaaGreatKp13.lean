/- graph.placesOf: where nodes stand. -/
import Derived.Test.YtikhpbidbcfedaaGreatKp10
import Derived.Test.YtikhpbidbcfedaaGreatKp12
import Derived.Test.YtikhpbidbcfedaaGreatKp1
import Derived.Test.YtikhpbidbcfedaaGreatKp11
namespace Go.Proofs.YtikhpbidbcfedaaGreat
open Go.RowKit Go.ChangeMaps

theorem pls_all {N : List Int} : ∀ {l : List Int}, (∀ x ∈ l, x ∈ N) → Sp.pls N l = some (l.map fun x => N.idxOf x)
  | [], _ => rfl
  | x :: l, h => by
    rw [Sp.pls, if_pos (h x (by simp)), pls_all (fun y hy => h y (by simp [hy]))]; rfl
theorem pls_none {N : List Int} : ∀ {l : List Int}, (∃ x ∈ l, x ∉ N) → Sp.pls N l = none
  | [], h => by obtain ⟨x, hx, _⟩ := h; simp at hx
  | y :: l, h => by
    rw [Sp.pls]
    split
    · rename_i hy
      obtain ⟨x, hx, hn⟩ := h
      rcases List.mem_cons.1 hx with rfl | hx
      · exact absurd hy hn
      · rw [pls_none ⟨x, hx, hn⟩]; rfl
    · rfl
def PlE (w : World) (N : List Int) (l : List Int) (e : Ending) (w' : World) : Prop :=
  Below w.heap.size w w' ∧ ((Sp.pls N l = none ∧ e = .returned (.tuple #[.slice none 0 0, .bool false])) ∨ ∃ ps gs c, Sp.pls N l = some ps ∧ e = .returned (.tuple #[.slice (adr gs) ps.length c, .bool true]) ∧ NdI w' gs c (ps.map fun j : Nat => (j : Int)) ∧ ∀ g, gs = some g → w.heap.size ≤ g)

set_option maxRecDepth 100000 in
set_option maxHeartbeats 4000000 in
theorem placesOf_any (gb mb xb n : Nat) (v0 : Value) (G : List (Int × Int)) (es : Array MapEntry) (ck : Nat) (N : List Int) (a : Option Addr) (cap : Nat) (l : List Int) (B : Nat) (w : World) (h : CnG w gb mb xb n v0 G es ck N) (hl0 : RefsAt w B a l) (hB : B ≤ w.heap.size) (hl : l.length * 8 ≤ 140737488355328) :
    Calls Tryz.prog 28 #[.pointer (some ⟨gb, 0, none⟩), .slice a l.length cap] w (PlE w N l) := by
  have HG : Hid (CnG w gb mb xb n v0 G es ck N) := h
  have HL : Hid (RefsAt w B a l) := hl0
  clear h hl0
  go_enter Tryz.func28, Tryz.ntmps28
  go_wp2
  go_loopw [13, 6] (fun v13 v6 wr => ∃ (i : Nat) (gs : Option Nat) (c : Nat), v13 = .int .i64 i ∧ v6 = .slice (adr gs) i c ∧ i ≤ l.length ∧ Hid (Below w.heap.size w wr ∧ (∀ x ∈ l.take i, x ∈ N) ∧ NdI wr gs c ((l.take i).map fun x => (N.idxOf x : Int)) ∧ ∀ g, gs = some g → w.heap.size ≤ g)) (fun v13 _ _ => l.length - (intOf v13).toNat)
  case atStart => exact ⟨0, none, 0, rfl, rfl, Nat.zero_le _, Below.refl _ _, by simp, ⟨fun _ => ⟨by simp, rfl⟩, fun g hg => by cases hg⟩, fun g hg => by cases hg⟩
  case round =>
    obtain ⟨i, gs, c, rfl, rfl, hi, HR⟩ := hrel
    by_cases hlt : i < l.length
    · obtain ⟨x, hx⟩ : ∃ x, l[i]? = some x := ⟨_, List.getElem?_eq_getElem hlt⟩
      obtain ⟨b, o, rfl, hb, hcx⟩ := (HL.out.keep (HR.out.1.mono hB)).row i (.int .u64 x) (by simp [rv, hx])
      have hbx := HL.out.bd x (List.mem_of_getElem? hx)
      have HS : Hid (CnG wr gb mb xb n v0 G es ck N) := HG.out.keep ⟨HR.out.1.os, HR.out.1.tape, HR.out.1.output, HR.out.1.size, fun j h1 _ => HR.out.1.block j h1⟩
      obtain ⟨hg1, _⟩ := HS.out.cell
      have hxm : x ∈ l := List.mem_of_getElem? hx
      rcases HS.out.look hbx.1 hbx.2 with ⟨L, hno⟩ | ⟨t, L, ht⟩
      · have hlk := L wr rfl
        have HX : Hid (Sp.pls N l = none) := pls_none ⟨x, hxm, hno⟩
        clear L hx hxm hno HS
        go_wp2
        go_ret2
        exact ⟨HR.out.1, .inl ⟨HX.out, rfl⟩⟩
      · have hlk := L wr rfl
        have hti := idx_of HS.out.nd ht
        have htk : l.take (i + 1) = l.take i ++ [x] := by rw [List.take_add_one, hx]; rfl
        have hll : ((l.take i).map fun x => (N.idxOf x : Int)).length = i := by simp; omega
        obtain ⟨g', c', w4, hap, ho4, hgr4, hor4⟩ := appI gs c ((l.take i).map fun x => (N.idxOf x : Int)) wr HR.out.2.2.1 (t : Int) (by rw [hll]; omega) 60
        rw [hll] at hap ho4
        have HF : Hid (Below w.heap.size w w4 ∧ (∀ x ∈ l.take (i + 1), x ∈ N) ∧ NdI w4 (some g') c' ((l.take (i + 1)).map fun x => (N.idxOf x : Int)) ∧ ∀ g, some g' = some g → w.heap.size ≤ g) := by
          have hsz := HR.out.1.size
          refine ⟨(HR.out.1.alloc hsz _).grown hgr4 (HR.out.1.alloc hsz _).size (fun k hk => HR.out.2.2.2 k hk), fun y hy => ?_, ⟨(fun h => by cases h), fun g hg => ?_⟩, fun g hg => ?_⟩
          · rw [htk, List.mem_append, List.mem_singleton] at hy
            rcases hy with hy | rfl
            · exact HR.out.2.1 y hy
            · exact List.mem_of_getElem? ht
          · injection hg with hg; subst hg
            rw [htk, List.map_append, List.length_append, hll]
            simpa [hti] using ho4
          · injection hg with hg; subst hg
            rcases hor4 with h | h
            · exact HR.out.2.2.2 g' h
            · omega
        clear ho4 hgr4 hor4 htk hll hti L hx hxm HS
        go_wp2_with (at_builtin; refine wpList_ranS _ rfl _ _ 60 60 rfl _ _ _ _ rfl rfl hap ?_)
        go_roundw
        case rel => exact ⟨i + 1, some g', c', by go_num, by rfl, by omega, HF.out⟩
        case measure => simp [intOf]; omega
    · obtain rfl : i = l.length := by omega
      have htk : l.take l.length = l := List.take_of_length_le (Nat.le_refl _)
      have HF : Hid (Below w.heap.size w wr ∧ Sp.pls N l = some (l.map fun x => N.idxOf x) ∧ NdI wr gs c ((l.map fun x => N.idxOf x).map fun j : Nat => (j : Int)) ∧ ∀ g, gs = some g → w.heap.size ≤ g) := by
        have h := HR.out
        rw [htk] at h
        exact ⟨h.1, pls_all h.2.1, by rw [List.map_map]; exact h.2.2.1, h.2.2.2⟩
      clear HR htk
      go_wp2
      go_ret2
      exact ⟨HF.out.1, .inr ⟨_, gs, c, HF.out.2.1, by rw [List.length_map]; rfl, HF.out.2.2.1, HF.out.2.2.2⟩⟩
end Go.Proofs.YtikhpbidbcfedaaGreat

/- tenonref14.places: where nodes lie, as the reference tells it. -/
namespace Go.Proofs.YtikhpbidbcfedaaGreat
open Go.RowKit Go.ChangeMaps

end Go.Proofs.YtikhpbidbcfedaaGreat

/- A graph that is only read; a search as it lies in memory. -/
namespace Go.Proofs.YtikhpbidbcfedaaGreat
open Go.RowKit Go.ChangeMaps

structure GR (w : World) (gb : Nat) (N : List Int) (nx : Nat → List Nat) (gn : Option Nat) (cn lo xb : Nat) (bl : Nat → Option Nat) (cp : Nat → Nat) : Prop where
  c0 : w.cell? ⟨gb, 0, none⟩ = some (.slice (adr gn) N.length cn)
  c2 : w.cell? ⟨gb, 2, none⟩ = some (.slice (some ⟨xb, 0, none⟩) N.length N.length)
  nds : Nds w gn cn N
  nxt : NxR w lo xb N.length bl cp (fun t => (nx t).map (fun j : Nat => (j : Int)))
  lt : gb < w.heap.size
theorem GR.keep {w w' : World} {gb : Nat} {N : List Int} {nx : Nat → List Nat} {gn : Option Nat} {cn lo xb : Nat} {bl : Nat → Option Nat} {cp : Nat → Nat} (h : GR w gb N nx gn cn lo xb bl cp) (hb : Below w.heap.size w w') : GR w' gb N nx gn cn lo xb bl cp :=
  ⟨by rw [World.cell?_of_block (w := w) (hb.block gb h.lt)]; exact h.c0, by rw [World.cell?_of_block (w := w) (hb.block gb h.lt)]; exact h.c2,
   h.nds.keep (fun g hg => hb.block g (h.nds.2 g hg).lt), h.nxt.keep (hb.block xb h.nxt.lt.1) (fun t g ht hg => hb.block g (h.nxt.lt.2 t g ht hg)), Nat.lt_of_lt_of_le h.lt hb.size⟩
def GRE (w : World) (gb : Nat) (N : List Int) (nx : Nat → List Nat) : Prop := ∃ gn cn lo xb bl cp, GR w gb N nx gn cn lo xb bl cp
theorem GRE.keep {w w' : World} {gb : Nat} {N : List Int} {nx : Nat → List Nat} (h : GRE w gb N nx) (hb : Below w.heap.size w w') : GRE w' gb N nx := by
  obtain ⟨gn, cn, lo, xb, bl, cp, h⟩ := h
  exact ⟨gn, cn, lo, xb, bl, cp, h.keep hb⟩
theorem GrE.gr {w : World} {D : Nat → Prop} {gb : Nat} {N : List Int} {nx : Nat → List Nat} (h : GrE w D gb N nx) : GRE w gb N nx := by
  obtain ⟨gs, c, mb, xb, G, es, ck, bl, cp, lo, h⟩ := h
  exact ⟨gs, c, lo, xb, bl, cp, by simp [World.cell?, h.cn.cells], by simp [World.cell?, h.cn.cells], h.nds, h.nxt, (Array.getElem?_eq_some_iff.1 h.cn.cells).1⟩
theorem GR.row {w : World} {gb : Nat} {N : List Int} {nx : Nat → List Nat} {gn : Option Nat} {cn lo xb : Nat} {bl : Nat → Option Nat} {cp : Nat → Nat} (h : GR w gb N nx gn cn lo xb bl cp) {p : Nat} (hp : p < N.length) :
    w.cell? ⟨xb, p, none⟩ = some (.slice (adr (bl p)) (nx p).length (cp p)) ∧ ∀ k j, (nx p)[k]? = some j → ∃ g, bl p = some g ∧ w.cell? ⟨g, k, none⟩ = some (.int .i64 (j : Nat)) := by
  refine ⟨by have := (h.nxt.cell hp).1; rwa [List.length_map] at this, fun k j hj => ?_⟩
  obtain ⟨g, hg⟩ : ∃ g, bl p = some g := by
    cases hb : bl p with
    | some g => exact ⟨g, rfl⟩
    | none => have := ((h.nxt.row p hp).1 hb).1; rw [List.map_eq_nil_iff] at this; rw [this] at hj; simp at hj
  exact ⟨g, hg, ((h.nxt.row p hp).2 g hg).cell (by simp [iv, hj])⟩
def InI (w : World) (a : Option Addr) (l : List Nat) : Prop := RowV w (· < w.heap.size) a (iv (l.map fun j : Nat => (j : Int)))
theorem InI.keep {w w' : World} {a : Option Addr} {l : List Nat} (h : InI w a l) (hb : Below w.heap.size w w') : InI w' a l := RowV.same h (fun k hk => hb.block k hk) (fun _ hk => Nat.lt_of_lt_of_le hk hb.size)
theorem InI.at_ {w : World} {a : Option Addr} {l : List Nat} (h : InI w a l) {i j : Nat} (hj : l[i]? = some j) : ∃ b o, a = some ⟨b, o, none⟩ ∧ w.cell? ⟨b, o + i, none⟩ = some (.int .i64 (j : Nat)) := by
  obtain ⟨b, o, h1, _, h2⟩ := h i (.int .i64 (j : Nat)) (by simp [iv, hj])
  exact ⟨b, o, h1, h2⟩
theorem NdI.inI {w : World} {gs : Option Nat} {c : Nat} {l : List Nat} (h : NdI w gs c (l.map fun j : Nat => (j : Int))) : InI w (adr gs) l := by
  intro t x hx
  cases gs with
  | none => have := (h.1 rfl).1; rw [this] at hx; simp at hx
  | some g => exact ⟨g, 0, rfl, (h.2 g rfl).lt, by simpa using (h.2 g rfl).cell hx⟩

def Sp.bls (L : Nat) (s : Bf) : List Bool := (List.range L).map fun i => decide (i ∈ s.ord)
theorem bls_len (L : Nat) (s : Bf) : (Sp.bls L s).length = L := by simp [Sp.bls]
theorem bls_at {L i : Nat} (s : Bf) (h : i < L) : (Sp.bls L s)[i]? = some (decide (i ∈ s.ord)) := by simp [Sp.bls, h]
theorem bls_put {L n p k : Nat} {s : Bf} : Sp.bls L (s.put n p k) = (Sp.bls L s).set n true := by
  apply List.ext_getElem?
  intro t
  rw [List.getElem?_set, bls_len]
  by_cases ht : t < L
  · rw [bls_at _ ht, bls_at _ ht]
    by_cases e : n = t
    · subst e; simp [Bf.put, ht]
    · simp [Bf.put, e, Ne.symm e]
  · rw [List.getElem?_eq_none (by rw [bls_len]; omega), List.getElem?_eq_none (by rw [bls_len]; omega)]
    by_cases e : n = t
    · subst e; simp [ht]
    · simp [e]
theorem row_append {wo : Int} {p : Nat} : ∀ (l m : List Nat) (s : Bf), Bf.row wo p (l ++ m) s = Bf.row wo p m (Bf.row wo p l s)
  | [], m, s => rfl
  | n :: l, m, s => by rw [List.cons_append, Bf.row, row_append l m, Bf.row]
theorem ini_append {wo : Int} : ∀ (l m : List Nat) (s : Bf), Bf.ini wo (l ++ m) s = Bf.ini wo m (Bf.ini wo l s)
  | [], m, s => rfl
  | n :: l, m, s => by rw [List.cons_append, Bf.ini, ini_append l m, Bf.ini]
theorem ini_snoc {wo : Int} {l : List Nat} {i n : Nat} {s : Bf} (h : l[i]? = some n) : Bf.ini wo (l.take (i + 1)) s = (Bf.ini wo (l.take i) s).met wo n n 0 := by
  rw [List.take_add_one, h, ini_append]; rfl
theorem row_snoc {wo : Int} {p : Nat} {l : List Nat} {i n : Nat} {s : Bf} (h : l[i]? = some n) : Bf.row wo p (l.take (i + 1)) s = (Bf.row wo p (l.take i) s).met wo n p ((Bf.row wo p (l.take i) s).lv p + 1) := by
  rw [List.take_add_one, h, row_append]; rfl
structure Bok (L : Nat) (s : Bf) : Prop where
  nd : s.ord.Nodup
  bd : ∀ x ∈ s.ord, x < L
theorem Bok.met {L : Nat} {s : Bf} (h : Bok L s) {wo : Int} {n p k : Nat} (hn : n < L) : Bok L (s.met wo n p k) := by
  unfold Bf.met
  split
  · rename_i hc
    refine ⟨?_, fun x hx => ?_⟩
    · simp only [Bf.put, List.nodup_append]; exact ⟨h.nd, by simp, fun x hx y hy => by simp at hy; subst hy; exact fun e => hc.2 (e ▸ hx)⟩
    · simp [Bf.put] at hx; rcases hx with hx | rfl
      · exact h.bd x hx
      · exact hn
  · exact h
theorem Bok.row {L : Nat} {wo : Int} {p : Nat} : ∀ {l : List Nat} {s : Bf}, Bok L s → (∀ x ∈ l, x < L) → Bok L (Bf.row wo p l s)
  | [], s, h, hl => h
  | n :: l, s, h, hl => by rw [Bf.row]; exact Bok.row (h.met (hl n (by simp))) (fun x hx => hl x (by simp [hx]))
theorem Bok.ini {L : Nat} {wo : Int} : ∀ {l : List Nat} {s : Bf}, Bok L s → (∀ x ∈ l, x < L) → Bok L (Bf.ini wo l s)
  | [], s, h, hl => h
  | n :: l, s, h, hl => by rw [Bf.ini]; exact Bok.ini (h.met (hl n (by simp))) (fun x hx => hl x (by simp [hx]))
theorem Bok.rnd {L : Nat} {nx : Nat → List Nat} {wo : Int} {s0 : Bf} (h : Bok L s0) (hb : ∀ i, ∀ x ∈ nx i, x < L) : ∀ k, Bok L (Bf.rnd nx wo s0 k)
  | 0 => h
  | k + 1 => by
    rw [Bf.rnd]; split
    · exact (Bok.rnd h hb k).row (hb _)
    · exact Bok.rnd h hb k
theorem Bok.no (L : Nat) : Bok L Bf.no := ⟨by simp [Bf.no], by simp [Bf.no]⟩
theorem Bok.len {L : Nat} {s : Bf} (h : Bok L s) : s.ord.length ≤ L := nd_len h.nd h.bd

structure SrI (w : World) (L gi : Nat) (s : Bf) (gs : Option Nat) (c : Nat) (wr : World) : Prop where
  bel : Below w.heap.size w wr
  bls : OwnR wr 4 gi L L (bv (Sp.bls L s))
  ord : NdI wr gs c (s.ord.map fun j : Nat => (j : Int))
  lo : w.heap.size ≤ gi ∧ ∀ g, gs = some g → w.heap.size ≤ g ∧ g ≠ gi
  ok : Bok L s
theorem SrI.at_ {w wr : World} {L gi : Nat} {s : Bf} {gs : Option Nat} {c : Nat} (h : SrI w L gi s gs c wr) {i : Nat} (hi : i < L) : wr.cell? ⟨gi, i, none⟩ = some (.bool (decide (i ∈ s.ord))) ∧ wr.frozen? ⟨gi, i, none⟩ = false :=
  ⟨h.bls.cell (by simp [bv, bls_at s hi]), h.bls.free _⟩
theorem SrI.put {w wr w4 : World} {L gi : Nat} {s : Bf} {gs : Option Nat} {c g' c' n p k : Nat} (h : SrI w L gi s gs c wr) (hn : n < L) (hno : n ∉ s.ord)
    (ho : OwnR w4 3 g' (s.ord.length + 1) c' (iv (s.ord.map (fun j : Nat => (j : Int)) ++ [(n : Int)]))) (hg : ((wr.setCell ⟨gi, n, none⟩ (.bool true)).alloc (.cells #[.int .i64 (n : Int)] 3)).grownBy w4 gs) (hor : gs = some g' ∨ (wr.setCell ⟨gi, n, none⟩ (.bool true)).heap.size < g') :
    SrI w L gi (s.put n p k) (some g') c' w4 := by
  have hgl := h.bls.lt
  have hs : (wr.setCell ⟨gi, n, none⟩ (.bool true)).heap.size = wr.heap.size := by simp [World.setCell]
  rw [hs] at hor
  have hg' : w.heap.size ≤ g' ∧ g' ≠ gi := by
    rcases hor with h1 | h1
    · exact h.lo.2 g' h1
    · have := h.bel.size; exact ⟨by omega, by omega⟩
  have hgi : w4.heap[gi]? = (wr.setCell ⟨gi, n, none⟩ (.bool true)).heap[gi]? := (hg.block gi (by rw [al_size, hs]; omega) (fun e => by have := (h.lo.2 gi e.symm).2; exact this rfl)).trans (Below.heap_alloc _ _ gi (by rw [hs]; exact hgl))
  have hb1 : Below w.heap.size w (wr.setCell ⟨gi, n, none⟩ (.bool true)) := ⟨h.bel.os, h.bel.tape, h.bel.output, by rw [hs]; exact h.bel.size, fun k hk => (Below.heap_setCell wr _ _ k (show k ≠ gi by have := h.lo.1; omega)).trans (h.bel.block k hk)⟩
  have hb2 := hb1.alloc hb1.size (.cells #[.int .i64 (n : Int)] 3)
  refine ⟨hb2.grown hg hb2.size (fun k hk => (h.lo.2 k hk).1), ?_, ⟨(fun e => by cases e), fun g hgg => ?_⟩, ⟨h.lo.1, fun g hgg => ?_⟩, ?_⟩
  · have h1 := (h.bls.set n (.bool true)).keep hgi
    rw [bls_put]
    rw [show bv ((Sp.bls L s).set n true) = (bv (Sp.bls L s)).set n (.bool true) from List.map_set]
    exact h1
  · injection hgg with hgg; subst hgg
    have : (s.put n p k).ord = s.ord ++ [n] := rfl
    rw [this, List.map_append]
    simpa using ho
  · injection hgg with hgg; subst hgg; exact hg'
  · refine ⟨?_, fun x hx => ?_⟩
    · simp only [Bf.put, List.nodup_append]; exact ⟨h.ok.nd, by simp, fun x hx y hy => by simp at hy; subst hy; exact fun e => hno (e ▸ hx)⟩
    · simp [Bf.put] at hx; rcases hx with hx | rfl
      · exact h.ok.bd x hx
      · exact hn
end Go.Proofs.YtikhpbidbcfedaaGreat

