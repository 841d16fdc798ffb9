/- tenonref14.reach: who is reached. -/
import Derived.Test.YtikhpbidbcfedaaGreatKp13
import Derived.Test.YtikhpbidbcfedaaGreatKp12
import Derived.Test.YtikhpbidbcfedaaGreatKp14
namespace Go.Proofs.YtikhpbidbcfedaaGreat
open Go.RowKit Go.ChangeMaps

def RchE (w : World) (L : Nat) (s : Bf) (e : Ending) (w' : World) : Prop := ∃ gi, e = .returned (.slice (some ⟨gi, 0, none⟩) L L) ∧ OwnR w' 4 gi L L (bv (Sp.bls L s)) ∧ w.heap.size ≤ gi ∧ Below w.heap.size w w'

end Go.Proofs.YtikhpbidbcfedaaGreat

/- graph.refs and tenonref14.listed: the nodes that stand in places. -/
namespace Go.Proofs.YtikhpbidbcfedaaGreat
open Go.RowKit Go.ChangeMaps

def NdR (w : World) (gs : Option Nat) (c : Nat) (l : List Int) : Prop := (gs = none → l = [] ∧ c = 0) ∧ ∀ g, gs = some g → OwnR w 25 g l.length c (rv l)
theorem NdR.keep {w w' : World} {gs : Option Nat} {c : Nat} {l : List Int} (h : NdR w gs c l) (hb : ∀ g, gs = some g → w'.heap[g]? = w.heap[g]?) : NdR w' gs c l := ⟨h.1, fun g hg => (h.2 g hg).keep (hb g hg)⟩
theorem Tryz.infoRg : (Tryz.prog.info? 25).map (fun i => (i.zero, i.size, i.bytes)) = some (some (.int .u64 0), 1, 8) := by kernel_rfl
theorem Tryz.undRg : Tryz.prog.underlying 22 = some (.slice 25) := by kernel_rfl
theorem appR (gs : Option Nat) (c : Nat) (l : List Int) (w : World) (h : NdR w gs c l) (x : Int) (hl : l.length * 8 ≤ 140737488355328) (ty : TypeId) :
    ∃ g' c' w', (Builtin.append_ #[22, 22] ty #[.slice (adr gs) l.length c, .slice (some ⟨w.heap.size, 0, none⟩) 1 1]).run Tryz.prog (w.alloc (.cells #[.int .u64 x] 25)) = .ok (.slice (some ⟨g', 0, none⟩) (l.length + 1) c') w' ∧
      OwnR w' 25 g' (l.length + 1) c' (rv (l ++ [x])) ∧ (w.alloc (.cells #[.int .u64 x] 25)).grownBy w' gs ∧ (gs = some g' ∨ w.heap.size < g') := by
  obtain ⟨i0, hi, hz0, hz1, hz2⟩ := info_parts Tryz.infoRg
  have hlx : ∀ j u, [Value.int .u64 x][j]? = some u → (w.alloc (.cells #[.int .u64 x] 25)).cell? ((⟨w.heap.size, 0, none⟩ : Addr).add j) = some u := cell_one_new _ _ _
  cases gs with
  | some g =>
    have ho := (h.2 g rfl).keep (Below.heap_alloc w (.cells #[.int .u64 x] 25) g (h.2 g rfl).lt)
    obtain ⟨g', c', w', h1, h2, h3, h4⟩ := run_appS (P := Tryz.prog) (w.alloc (.cells #[.int .u64 x] 25)) 22 22 ty 25 i0 (.int .u64 0) 8 Tryz.undRg hi hz0 hz1 hz2 rfl g l.length c (rv l) ho _ 1 [.int .u64 x] (Src.ofSlice _ Tryz.undRg ⟨w.heap.size, 0, none⟩ 1 1 [.int .u64 x] rfl hlx (fun u hu => by simp at hu; subst hu; rfl)) (by omega) (by decide)
    exact ⟨g', c', w', h1, by simpa [rv] using h2, h3, h4.imp (fun e => by rw [e]) (fun e => by rw [e, al_size]; omega)⟩
  | none =>
    obtain ⟨rfl, rfl⟩ := h.1 rfl
    have hr := run_append_nil (P := Tryz.prog) (w.alloc (.cells #[.int .u64 x] 25)) 22 ty 25 i0 (.int .u64 0) Tryz.undRg hi hz0 ⟨w.heap.size, 0, none⟩ 1 1 [.int .u64 x] (by rw [hz1]; rfl) hlx (by decide) (by decide) (by rw [hz2]; decide)
    have hge := grownCap_ge (w.alloc (.cells #[.int .u64 x] 25)) 1 0 25
    have hcm := grownCap_le_maxLen (w.alloc (.cells #[.int .u64 x] 25)) 1 0 25 (by simp [maxLen])
    refine ⟨_, _, _, hr, ⟨by simp [rv], _, heap_alloc_new _ _, by simpa using hge, hcm, ?_, ?_⟩, ⟨rfl, rfl, rfl, by simp, fun k hk _ => Below.heap_alloc (w.alloc (.cells #[.int .u64 x] 25)).drew _ k hk⟩, .inr (by rw [al_size]; omega)⟩
    · simp only [Array.size_append, List.size_toArray, size_zeroCells, List.length_cons, List.length_nil]
      have : (Value.int .u64 0).cells.size = 1 := rfl
      rw [this]; omega
    · simp [rv]
def Sp.rfs (N : List Int) (l : List Nat) : List Int := l.map fun j => N.getD j 0
def RfE (w : World) (l : List Int) (e : Ending) (w' : World) : Prop := ∃ gs c, e = .returned (.slice (adr gs) l.length c) ∧ NdR w' gs c l ∧ (∀ g, gs = some g → w.heap.size ≤ g) ∧ Below w.heap.size w w'
structure RfI (w : World) (l : List Int) (gs : Option Nat) (c : Nat) (wr : World) : Prop where
  row : NdR wr gs c l
  lo : ∀ g, gs = some g → w.heap.size ≤ g
  bel : Below w.heap.size w wr
theorem RfI.put {w wr w4 : World} {l : List Int} {gs : Option Nat} {c g' c' : Nat} {x : Int} (h : RfI w l gs c wr) (ho : OwnR w4 25 g' (l.length + 1) c' (rv (l ++ [x]))) (hg : (wr.alloc (.cells #[.int .u64 x] 25)).grownBy w4 gs) (hor : gs = some g' ∨ wr.heap.size < g') : RfI w (l ++ [x]) (some g') c' w4 := by
  have hb := h.bel.alloc h.bel.size (.cells #[.int .u64 x] 25)
  refine ⟨⟨(fun e => by cases e), fun g hgg => ?_⟩, fun g hgg => ?_, hb.grown hg hb.size (fun k hk => h.lo k hk)⟩
  · injection hgg with hgg; subst hgg
    simpa using ho
  · injection hgg with hgg; subst hgg
    rcases hor with h1 | h1
    · exact h.lo g' h1
    · have := h.bel.size; omega

set_option maxRecDepth 100000 in
set_option maxHeartbeats 4000000 in
theorem refs_any (gb : Nat) (N : List Int) (nx : Nat → List Nat) (gn : Option Nat) (cn lo xb : Nat) (bl : Nat → Option Nat) (cp : Nat → Nat) (a : Option Addr) (cap : Nat) (l : List Nat) (w : World) (h : GR w gb N nx gn cn lo xb bl cp) (hs : InI w a l) (hsb : ∀ x ∈ l, x < N.length) (hl : l.length * 8 ≤ 140737488355328) :
    Calls Tryz.prog 32 #[.pointer (some ⟨gb, 0, none⟩), .slice a l.length cap] w (RfE w (Sp.rfs N l)) := by
  have HG : Hid (GR w gb N nx gn cn lo xb bl cp ∧ InI w a l) := ⟨h, hs⟩
  have HB : Hid (∀ x ∈ l, x < N.length) := hsb
  have H0 : Hid (RfI w (Sp.rfs N (l.take 0)) none 0 w) := ⟨⟨fun _ => ⟨rfl, rfl⟩, fun g hg => by cases hg⟩, (fun g hg => by cases hg), Below.refl _ _⟩
  clear h hs hsb
  go_enter Tryz.func32, Tryz.ntmps32
  go_wp2_with fail
  go_loopw [5, 10] (fun v5 v10 wr => ∃ (i : Nat) (gs : Option Nat) (c : Nat), v10 = .int .i64 i ∧ i ≤ l.length ∧ v5 = .slice (adr gs) i c ∧ Hid (RfI w (Sp.rfs N (l.take i)) gs c wr)) (fun _ v10 _ => l.length - (intOf v10).toNat)
  case atStart => exact ⟨0, none, 0, rfl, Nat.zero_le _, rfl, H0.out⟩
  case round =>
    clear H0
    obtain ⟨i, gs, c, rfl, hi, rfl, HS⟩ := hrel
    by_cases hlt : i < l.length
    · have hltz : (i : Int) < (l.length : Int) := by omega
      obtain ⟨n, hx⟩ : ∃ n, l[i]? = some n := ⟨_, List.getElem?_eq_getElem hlt⟩
      obtain ⟨b, o, rfl, hcx⟩ := (HG.out.2.keep HS.out.bel).at_ hx
      have hnL : n < N.length := HB.out n (List.mem_of_getElem? hx)
      have hnz : (n : Int) < (N.length : Int) := by omega
      have HGk : Hid (GR wr gb N nx gn cn lo xb bl cp) := HG.out.1.keep HS.out.bel
      have hc0 := HGk.out.c0
      obtain ⟨y, hy⟩ : ∃ y, N[n]? = some y := ⟨_, List.getElem?_eq_getElem hnL⟩
      obtain ⟨gN, rfl⟩ : ∃ g, gn = some g := by
        cases gn with
        | some g => exact ⟨g, rfl⟩
        | none => have := HG.out.1.nds.1 rfl; subst this; simp at hnL
      have hcy : wr.cell? ⟨gN, n, none⟩ = some (.int .u64 y) := (HGk.out.nds.2 gN rfl).cell (by simp [rv, hy])
      have hadN : adr (some gN) = some ⟨gN, 0, none⟩ := rfl
      have HN : Hid (Sp.rfs N (l.take (i + 1)) = Sp.rfs N (l.take i) ++ [y]) := by
        show _ = _
        rw [List.take_add_one, hx]; simp [Sp.rfs, List.getD_eq_getElem?_getD, hy]
      have hll : (Sp.rfs N (l.take i)).length = i := by simp [Sp.rfs]; omega
      obtain ⟨g', c', w4, hap, ho4, hgr4, hor4⟩ := appR gs c (Sp.rfs N (l.take i)) wr HS.out.row y (by rw [hll]; omega) 22
      rw [hll] at hap
      have HF2 : Hid (RfI w (Sp.rfs N (l.take i) ++ [y]) (some g') c' w4) := HS.out.put ho4 hgr4 hor4
      clear ho4 hgr4 hor4 hx hy HGk hll
      go_wp2_with (at_builtin; refine wpList_ranS _ rfl _ _ 22 22 rfl _ _ _ _ rfl rfl hap ?_)
      go_roundw
      case rel => exact ⟨i + 1, some g', c', by go_num, by omega, rfl, by show RfI _ _ _ _ _; rw [HN.out]; exact HF2.out⟩
      case measure => simp [intOf]; omega
    · obtain rfl : i = l.length := by omega
      have htk : l.take l.length = l := List.take_of_length_le (Nat.le_refl _)
      rw [htk] at HS
      clear htk
      go_wp2_with fail
      go_ret
      exact ⟨gs, c, by simp [Sp.rfs], HS.out.row, HS.out.lo, HS.out.bel⟩

def Sp.mks (b : List Bool) : Nat → List Nat
  | 0 => []
  | i + 1 => if b.getD i false = true then Sp.mks b i ++ [i] else Sp.mks b i
end Go.Proofs.YtikhpbidbcfedaaGreat

/- graph.spread: what it has met; its function that meets one. -/
namespace Go.Proofs.YtikhpbidbcfedaaGreat
open Go.RowKit Go.ChangeMaps

def Sp.byl (L : Nat) (s : Bf) : List Int := (List.range L).map fun i => if i ∈ s.ord then (s.bq i : Int) else -1
theorem byl_len (L : Nat) (s : Bf) : (Sp.byl L s).length = L := by simp [Sp.byl]
theorem byl_at {L i : Nat} (s : Bf) (h : i < L) : (Sp.byl L s)[i]? = some (if i ∈ s.ord then (s.bq i : Int) else -1) := by simp [Sp.byl, h]
theorem byl_put {L n p k : Nat} {s : Bf} : Sp.byl L (s.put n p k) = (Sp.byl L s).set n (p : Int) := by
  apply List.ext_getElem?
  intro t
  rw [List.getElem?_set, byl_len]
  by_cases ht : t < L
  · rw [byl_at _ ht, byl_at _ ht]
    by_cases e : n = t
    · subst e; simp [Bf.put, ht]
    · simp [Bf.put, e, Ne.symm e]
  · rw [List.getElem?_eq_none (by rw [byl_len]; omega), List.getElem?_eq_none (by rw [byl_len]; omega)]
    by_cases e : n = t
    · subst e; simp [ht]
    · simp [e]
theorem byl_no (L : Nat) : Sp.byl L Bf.no = List.replicate L (-1) := by
  apply List.ext_getElem?
  intro t
  by_cases ht : t < L
  · rw [byl_at _ ht]; simp [Bf.no, ht]
  · rw [List.getElem?_eq_none (by rw [byl_len]; omega), List.getElem?_eq_none (by simp; omega)]

set_option maxRecDepth 100000 in
set_option maxHeartbeats 2000000 in
theorem has_any (gi L L2 : Nat) (o : Value) (n : Nat) (v : Int) (w : World) (hc : w.cell? ⟨gi, n, none⟩ = some (.int .i64 v)) (hn : n < L) :
    Calls Tryz.prog 31 #[.agg #[.slice (some ⟨gi, 0, none⟩) L L2, o], .int .i64 (n : Int)] w fun e w' => e = .returned (.bool (v != -1)) ∧ Below w.heap.size w w' := by
  have hg : gi < w.heap.size := World.block_lt_of_cell? _ _ hc
  have hca : ∀ o, (w.alloc o).cell? ⟨gi, n, none⟩ = some (.int .i64 v) := fun o => by rw [World.cell?_of_block (w := w) (Below.heap_alloc w o gi hg)]; exact hc
  have hz : (n : Int) < (L : Int) := by omega
  clear hc hg
  go_enter Tryz.func31, Tryz.ntmps31
  go_wp2_with fail
  go_ret
  exact ⟨rfl, (Below.refl _ _).alloc (Nat.le_refl _) _⟩

structure SpI (w : World) (L gi sb wb : Nat) (wo : Int) (s : Bf) (gs : Option Nat) (c : Nat) (wr : World) : Prop where
  bel : Below w.heap.size w wr
  box : wr.heap[sb]? = some (.cells #[.slice (some ⟨gi, 0, none⟩) L L, .slice (adr gs) s.ord.length c] 65 (0, 0))
  wbx : wr.cell? ⟨wb, 0, none⟩ = some (.int .i64 wo)
  byl : OwnR wr 3 gi L L (iv (Sp.byl L s))
  ord : NdI wr gs c (s.ord.map fun j : Nat => (j : Int))
  lo : w.heap.size ≤ gi ∧ w.heap.size ≤ sb ∧ gi ≠ sb ∧ wb ≠ sb ∧ wb ≠ gi
  lg : ∀ g, gs = some g → w.heap.size ≤ g ∧ g ≠ gi ∧ g ≠ sb ∧ g ≠ wb
  ok : Bok L s
theorem SpI.keep {w wr w1 : World} {L gi sb wb : Nat} {wo : Int} {s : Bf} {gs : Option Nat} {c : Nat} (h : SpI w L gi sb wb wo s gs c wr) (hb : Below wr.heap.size wr w1) : SpI w L gi sb wb wo s gs c w1 :=
  ⟨h.bel.trans (hb.mono h.bel.size), (hb.block sb (Array.getElem?_eq_some_iff.1 h.box).1).trans h.box, by rw [World.cell?_of_block (w := wr) (hb.block wb (World.block_lt_of_cell? _ _ h.wbx))]; exact h.wbx,
   h.byl.keep (hb.block gi h.byl.lt), h.ord.keep (fun g hg => hb.block g (h.ord.2 g hg).lt), h.lo, h.lg, h.ok⟩
theorem SpI.at_ {w wr : World} {L gi sb wb : Nat} {wo : Int} {s : Bf} {gs : Option Nat} {c : Nat} (h : SpI w L gi sb wb wo s gs c wr) {i : Nat} (hi : i < L) : wr.cell? ⟨gi, i, none⟩ = some (.int .i64 (if i ∈ s.ord then (s.bq i : Int) else -1)) ∧ wr.frozen? ⟨gi, i, none⟩ = false :=
  ⟨h.byl.cell (by simp [iv, byl_at s hi]), h.byl.free _⟩
theorem SpI.put {w wr w4 : World} {L gi sb wb : Nat} {wo : Int} {s : Bf} {gs : Option Nat} {c g' c' n p k : Nat} (h : SpI w L gi sb wb wo s gs c wr) (hn : n < L) (hno : n ∉ s.ord)
    (ho : OwnR w4 3 g' (s.ord.length + 1) c' (iv (s.ord.map (fun j : Nat => (j : Int)) ++ [(n : Int)]))) (hg : ((wr.setCell ⟨gi, n, none⟩ (.int .i64 (p : Int))).alloc (.cells #[.int .i64 (n : Int)] 3)).grownBy w4 gs) (hor : gs = some g' ∨ (wr.setCell ⟨gi, n, none⟩ (.int .i64 (p : Int))).heap.size < g') :
    SpI w L gi sb wb wo (s.put n p k) (some g') c' (w4.setCell ⟨sb, 1, none⟩ (.slice (some ⟨g', 0, none⟩) (s.ord.length + 1) c')) := by
  have hgl := h.byl.lt
  have hsl := (Array.getElem?_eq_some_iff.1 h.box).1
  have hwl : wb < wr.heap.size := World.block_lt_of_cell? _ _ h.wbx
  have hs : (wr.setCell ⟨gi, n, none⟩ (.int .i64 (p : Int))).heap.size = wr.heap.size := by simp [World.setCell]
  rw [hs] at hor
  obtain ⟨l1, l2, l4, l5, l6⟩ := h.lo
  have hg' : w.heap.size ≤ g' ∧ g' ≠ gi ∧ g' ≠ sb ∧ g' ≠ wb := by
    rcases hor with h1 | h1
    · exact h.lg g' h1
    · have := h.bel.size; exact ⟨by omega, by omega, by omega, by omega⟩
  have old : ∀ b, b < wr.heap.size → b ≠ gi → gs ≠ some b → w4.heap[b]? = wr.heap[b]? := fun b hb h1 h2 =>
    ((hg.block b (by rw [al_size, hs]; omega) (fun e => h2 e.symm)).trans (Below.heap_alloc _ _ b (by rw [hs]; exact hb))).trans (Below.heap_setCell wr _ _ b h1)
  have hgi : w4.heap[gi]? = (wr.setCell ⟨gi, n, none⟩ (.int .i64 (p : Int))).heap[gi]? := (hg.block gi (by rw [al_size, hs]; omega) (fun e => (h.lg gi e.symm).2.1 rfl)).trans (Below.heap_alloc _ _ gi (by rw [hs]; exact hgl))
  have hb1 : Below w.heap.size w (wr.setCell ⟨gi, n, none⟩ (.int .i64 (p : Int))) := ⟨h.bel.os, h.bel.tape, h.bel.output, by rw [hs]; exact h.bel.size, fun k hk => (Below.heap_setCell wr _ _ k (show k ≠ gi by omega)).trans (h.bel.block k hk)⟩
  have hb2 := hb1.alloc hb1.size (.cells #[.int .i64 (n : Int)] 3)
  have hb4 := hb2.grown hg hb2.size (fun k hk => (h.lg k hk).1)
  have e2 : ∀ k, k ≠ sb → (w4.setCell ⟨sb, 1, none⟩ (.slice (some ⟨g', 0, none⟩) (s.ord.length + 1) c')).heap[k]? = w4.heap[k]? := fun k hk => Below.heap_setCell w4 _ _ k hk
  refine ⟨⟨hb4.os, hb4.tape, hb4.output, by simpa [World.setCell] using hb4.size, fun k hk => (e2 k (by omega)).trans (hb4.block k hk)⟩, ?_, ?_, ?_, ⟨(fun e => by cases e), fun g hgg => ?_⟩, h.lo, fun g hgg => ?_, ?_⟩
  · rw [Sort.setCell_eq]; show (w4.heap.modify sb _)[sb]? = _
    rw [Array.getElem?_modify, if_pos rfl, old sb hsl (Ne.symm l4) (fun e => (h.lg sb e).2.2.1 rfl), h.box]
    simp [Bf.put, adr]
    rfl
  · rw [World.cell?_of_block (w := wr) ((e2 wb l5).trans (old wb hwl l6 (fun e => (h.lg wb e).2.2.2 rfl)))]; exact h.wbx
  · have h1 := ((h.byl.set n (.int .i64 (p : Int))).keep hgi).keep (e2 gi l4)
    rw [byl_put]
    rw [show iv ((Sp.byl L s).set n (p : Int)) = (iv (Sp.byl L s)).set n (.int .i64 (p : Int)) from List.map_set]
    exact h1
  · injection hgg with hgg; subst hgg
    have : (s.put n p k).ord = s.ord ++ [n] := rfl
    rw [this, List.map_append]
    simpa using ho.keep (e2 g' hg'.2.2.1)
  · injection hgg with hgg; subst hgg; exact hg'
  · refine ⟨?_, fun x hx => ?_⟩
    · simp only [Bf.put, List.nodup_append]; exact ⟨h.ok.nd, by simp, fun x hx y hy => by simp at hy; subst hy; exact fun e => hno (e ▸ hx)⟩
    · simp [Bf.put] at hx; rcases hx with hx | rfl
      · exact h.ok.bd x hx
      · exact hn

set_option maxRecDepth 100000 in
set_option maxHeartbeats 4000000 in
theorem meet_any (w : World) (L gi sb wb : Nat) (wo : Int) (s : Bf) (gs : Option Nat) (c n p k : Nat) (wr : World) (h : SpI w L gi sb wb wo s gs c wr) (hn : n < L) (hL : L ≤ 4096) :
    Calls Tryz.prog 53 #[.int .i64 (n : Int), .int .i64 (p : Int), .pointer (some ⟨wb, 0, none⟩), .pointer (some ⟨sb, 0, none⟩)] wr fun e w' => ∃ gs' c', e = .returned (.tuple #[]) ∧ SpI w L gi sb wb wo (s.met wo n p k) gs' c' w' := by
  have HI : Hid (SpI w L gi sb wb wo s gs c wr) := h
  have hnz : (n : Int) < (L : Int) := by omega
  have hw0 := h.wbx
  have hs0 : wr.cell? ⟨sb, 0, none⟩ = some (.slice (some ⟨gi, 0, none⟩) L L) := by simp [World.cell?, h.box]
  have hs1 : wr.cell? ⟨sb, 1, none⟩ = some (.slice (adr gs) s.ord.length c) := by simp [World.cell?, h.box]
  have hci := (h.at_ hn).1
  have hml : s.ord.length ≤ 4096 := by have := h.ok.len; omega
  clear h
  by_cases hwo : (n : Int) = wo
  · have hwb : ((n : Int) != wo) = false := by simp [hwo]
    have HF : Hid (s.met wo n p k = s) := by show _ = _; unfold Bf.met; rw [if_neg (fun h => h.1 hwo)]
    go_enter Tryz.func53, Tryz.ntmps53
    go_wp2_with fail
    go_end0
    exact ⟨gs, c, rfl, by rw [HF.out]; exact HI.out⟩
  · have hwb : ((n : Int) != wo) = true := by simp [hwo]
    by_cases hin : n ∈ s.ord
    · rw [if_pos hin] at hci
      have HF : Hid (s.met wo n p k = s) := by show _ = _; unfold Bf.met; rw [if_neg (fun h => h.2 hin)]
      have HH : Hid (Calls Tryz.prog 31 #[.agg #[.slice (some ⟨gi, 0, none⟩) L L, .slice (adr gs) s.ord.length c], .int .i64 (n : Int)] wr fun e w' => e = .returned (.bool true) ∧ Below wr.heap.size wr w') := by
        have := has_any gi L L (.slice (adr gs) s.ord.length c) n _ wr hci hn
        rwa [show (((s.bq n : Nat) : Int) != -1) = true by simp] at this
      clear hci
      go_enter Tryz.func53, Tryz.ntmps53
      go_wp2_with (go_at_call 31; refine HH.out.mono ?_; rintro e w1 ⟨rfl, hb⟩; have HB : Hid (Below wr.heap.size wr w1) := hb; clear hb)
      go_end0
      exact ⟨gs, c, rfl, by rw [HF.out]; exact HI.out.keep HB.out⟩
    · rw [if_neg hin] at hci
      have HF : Hid (s.met wo n p k = s.put n p k) := by show _ = _; unfold Bf.met; rw [if_pos ⟨hwo, hin⟩]
      have HH : Hid (Calls Tryz.prog 31 #[.agg #[.slice (some ⟨gi, 0, none⟩) L L, .slice (adr gs) s.ord.length c], .int .i64 (n : Int)] wr fun e w' => e = .returned (.bool false) ∧ Below wr.heap.size wr w') := by
        have := has_any gi L L (.slice (adr gs) s.ord.length c) n _ wr hci hn
        rwa [show ((-1 : Int) != -1) = false by simp] at this
      clear hci
      go_enter Tryz.func53, Tryz.ntmps53
      go_upto_region 1 with (go_at_call 31; refine HH.out.mono ?_; rintro e w1 ⟨rfl, hb⟩; have HB : Hid (SpI w L gi sb wb wo s gs c w1) := HI.out.keep hb; clear hb)
      clear hw0 hs0 hs1
      obtain ⟨hci, hfi⟩ := HB.out.at_ hn
      have hs0 : w1.cell? ⟨sb, 0, none⟩ = some (.slice (some ⟨gi, 0, none⟩) L L) := by simp [World.cell?, HB.out.box]
      obtain ⟨W5, hW5⟩ : ∃ W5, w1.setCell ⟨gi, n, none⟩ (.int .i64 (p : Int)) = W5 := ⟨_, rfl⟩
      have hb5 : W5.heap[sb]? = w1.heap[sb]? := by rw [← hW5]; exact Below.heap_setCell w1 _ _ sb (Ne.symm HB.out.lo.2.2.1)
      have hs1 : W5.cell? ⟨sb, 1, none⟩ = some (.slice (adr gs) s.ord.length c) := by simp [World.cell?, hb5, HB.out.box]
      have hoI : NdI W5 gs c (s.ord.map fun j : Nat => (j : Int)) := by rw [← hW5]; exact HB.out.ord.keep (fun g hg => Below.heap_setCell w1 _ _ g (HB.out.lg g hg).2.1)
      obtain ⟨g', c', w4, hap, ho4, hgr4, hor4⟩ := appI gs c (s.ord.map fun j : Nat => (j : Int)) W5 hoI (n : Int) (by rw [List.length_map]; omega) 60
      rw [List.length_map] at hap ho4
      have hsl := (Array.getElem?_eq_some_iff.1 HB.out.box).1
      have hs5 : W5.heap.size = w1.heap.size := by rw [← hW5]; simp [World.setCell]
      have hb4 : w4.heap[sb]? = w1.heap[sb]? := ((hgr4.block sb (by rw [al_size]; omega) (fun e => (HB.out.lg sb e.symm).2.2.1 rfl)).trans (Below.heap_alloc W5 _ sb (by omega))).trans hb5
      have hs4 : w4.cell? ⟨sb, 1, none⟩ = some (.slice (adr gs) s.ord.length c) := by simp [World.cell?, hb4, HB.out.box]
      have hf4 : w4.frozen? ⟨sb, 1, none⟩ = false := by simp [World.frozen?, hb4, HB.out.box]
      have HF2 : Hid (SpI w L gi sb wb wo (s.put n p k) (some g') c' (w4.setCell ⟨sb, 1, none⟩ (.slice (some ⟨g', 0, none⟩) (s.ord.length + 1) c'))) := HB.out.put hn hin ho4 (by rw [hW5]; exact hgr4) (by rw [hW5]; exact hor4)
      clear ho4 hgr4 hor4 hoI hsl hb4 hb5 hs5
      go_wp2_with (at_builtin; refine wpList_ranS _ rfl _ _ 60 60 rfl _ _ _ _ rfl rfl hap ?_)
      go_end0
      exact ⟨some g', c', rfl, by rw [HF.out]; exact HF2.out⟩
end Go.Proofs.YtikhpbidbcfedaaGreat

