/- A Go map from identities to ghosts: what it holds, in the order of its entries. -/
import Derived.Test.YtjlhmgopmdcopaaKR27
import Derived.Maps.Keyed
import Derived.Test.YtjlhmgopmdcopaaKR3
namespace Go.Proofs.Ytjlhmgopmdcopaa
open Go.RowKit Go.ChangeMaps

theorem Try.undRef : Try.prog.underlying 25 = some (.int .u64) := by kernel_rfl
theorem Try.undMg : Try.prog.underlying 83 = some (.map 25 37) := by kernel_rfl
theorem refK : Go.Maps.Keyed Try.prog 25 := Go.Maps.int_keyed Try.undRef
theorem keyR {x : Int} (h0 : 0 ≤ x) (h1 : x < 18446744073709551616) : keyOf Try.prog 25 (.int .u64 x) = some (.int .u64 x) := Go.Maps.keyOf_int_mk Try.undRef (by simp [Lit.wf, IntKind.min, IntKind.max, IntKind.signed, IntKind.bits]; omega)

theorem setG_same {w : World} {b : Nat} {o o' : Obj} (h : w.heap[b]? = some o) : (setBlock w b o').heap[b]? = some o' := by
  have hb : b < w.heap.size := by
    by_cases hb : b < w.heap.size
    · exact hb
    · rw [Array.getElem?_eq_none (by omega)] at h; exact absurd h (by simp)
  simp [setBlock, hb]
theorem setG_other {w : World} {b k : Nat} {o : Obj} (h : k ≠ b) : (setBlock w b o).heap[k]? = w.heap[k]? := by
  simp [setBlock, Ne.symm h]
theorem setG_size (w : World) (b : Nat) (o : Obj) : (setBlock w b o).heap.size = w.heap.size := by simp [setBlock]

/-- block m is a map that holds G -/
structure MpR (w : World) (m : Nat) (G : List (Int × Nat)) (es : Array MapEntry) (clock : Nat) : Prop where
  blk : w.heap[m]? = some (.map es clock)
  len : es.toList.length = G.length
  ent : ∀ (j : Nat) x g, es.toList[j]? = some x → G[j]? = some g → x.key = .int .u64 g.1 ∧ (0 ≤ g.1 ∧ g.1 < 18446744073709551616) ∧ x.val = .pointer (some ⟨g.2, 0, none⟩)
theorem MpR.keys {w : World} {m : Nat} {G : List (Int × Nat)} {es : Array MapEntry} {clock : Nat} (h : MpR w m G es clock) : ∀ e ∈ es.toList, ∃ l, keyOf Try.prog 25 e.key = some l := fun e he => by
  obtain ⟨j, hj, rfl⟩ := List.mem_iff_getElem.1 he
  obtain ⟨h1, h2, _⟩ := h.ent j _ (G[j]'(by rw [← h.len]; exact hj)) (List.getElem?_eq_getElem hj) (List.getElem?_eq_getElem _)
  exact ⟨_, by rw [h1]; exact keyR h2.1 h2.2⟩
theorem MpR.find {w : World} {m : Nat} {G : List (Int × Nat)} {es : Array MapEntry} {clock : Nat} (h : MpR w m G es clock) {x : Int} (h0 : 0 ≤ x) (h1 : x < 18446744073709551616) (w' : World) :
    ((Instr.findKey 25 (.int .u64 x) es.toList).run Try.prog w' = .ok none w' ∧ ∀ g ∈ G, g.1 ≠ x) ∨ ∃ (j : Nat) (e : MapEntry) (b : Nat), (Instr.findKey 25 (.int .u64 x) es.toList).run Try.prog w' = .ok (some (j, e.val)) w' ∧ e.val = .pointer (some ⟨b, 0, none⟩) ∧ (x, b) ∈ G := by
  rcases refK.find w' (keyR h0 h1) es.toList h.keys with ⟨h1, h2⟩ | ⟨j, e, h1, h2, h3⟩
  · refine .inl ⟨h1, fun g hg e => ?_⟩
    obtain ⟨j, hj, rfl⟩ := List.mem_iff_getElem.1 hg
    have hj' : j < es.toList.length := by rw [h.len]; exact hj
    obtain ⟨k1, _, _⟩ := h.ent j _ _ (List.getElem?_eq_getElem hj') (List.getElem?_eq_getElem hj)
    exact h2 _ (List.getElem_mem hj') (by rw [k1, e])
  · have hj : j < es.toList.length := (List.getElem?_eq_some_iff.1 h2).1
    have hj' : j < G.length := by rw [← h.len]; exact hj
    obtain ⟨k1, _, k3⟩ := h.ent j _ _ h2 (List.getElem?_eq_getElem hj')
    refine .inr ⟨j, e, (G[j]).2, h1, k3, ?_⟩
    rw [k1] at h3
    injection h3 with _ h3
    rw [← h3]
    exact List.getElem_mem hj'
theorem MpR.lookup {w : World} {m : Nat} {G : List (Int × Nat)} {es : Array MapEntry} {clock : Nat} (h : MpR w m G es clock) {x : Int} (h0 : 0 ≤ x) (h1 : x < 18446744073709551616) :
    ((Instr.lookup 83 (.map (some m)) (.int .u64 x) true).run Try.prog w = .ok (.tuple #[.pointer none, .bool false]) w ∧ ∀ g ∈ G, g.1 ≠ x) ∨ ∃ b, (Instr.lookup 83 (.map (some m)) (.int .u64 x) true).run Try.prog w = .ok (.tuple #[.pointer (some ⟨b, 0, none⟩), .bool true]) w ∧ (x, b) ∈ G := by
  rcases h.find h0 h1 w with ⟨h1', h2⟩ | ⟨j, e, b, h1', h2, h3⟩
  · exact .inl ⟨by simp [Instr.lookup, run_underlying Try.undMg, MapKept.run_getObj_map h.blk, refK.check w _ (keyR h0 h1), h1', Result.andThen], h2⟩
  · exact .inr ⟨b, by simp [Instr.lookup, run_underlying Try.undMg, MapKept.run_getObj_map h.blk, refK.check w _ (keyR h0 h1), h1', h2, Result.andThen], h3⟩
theorem MpR.update {w : World} {m : Nat} {G : List (Int × Nat)} {es : Array MapEntry} {clock : Nat} (h : MpR w m G es clock) {x : Int} (h0 : 0 ≤ x) (h1 : x < 18446744073709551616) (hno : ∀ g ∈ G, g.1 ≠ x) (b : Nat) :
    ∃ es' clock', (Instr.mapUpdate 83 (.map (some m)) (.int .u64 x) (.pointer (some ⟨b, 0, none⟩))).run Try.prog w = .ok () (setBlock w m (.map es' clock')) ∧ MpR (setBlock w m (.map es' clock')) m (G ++ [(x, b)]) es' clock' := by
  rcases h.find h0 h1 w with ⟨h1', h2⟩ | ⟨j, e, b', h1', h2, h3⟩
  · refine ⟨es.push ⟨.int .u64 x, .pointer (some ⟨b, 0, none⟩), clock⟩, clock + 1, ?_, ⟨setG_same h.blk, ?_, ?_⟩⟩
    · simp [Instr.mapUpdate, run_underlying Try.undMg, MapKept.run_getObj_map h.blk, refK.check w false (keyR h0 h1), h1', MapKept.run_setObj_map _ h.blk, Result.andThen, setBlock]
    · have := h.len; simp at this ⊢; exact this
    · intro j y g hy hg
      rw [Array.toList_push] at hy
      by_cases hj : j < G.length
      · rw [List.getElem?_append_left (by rw [h.len]; exact hj)] at hy
        rw [List.getElem?_append_left hj] at hg
        exact h.ent j y g hy hg
      · rw [List.getElem?_append_right (by rw [h.len]; omega), h.len] at hy
        rw [List.getElem?_append_right (by omega)] at hg
        by_cases hj0 : j - G.length = 0
        · rw [hj0] at hy hg
          simp at hy hg
          subst hy hg
          exact ⟨rfl, ⟨h0, h1⟩, rfl⟩
        · rw [List.getElem?_eq_none (by simp; omega)] at hy; cases hy
  · exact absurd rfl (hno _ h3)
theorem mk_mapG (w : World) : (Instr.makeMap 83 none).run Try.prog w = .ok (.map (some w.heap.size)) (w.alloc (.map #[] 0)) := by
  simp [Instr.makeMap, Result.andThen]
theorem eqlG_none (w : World) : (binOp .eql 83 (.map none) (.map none)).run Try.prog w = .ok (.bool true) w := by kernel_rfl
theorem eqlG_some (b : Nat) (w : World) : (binOp .eql 83 (.map (some b)) (.map none)).run Try.prog w = .ok (.bool false) w := by kernel_rfl
end Go.Proofs.Ytjlhmgopmdcopaa

/- Pools: how they lie in memory; line.add and line.remove. -/
namespace Go.Proofs.Ytjlhmgopmdcopaa
open Go.RowKit

/-- a pool's cells -/
def pc (room : Int) (fv : Value) (mp : Option Nat) (ol nw : Option Addr) (n bz ft : Int) : Array Value := #[.int .i64 room, fv, .map mp, .pointer ol, .pointer nw, .int .i64 n, .int .i64 bz, .int .i64 ft]
def Pl (w : World) (p : Nat) (cs : Array Value) : Prop := w.heap[p]? = some (.cells cs 87)
theorem Pl.set {w : World} {p : Nat} {cs : Array Value} (h : Pl w p cs) (j : Nat) (v : Value) : Pl (w.setCell ⟨p, j, none⟩ v) p (cs.setIfInBounds j v) := by
  unfold Pl at h ⊢
  rw [setCell_eq_setRow _ _ _ _ _ _ _ h]; exact setRow_heap _ _ _ _ _ _ h
theorem Pl.lt {w : World} {p : Nat} {cs : Array Value} (h : Pl w p cs) : p < w.heap.size := (Array.getElem?_eq_some_iff.1 h).1
theorem Pl.keep {w w' : World} {p : Nat} {cs : Array Value} (h : Pl w p cs) (hb : w'.heap[p]? = w.heap[p]?) : Pl w' p cs := hb.trans h
theorem Pl.cell {w : World} {p : Nat} {cs : Array Value} (h : Pl w p cs) (j : Nat) : w.cell? ⟨p, j, none⟩ = cs[j]? := cell_of_row w p j cs _ _ h
theorem Pl.free {w : World} {p : Nat} {cs : Array Value} (h : Pl w p cs) (j : Nat) : w.frozen? ⟨p, j, none⟩ = false := frozen_of_row _ _ j _ _ h
section
variable {w : World} {p : Nat} {room : Int} {fv : Value} {mp : Option Nat} {ol nw : Option Addr} {n bz ft : Int}
theorem Pl.c0 (h : Pl w p (pc room fv mp ol nw n bz ft)) : w.cell? ⟨p, 0, none⟩ = some (.int .i64 room) := h.cell 0
theorem Pl.c1 (h : Pl w p (pc room fv mp ol nw n bz ft)) : w.cell? ⟨p, 1, none⟩ = some fv := h.cell 1
theorem Pl.c2 (h : Pl w p (pc room fv mp ol nw n bz ft)) : w.cell? ⟨p, 2, none⟩ = some (.map mp) := h.cell 2
theorem Pl.c3 (h : Pl w p (pc room fv mp ol nw n bz ft)) : w.cell? ⟨p, 3, none⟩ = some (.pointer ol) := h.cell 3
theorem Pl.c4 (h : Pl w p (pc room fv mp ol nw n bz ft)) : w.cell? ⟨p, 4, none⟩ = some (.pointer nw) := h.cell 4
theorem Pl.c5 (h : Pl w p (pc room fv mp ol nw n bz ft)) : w.cell? ⟨p, 5, none⟩ = some (.int .i64 n) := h.cell 5
theorem Pl.c6 (h : Pl w p (pc room fv mp ol nw n bz ft)) : w.cell? ⟨p, 6, none⟩ = some (.int .i64 bz) := h.cell 6
theorem Pl.c7 (h : Pl w p (pc room fv mp ol nw n bz ft)) : w.cell? ⟨p, 7, none⟩ = some (.int .i64 ft) := h.cell 7
theorem Pl.s2 (h : Pl w p (pc room fv mp ol nw n bz ft)) (b : Option Nat) : Pl (w.setCell ⟨p, 2, none⟩ (.map b)) p (pc room fv b ol nw n bz ft) := h.set 2 _
theorem Pl.s3 (h : Pl w p (pc room fv mp ol nw n bz ft)) (b : Option Addr) : Pl (w.setCell ⟨p, 3, none⟩ (.pointer b)) p (pc room fv mp b nw n bz ft) := h.set 3 _
theorem Pl.s4 (h : Pl w p (pc room fv mp ol nw n bz ft)) (b : Option Addr) : Pl (w.setCell ⟨p, 4, none⟩ (.pointer b)) p (pc room fv mp ol b n bz ft) := h.set 4 _
theorem Pl.s5 (h : Pl w p (pc room fv mp ol nw n bz ft)) (b : Int) : Pl (w.setCell ⟨p, 5, none⟩ (.int .i64 b)) p (pc room fv mp ol nw b bz ft) := h.set 5 _
theorem Pl.s6 (h : Pl w p (pc room fv mp ol nw n bz ft)) (b : Int) : Pl (w.setCell ⟨p, 6, none⟩ (.int .i64 b)) p (pc room fv mp ol nw n b ft) := h.set 6 _
theorem Pl.s7 (h : Pl w p (pc room fv mp ol nw n bz ft)) (b : Int) : Pl (w.setCell ⟨p, 7, none⟩ (.int .i64 b)) p (pc room fv mp ol nw n bz b) := h.set 7 _
end

def ptr (o : Option Nat) : Option Addr := o.map fun b => ⟨b, 0, none⟩
/-- a cell written in another block -/
theorem Gh.far {w : World} {g c o : Nat} {cs : Array Value} (h : Gh w g cs) (hne : g ≠ c) (v : Value) : Gh (w.setCell ⟨c, o, none⟩ v) g cs := h.keep (Below.heap_setCell _ _ _ _ hne)
theorem Pl.far {w : World} {g c o : Nat} {cs : Array Value} (h : Pl w g cs) (hne : g ≠ c) (v : Value) : Pl (w.setCell ⟨c, o, none⟩ v) g cs := h.keep (Below.heap_setCell _ _ _ _ hne)

theorem eqgh_n (w : World) : (binOp .eql 37 (.pointer none) (.pointer none)).run Try.prog w = .ok (.bool true) w := by kernel_rfl
theorem eqgg_n (x y : Operand) (w : World) : (eqGuard .eql 37 x y (.pointer none) (.pointer none)).run Try.prog w = .ok () w := by kernel_rfl
theorem eqgh_s (b : Nat) (w : World) : (binOp .eql 37 (.pointer (some ⟨b, 0, none⟩)) (.pointer none)).run Try.prog w = .ok (.bool false) w := by kernel_rfl
theorem eqgg_s (b : Nat) (x y : Operand) (w : World) : (eqGuard .eql 37 x y (.pointer (some ⟨b, 0, none⟩)) (.pointer none)).run Try.prog w = .ok () w := by kernel_rfl

section
variable {w : World} {p g : Nat} {room : Int} {fv : Value} {mp : Option Nat} {ol : Option Addr} {n bz ft : Int} {id : Int} {fn : Value} {bs : Bool} {la : Int} {cl : ByteArray} {vr : Int} {fp pl go : Option Addr}
set_option maxRecDepth 100000 in
set_option maxHeartbeats 2000000 in
/-- into an empty line -/
theorem add_nil (hpg : p ≠ g) (hp : Pl w p (pc room fv mp none none n bz ft)) (hg : Gh w g (gc id fn bs la cl vr fp pl go none)) (hn : 0 ≤ n ∧ n < 4611686018427387904) :
    Calls Try.prog 63 #[.pointer (some ⟨p, 3, none⟩), .pointer (some ⟨g, 0, none⟩)] w fun e w' => e = .returned (.tuple #[]) ∧ Pl w' p (pc room fv mp (some ⟨g, 0, none⟩) (some ⟨g, 0, none⟩) (n + 1) bz ft) ∧ Gh w' g (gc id fn bs la cl vr fp pl none none) ∧ Kx (fun j => j = p ∨ j = g) w w' := by
  have q1 := eqgh_n
  have q2 := eqgg_n
  obtain ⟨X1, hX1⟩ : ∃ X, w.setCell ⟨g, 8, none⟩ (.pointer none) = X := ⟨_, rfl⟩
  obtain ⟨X2, hX2⟩ : ∃ X, X1.setCell ⟨p, 3, none⟩ (.pointer (some ⟨g, 0, none⟩)) = X := ⟨_, rfl⟩
  obtain ⟨X3, hX3⟩ : ∃ X, X2.setCell ⟨p, 4, none⟩ (.pointer (some ⟨g, 0, none⟩)) = X := ⟨_, rfl⟩
  obtain ⟨X4, hX4⟩ : ∃ X, X3.setCell ⟨p, 5, none⟩ (.int .i64 (n + 1)) = X := ⟨_, rfl⟩
  have p1 : Pl X1 p (pc room fv mp none none n bz ft) := by rw [← hX1]; exact hp.far hpg _
  have g1 : Gh X1 g (gc id fn bs la cl vr fp pl none none) := by rw [← hX1]; exact hg.s8 _
  have p2 : Pl X2 p (pc room fv mp (some ⟨g, 0, none⟩) none n bz ft) := by rw [← hX2]; exact p1.s3 _
  have p3 : Pl X3 p (pc room fv mp (some ⟨g, 0, none⟩) (some ⟨g, 0, none⟩) n bz ft) := by rw [← hX3]; exact p2.s4 _
  have HR : Hid (Pl X4 p (pc room fv mp (some ⟨g, 0, none⟩) (some ⟨g, 0, none⟩) (n + 1) bz ft) ∧ Gh X4 g (gc id fn bs la cl vr fp pl none none) ∧ Kx (fun j => j = p ∨ j = g) w X4) := by
    refine ⟨by rw [← hX4]; exact p3.s5 _, ?_, ?_⟩
    · rw [← hX4, ← hX3, ← hX2]; exact ((g1.far (Ne.symm hpg) _).far (Ne.symm hpg) _).far (Ne.symm hpg) _
    · rw [← hX4, ← hX3, ← hX2, ← hX1]; exact ((((Kx.refl _ w).set (c := g) (.inl (.inr rfl)) _).set (c := p) (.inl (.inl rfl)) _).set (c := p) (.inl (.inl rfl)) _).set (c := p) (.inl (.inl rfl)) _
  have a1 := hp.c4
  have a2 := hg.c8
  have a3 := hg.free 8
  have a4 := g1.c8
  have a5 := p1.c3
  have a6 := p1.free 3
  have a7 := p2.c4
  have a8 := p2.free 4
  have a9 := p3.c5
  have a10 := p3.free 5
  have hw : IntKind.i64.wrap (n + 1) = n + 1 := by rw [IntKind.wrap_i64]; omega
  clear hp hg p1 g1 p2 p3 hn
  go_enter Try.func63, Try.ntmps63
  go_wp2_with fail
  go_end0
  exact ⟨rfl, HR.out⟩

set_option maxRecDepth 100000 in
set_option maxHeartbeats 2000000 in
/-- behind others -/
theorem add_some {h : Nat} {id' : Int} {fn' : Value} {bs' : Bool} {la' : Int} {cl' : ByteArray} {vr' : Int} {fp' pl' ol' nw' : Option Addr} (hpg : p ≠ g) (hph : p ≠ h) (hgh : g ≠ h) (hp : Pl w p (pc room fv mp ol (some ⟨h, 0, none⟩) n bz ft)) (hg : Gh w g (gc id fn bs la cl vr fp pl go none)) (hh : Gh w h (gc id' fn' bs' la' cl' vr' fp' pl' ol' nw')) (hn : 0 ≤ n ∧ n < 4611686018427387904) :
    Calls Try.prog 63 #[.pointer (some ⟨p, 3, none⟩), .pointer (some ⟨g, 0, none⟩)] w fun e w' => e = .returned (.tuple #[]) ∧ Pl w' p (pc room fv mp ol (some ⟨g, 0, none⟩) (n + 1) bz ft) ∧ Gh w' g (gc id fn bs la cl vr fp pl (some ⟨h, 0, none⟩) none) ∧ Gh w' h (gc id' fn' bs' la' cl' vr' fp' pl' ol' (some ⟨g, 0, none⟩)) ∧ Kx (fun j => j = p ∨ j = g ∨ j = h) w w' := by
  have q1 := eqgh_s h
  have q2 := eqgg_s h
  obtain ⟨X1, hX1⟩ : ∃ X, w.setCell ⟨g, 8, none⟩ (.pointer (some ⟨h, 0, none⟩)) = X := ⟨_, rfl⟩
  obtain ⟨X2, hX2⟩ : ∃ X, X1.setCell ⟨h, 9, none⟩ (.pointer (some ⟨g, 0, none⟩)) = X := ⟨_, rfl⟩
  obtain ⟨X3, hX3⟩ : ∃ X, X2.setCell ⟨p, 4, none⟩ (.pointer (some ⟨g, 0, none⟩)) = X := ⟨_, rfl⟩
  obtain ⟨X4, hX4⟩ : ∃ X, X3.setCell ⟨p, 5, none⟩ (.int .i64 (n + 1)) = X := ⟨_, rfl⟩
  have g1 : Gh X1 g (gc id fn bs la cl vr fp pl (some ⟨h, 0, none⟩) none) := by rw [← hX1]; exact hg.s8 _
  have h1 : Gh X1 h (gc id' fn' bs' la' cl' vr' fp' pl' ol' nw') := by rw [← hX1]; exact hh.far (Ne.symm hgh) _
  have h2 : Gh X2 h (gc id' fn' bs' la' cl' vr' fp' pl' ol' (some ⟨g, 0, none⟩)) := by rw [← hX2]; exact h1.s9 _
  have p2 : Pl X2 p (pc room fv mp ol (some ⟨h, 0, none⟩) n bz ft) := by rw [← hX2, ← hX1]; exact (hp.far hpg _).far hph _
  have p3 : Pl X3 p (pc room fv mp ol (some ⟨g, 0, none⟩) n bz ft) := by rw [← hX3]; exact p2.s4 _
  have HR : Hid (Pl X4 p (pc room fv mp ol (some ⟨g, 0, none⟩) (n + 1) bz ft) ∧ Gh X4 g (gc id fn bs la cl vr fp pl (some ⟨h, 0, none⟩) none) ∧ Gh X4 h (gc id' fn' bs' la' cl' vr' fp' pl' ol' (some ⟨g, 0, none⟩)) ∧ Kx (fun j => j = p ∨ j = g ∨ j = h) w X4) := by
    refine ⟨by rw [← hX4]; exact p3.s5 _, ?_, ?_, ?_⟩
    · rw [← hX4, ← hX3, ← hX2]; exact ((g1.far hgh _).far (Ne.symm hpg) _).far (Ne.symm hpg) _
    · rw [← hX4, ← hX3]; exact (h2.far (Ne.symm hph) _).far (Ne.symm hph) _
    · rw [← hX4, ← hX3, ← hX2, ← hX1]; exact ((((Kx.refl _ w).set (c := g) (.inl (.inr (.inl rfl))) _).set (c := h) (.inl (.inr (.inr rfl))) _).set (c := p) (.inl (.inl rfl)) _).set (c := p) (.inl (.inl rfl)) _
  have a1 := hp.c4
  have a2 := hg.c8
  have a3 := hg.free 8
  have a4 := g1.c8
  have a5 := h1.c9
  have a6 := h1.free 9
  have a7 := p2.c4
  have a8 := p2.free 4
  have a9 := p3.c5
  have a10 := p3.free 5
  have hw : IntKind.i64.wrap (n + 1) = n + 1 := by rw [IntKind.wrap_i64]; omega
  clear hp hg hh g1 h1 h2 p2 p3 hn
  go_enter Try.func63, Try.ntmps63
  go_wp2_with fail
  go_end0
  exact ⟨rfl, HR.out⟩
end
end Go.Proofs.Ytjlhmgopmdcopaa

/- line.remove. -/
namespace Go.Proofs.Ytjlhmgopmdcopaa
open Go.RowKit

theorem Pl.drew {w : World} {p : Nat} {cs : Array Value} (h : Pl w p cs) : Pl w.drew p cs := h
theorem Gh.drew {w : World} {p : Nat} {cs : Array Value} (h : Gh w p cs) : Gh w.drew p cs := h
section
variable {w : World} {p g : Nat} {room : Int} {fv : Value} {mp : Option Nat} {ol nw : Option Addr} {n bz ft : Int} {id : Int} {fn : Value} {bs : Bool} {la : Int} {cl : ByteArray} {vr : Int} {fp pl : Option Addr}
set_option maxRecDepth 100000 in
set_option maxHeartbeats 4000000 in
theorem rem_nn (hpg : p ≠ g) (hp : Pl w p (pc room fv mp ol nw n bz ft)) (hg : Gh w g (gc id fn bs la cl vr fp pl none none)) (hn : 1 ≤ n ∧ n < 4611686018427387904) :
    Calls Try.prog 57 #[.pointer (some ⟨p, 3, none⟩), .pointer (some ⟨g, 0, none⟩)] w fun e w' => e = .returned (.tuple #[]) ∧ Pl w' p (pc room fv mp none none (n - 1) bz ft) ∧ Gh w' g (gc id fn bs la cl vr fp pl none none) ∧ Kx (fun j => j = p ∨ j = g) w w' := by
  have eqgh_n' := eqgh_n
  have eqgg_n' := eqgg_n
  obtain ⟨X1, hX1⟩ : ∃ X, (w.setCell ⟨p, 3, none⟩ (.pointer none)) = X := ⟨_, rfl⟩
  have p1 : Pl X1 p (pc room fv mp none nw n bz ft) := by rw [← hX1]; exact (hp.s3 _)
  have g1 : Gh X1 g (gc id fn bs la cl vr fp pl none none) := by rw [← hX1]; exact (hg.far (Ne.symm hpg) _)
  obtain ⟨X2, hX2⟩ : ∃ X, (X1.setCell ⟨p, 4, none⟩ (.pointer none)) = X := ⟨_, rfl⟩
  have p2 : Pl X2 p (pc room fv mp none none n bz ft) := by rw [← hX2]; exact (p1.s4 _)
  have g2 : Gh X2 g (gc id fn bs la cl vr fp pl none none) := by rw [← hX2]; exact (g1.far (Ne.symm hpg) _)
  obtain ⟨X3, hX3⟩ : ∃ X, (X2.setCell ⟨g, 8, none⟩ (.pointer none)) = X := ⟨_, rfl⟩
  have p3 : Pl X3 p (pc room fv mp none none n bz ft) := by rw [← hX3]; exact (p2.far hpg _)
  have g3 : Gh X3 g (gc id fn bs la cl vr fp pl none none) := by rw [← hX3]; exact (g2.s8 _)
  obtain ⟨X4, hX4⟩ : ∃ X, (X3.setCell ⟨g, 9, none⟩ (.pointer none)) = X := ⟨_, rfl⟩
  have p4 : Pl X4 p (pc room fv mp none none n bz ft) := by rw [← hX4]; exact (p3.far hpg _)
  have g4 : Gh X4 g (gc id fn bs la cl vr fp pl none none) := by rw [← hX4]; exact (g3.s9 _)
  obtain ⟨X5, hX5⟩ : ∃ X, (X4.setCell ⟨p, 5, none⟩ (.int .i64 (n - 1))) = X := ⟨_, rfl⟩
  have p5 : Pl X5 p (pc room fv mp none none (n - 1) bz ft) := by rw [← hX5]; exact (p4.s5 _)
  have g5 : Gh X5 g (gc id fn bs la cl vr fp pl none none) := by rw [← hX5]; exact (g4.far (Ne.symm hpg) _)
  have r0a := hp.c3
  have r0z := hp.free 3
  have r0g8 := hg.c8
  have r0g9 := hg.c9
  have r1a := p1.c4
  have r1z := p1.free 4
  have r1g8 := g1.c8
  have r1g9 := g1.c9
  have r2a := g2.c8
  have r2z := g2.free 8
  have r2g8 := g2.c8
  have r2g9 := g2.c9
  have r3a := g3.c9
  have r3z := g3.free 9
  have r3g8 := g3.c8
  have r3g9 := g3.c9
  have r4a := p4.c5
  have r4z := p4.free 5
  have r4g8 := g4.c8
  have r4g9 := g4.c9
  have HR : Hid (Pl X5 p (pc room fv mp none none (n - 1) bz ft) ∧ Gh X5 g (gc id fn bs la cl vr fp pl none none) ∧ Kx (fun j => j = p ∨ j = g) w X5) := ⟨p5, g5, by rw [← hX5, ← hX4, ← hX3, ← hX2, ← hX1]; exact ((((((Kx.refl _ w).set (c := p) (.inl (.inl rfl)) _).set (c := p) (.inl (.inl rfl)) _).set (c := g) (.inl (.inr rfl)) _).set (c := g) (.inl (.inr rfl)) _).set (c := p) (.inl (.inl rfl)) _)⟩
  have hw : IntKind.i64.wrap (n - 1) = n - 1 := by rw [IntKind.wrap_i64]; omega
  clear hp hg p1 g1 p2 g2 p3 g3 p4 g4 p5 g5 hn
  go_enter Try.func57, Try.ntmps57
  go_wp2_with fail
  go_end0
  exact ⟨rfl, HR.out⟩

set_option maxRecDepth 100000 in
set_option maxHeartbeats 4000000 in
theorem rem_ns {y : Nat} {id2 : Int} {fn2 : Value} {bs2 : Bool} {la2 : Int} {cl2 : ByteArray} {vr2 : Int} {fp2 pl2 ol2 nw2 : Option Addr} (hpg : p ≠ g) (hp : Pl w p (pc room fv mp ol nw n bz ft)) (hg : Gh w g (gc id fn bs la cl vr fp pl none (some ⟨y, 0, none⟩))) (hpy : p ≠ y) (hgy : g ≠ y) (hy : Gh w y (gc id2 fn2 bs2 la2 cl2 vr2 fp2 pl2 ol2 nw2)) (hn : 1 ≤ n ∧ n < 4611686018427387904) :
    Calls Try.prog 57 #[.pointer (some ⟨p, 3, none⟩), .pointer (some ⟨g, 0, none⟩)] w fun e w' => e = .returned (.tuple #[]) ∧ Pl w' p (pc room fv mp (some ⟨y, 0, none⟩) nw (n - 1) bz ft) ∧ Gh w' g (gc id fn bs la cl vr fp pl none none) ∧ Gh w' y (gc id2 fn2 bs2 la2 cl2 vr2 fp2 pl2 none nw2) ∧ Kx (fun j => j = p ∨ j = g ∨ j = y) w w' := by
  have eqgh_n' := eqgh_n
  have eqgg_n' := eqgg_n
  have q3 := eqgh_s y
  have q4 := eqgg_s y
  obtain ⟨X1, hX1⟩ : ∃ X, (w.setCell ⟨p, 3, none⟩ (.pointer (some ⟨y, 0, none⟩))) = X := ⟨_, rfl⟩
  have p1 : Pl X1 p (pc room fv mp (some ⟨y, 0, none⟩) nw n bz ft) := by rw [← hX1]; exact (hp.s3 _)
  have g1 : Gh X1 g (gc id fn bs la cl vr fp pl none (some ⟨y, 0, none⟩)) := by rw [← hX1]; exact (hg.far (Ne.symm hpg) _)
  have y1 : Gh X1 y (gc id2 fn2 bs2 la2 cl2 vr2 fp2 pl2 ol2 nw2) := by rw [← hX1]; exact (hy.far (Ne.symm hpy) _)
  obtain ⟨X2, hX2⟩ : ∃ X, (X1.setCell ⟨y, 8, none⟩ (.pointer none)).drew = X := ⟨_, rfl⟩
  have p2 : Pl X2 p (pc room fv mp (some ⟨y, 0, none⟩) nw n bz ft) := by rw [← hX2]; exact (p1.far hpy _).drew
  have g2 : Gh X2 g (gc id fn bs la cl vr fp pl none (some ⟨y, 0, none⟩)) := by rw [← hX2]; exact (g1.far hgy _).drew
  have y2 : Gh X2 y (gc id2 fn2 bs2 la2 cl2 vr2 fp2 pl2 none nw2) := by rw [← hX2]; exact (y1.s8 _).drew
  obtain ⟨X3, hX3⟩ : ∃ X, (X2.setCell ⟨g, 8, none⟩ (.pointer none)) = X := ⟨_, rfl⟩
  have p3 : Pl X3 p (pc room fv mp (some ⟨y, 0, none⟩) nw n bz ft) := by rw [← hX3]; exact (p2.far hpg _)
  have g3 : Gh X3 g (gc id fn bs la cl vr fp pl none (some ⟨y, 0, none⟩)) := by rw [← hX3]; exact (g2.s8 _)
  have y3 : Gh X3 y (gc id2 fn2 bs2 la2 cl2 vr2 fp2 pl2 none nw2) := by rw [← hX3]; exact (y2.far (Ne.symm hgy) _)
  obtain ⟨X4, hX4⟩ : ∃ X, (X3.setCell ⟨g, 9, none⟩ (.pointer none)) = X := ⟨_, rfl⟩
  have p4 : Pl X4 p (pc room fv mp (some ⟨y, 0, none⟩) nw n bz ft) := by rw [← hX4]; exact (p3.far hpg _)
  have g4 : Gh X4 g (gc id fn bs la cl vr fp pl none none) := by rw [← hX4]; exact (g3.s9 _)
  have y4 : Gh X4 y (gc id2 fn2 bs2 la2 cl2 vr2 fp2 pl2 none nw2) := by rw [← hX4]; exact (y3.far (Ne.symm hgy) _)
  obtain ⟨X5, hX5⟩ : ∃ X, (X4.setCell ⟨p, 5, none⟩ (.int .i64 (n - 1))) = X := ⟨_, rfl⟩
  have p5 : Pl X5 p (pc room fv mp (some ⟨y, 0, none⟩) nw (n - 1) bz ft) := by rw [← hX5]; exact (p4.s5 _)
  have g5 : Gh X5 g (gc id fn bs la cl vr fp pl none none) := by rw [← hX5]; exact (g4.far (Ne.symm hpg) _)
  have y5 : Gh X5 y (gc id2 fn2 bs2 la2 cl2 vr2 fp2 pl2 none nw2) := by rw [← hX5]; exact (y4.far (Ne.symm hpy) _)
  have r0a := hp.c3
  have r0z := hp.free 3
  have r0g8 := hg.c8
  have r0g9 := hg.c9
  have r1a := y1.c8
  have r1z := y1.free 8
  have r1g8 := g1.c8
  have r1g9 := g1.c9
  have r2a := g2.c8
  have r2z := g2.free 8
  have r2g8 := g2.c8
  have r2g9 := g2.c9
  have r3a := g3.c9
  have r3z := g3.free 9
  have r3g8 := g3.c8
  have r3g9 := g3.c9
  have r4a := p4.c5
  have r4z := p4.free 5
  have r4g8 := g4.c8
  have r4g9 := g4.c9
  have HR : Hid (Pl X5 p (pc room fv mp (some ⟨y, 0, none⟩) nw (n - 1) bz ft) ∧ Gh X5 g (gc id fn bs la cl vr fp pl none none) ∧ Gh X5 y (gc id2 fn2 bs2 la2 cl2 vr2 fp2 pl2 none nw2) ∧ Kx (fun j => j = p ∨ j = g ∨ j = y) w X5) := ⟨p5, g5, y5, by rw [← hX5, ← hX4, ← hX3, ← hX2, ← hX1]; exact ((((((Kx.refl _ w).set (c := p) (.inl (.inl rfl)) _).set (c := y) (.inl (.inr (.inr rfl))) _).drew.set (c := g) (.inl (.inr (.inl rfl))) _).set (c := g) (.inl (.inr (.inl rfl))) _).set (c := p) (.inl (.inl rfl)) _)⟩
  have hw : IntKind.i64.wrap (n - 1) = n - 1 := by rw [IntKind.wrap_i64]; omega
  clear hp hg hy p1 g1 y1 p2 g2 y2 p3 g3 y3 p4 g4 y4 p5 g5 y5 hn
  go_enter Try.func57, Try.ntmps57
  go_wp2_with fail
  go_region
  go_wp2_with fail
  go_end0
  exact ⟨rfl, HR.out⟩

set_option maxRecDepth 100000 in
set_option maxHeartbeats 4000000 in
theorem rem_sn {h : Nat} {id' : Int} {fn' : Value} {bs' : Bool} {la' : Int} {cl' : ByteArray} {vr' : Int} {fp' pl' ol' nw' : Option Addr} (hpg : p ≠ g) (hp : Pl w p (pc room fv mp ol nw n bz ft)) (hg : Gh w g (gc id fn bs la cl vr fp pl (some ⟨h, 0, none⟩) none)) (hph : p ≠ h) (hgh : g ≠ h) (hh : Gh w h (gc id' fn' bs' la' cl' vr' fp' pl' ol' nw')) (hn : 1 ≤ n ∧ n < 4611686018427387904) :
    Calls Try.prog 57 #[.pointer (some ⟨p, 3, none⟩), .pointer (some ⟨g, 0, none⟩)] w fun e w' => e = .returned (.tuple #[]) ∧ Pl w' p (pc room fv mp ol (some ⟨h, 0, none⟩) (n - 1) bz ft) ∧ Gh w' g (gc id fn bs la cl vr fp pl none none) ∧ Gh w' h (gc id' fn' bs' la' cl' vr' fp' pl' ol' none) ∧ Kx (fun j => j = p ∨ j = g ∨ j = h) w w' := by
  have eqgh_n' := eqgh_n
  have eqgg_n' := eqgg_n
  have q1 := eqgh_s h
  have q2 := eqgg_s h
  obtain ⟨X1, hX1⟩ : ∃ X, (w.setCell ⟨h, 9, none⟩ (.pointer none)).drew = X := ⟨_, rfl⟩
  have p1 : Pl X1 p (pc room fv mp ol nw n bz ft) := by rw [← hX1]; exact (hp.far hph _).drew
  have g1 : Gh X1 g (gc id fn bs la cl vr fp pl (some ⟨h, 0, none⟩) none) := by rw [← hX1]; exact (hg.far hgh _).drew
  have h1 : Gh X1 h (gc id' fn' bs' la' cl' vr' fp' pl' ol' none) := by rw [← hX1]; exact (hh.s9 _).drew
  obtain ⟨X2, hX2⟩ : ∃ X, (X1.setCell ⟨p, 4, none⟩ (.pointer (some ⟨h, 0, none⟩))) = X := ⟨_, rfl⟩
  have p2 : Pl X2 p (pc room fv mp ol (some ⟨h, 0, none⟩) n bz ft) := by rw [← hX2]; exact (p1.s4 _)
  have g2 : Gh X2 g (gc id fn bs la cl vr fp pl (some ⟨h, 0, none⟩) none) := by rw [← hX2]; exact (g1.far (Ne.symm hpg) _)
  have h2 : Gh X2 h (gc id' fn' bs' la' cl' vr' fp' pl' ol' none) := by rw [← hX2]; exact (h1.far (Ne.symm hph) _)
  obtain ⟨X3, hX3⟩ : ∃ X, (X2.setCell ⟨g, 8, none⟩ (.pointer none)) = X := ⟨_, rfl⟩
  have p3 : Pl X3 p (pc room fv mp ol (some ⟨h, 0, none⟩) n bz ft) := by rw [← hX3]; exact (p2.far hpg _)
  have g3 : Gh X3 g (gc id fn bs la cl vr fp pl none none) := by rw [← hX3]; exact (g2.s8 _)
  have h3 : Gh X3 h (gc id' fn' bs' la' cl' vr' fp' pl' ol' none) := by rw [← hX3]; exact (h2.far (Ne.symm hgh) _)
  obtain ⟨X4, hX4⟩ : ∃ X, (X3.setCell ⟨g, 9, none⟩ (.pointer none)) = X := ⟨_, rfl⟩
  have p4 : Pl X4 p (pc room fv mp ol (some ⟨h, 0, none⟩) n bz ft) := by rw [← hX4]; exact (p3.far hpg _)
  have g4 : Gh X4 g (gc id fn bs la cl vr fp pl none none) := by rw [← hX4]; exact (g3.s9 _)
  have h4 : Gh X4 h (gc id' fn' bs' la' cl' vr' fp' pl' ol' none) := by rw [← hX4]; exact (h3.far (Ne.symm hgh) _)
  obtain ⟨X5, hX5⟩ : ∃ X, (X4.setCell ⟨p, 5, none⟩ (.int .i64 (n - 1))) = X := ⟨_, rfl⟩
  have p5 : Pl X5 p (pc room fv mp ol (some ⟨h, 0, none⟩) (n - 1) bz ft) := by rw [← hX5]; exact (p4.s5 _)
  have g5 : Gh X5 g (gc id fn bs la cl vr fp pl none none) := by rw [← hX5]; exact (g4.far (Ne.symm hpg) _)
  have h5 : Gh X5 h (gc id' fn' bs' la' cl' vr' fp' pl' ol' none) := by rw [← hX5]; exact (h4.far (Ne.symm hph) _)
  have r0a := hh.c9
  have r0z := hh.free 9
  have r0g8 := hg.c8
  have r0g9 := hg.c9
  have r1a := p1.c4
  have r1z := p1.free 4
  have r1g8 := g1.c8
  have r1g9 := g1.c9
  have r2a := g2.c8
  have r2z := g2.free 8
  have r2g8 := g2.c8
  have r2g9 := g2.c9
  have r3a := g3.c9
  have r3z := g3.free 9
  have r3g8 := g3.c8
  have r3g9 := g3.c9
  have r4a := p4.c5
  have r4z := p4.free 5
  have r4g8 := g4.c8
  have r4g9 := g4.c9
  have HR : Hid (Pl X5 p (pc room fv mp ol (some ⟨h, 0, none⟩) (n - 1) bz ft) ∧ Gh X5 g (gc id fn bs la cl vr fp pl none none) ∧ Gh X5 h (gc id' fn' bs' la' cl' vr' fp' pl' ol' none) ∧ Kx (fun j => j = p ∨ j = g ∨ j = h) w X5) := ⟨p5, g5, h5, by rw [← hX5, ← hX4, ← hX3, ← hX2, ← hX1]; exact ((((((Kx.refl _ w).set (c := h) (.inl (.inr (.inr rfl))) _).drew.set (c := p) (.inl (.inl rfl)) _).set (c := g) (.inl (.inr (.inl rfl))) _).set (c := g) (.inl (.inr (.inl rfl))) _).set (c := p) (.inl (.inl rfl)) _)⟩
  have hw : IntKind.i64.wrap (n - 1) = n - 1 := by rw [IntKind.wrap_i64]; omega
  clear hp hg hh p1 g1 h1 p2 g2 h2 p3 g3 h3 p4 g4 h4 p5 g5 h5 hn
  go_enter Try.func57, Try.ntmps57
  go_wp2_with fail
  go_region
  go_wp2_with fail
  go_end0
  exact ⟨rfl, HR.out⟩

set_option maxRecDepth 100000 in
set_option maxHeartbeats 4000000 in
theorem rem_ss {h : Nat} {id' : Int} {fn' : Value} {bs' : Bool} {la' : Int} {cl' : ByteArray} {vr' : Int} {fp' pl' ol' nw' : Option Addr} {y : Nat} {id2 : Int} {fn2 : Value} {bs2 : Bool} {la2 : Int} {cl2 : ByteArray} {vr2 : Int} {fp2 pl2 ol2 nw2 : Option Addr} (hpg : p ≠ g) (hp : Pl w p (pc room fv mp ol nw n bz ft)) (hg : Gh w g (gc id fn bs la cl vr fp pl (some ⟨h, 0, none⟩) (some ⟨y, 0, none⟩))) (hph : p ≠ h) (hgh : g ≠ h) (hh : Gh w h (gc id' fn' bs' la' cl' vr' fp' pl' ol' nw')) (hpy : p ≠ y) (hgy : g ≠ y) (hy : Gh w y (gc id2 fn2 bs2 la2 cl2 vr2 fp2 pl2 ol2 nw2)) (hhy : h ≠ y) (hn : 1 ≤ n ∧ n < 4611686018427387904) :
    Calls Try.prog 57 #[.pointer (some ⟨p, 3, none⟩), .pointer (some ⟨g, 0, none⟩)] w fun e w' => e = .returned (.tuple #[]) ∧ Pl w' p (pc room fv mp ol nw (n - 1) bz ft) ∧ Gh w' g (gc id fn bs la cl vr fp pl none none) ∧ Gh w' h (gc id' fn' bs' la' cl' vr' fp' pl' ol' (some ⟨y, 0, none⟩)) ∧ Gh w' y (gc id2 fn2 bs2 la2 cl2 vr2 fp2 pl2 (some ⟨h, 0, none⟩) nw2) ∧ Kx (fun j => j = p ∨ j = g ∨ j = h ∨ j = y) w w' := by
  have eqgh_n' := eqgh_n
  have eqgg_n' := eqgg_n
  have q1 := eqgh_s h
  have q2 := eqgg_s h
  have q3 := eqgh_s y
  have q4 := eqgg_s y
  obtain ⟨X1, hX1⟩ : ∃ X, (w.setCell ⟨h, 9, none⟩ (.pointer (some ⟨y, 0, none⟩))).drew = X := ⟨_, rfl⟩
  have p1 : Pl X1 p (pc room fv mp ol nw n bz ft) := by rw [← hX1]; exact (hp.far hph _).drew
  have g1 : Gh X1 g (gc id fn bs la cl vr fp pl (some ⟨h, 0, none⟩) (some ⟨y, 0, none⟩)) := by rw [← hX1]; exact (hg.far hgh _).drew
  have h1 : Gh X1 h (gc id' fn' bs' la' cl' vr' fp' pl' ol' (some ⟨y, 0, none⟩)) := by rw [← hX1]; exact (hh.s9 _).drew
  have y1 : Gh X1 y (gc id2 fn2 bs2 la2 cl2 vr2 fp2 pl2 ol2 nw2) := by rw [← hX1]; exact (hy.far (Ne.symm hhy) _).drew
  obtain ⟨X2, hX2⟩ : ∃ X, (X1.setCell ⟨y, 8, none⟩ (.pointer (some ⟨h, 0, none⟩))).drew = X := ⟨_, rfl⟩
  have p2 : Pl X2 p (pc room fv mp ol nw n bz ft) := by rw [← hX2]; exact (p1.far hpy _).drew
  have g2 : Gh X2 g (gc id fn bs la cl vr fp pl (some ⟨h, 0, none⟩) (some ⟨y, 0, none⟩)) := by rw [← hX2]; exact (g1.far hgy _).drew
  have h2 : Gh X2 h (gc id' fn' bs' la' cl' vr' fp' pl' ol' (some ⟨y, 0, none⟩)) := by rw [← hX2]; exact (h1.far hhy _).drew
  have y2 : Gh X2 y (gc id2 fn2 bs2 la2 cl2 vr2 fp2 pl2 (some ⟨h, 0, none⟩) nw2) := by rw [← hX2]; exact (y1.s8 _).drew
  obtain ⟨X3, hX3⟩ : ∃ X, (X2.setCell ⟨g, 8, none⟩ (.pointer none)) = X := ⟨_, rfl⟩
  have p3 : Pl X3 p (pc room fv mp ol nw n bz ft) := by rw [← hX3]; exact (p2.far hpg _)
  have g3 : Gh X3 g (gc id fn bs la cl vr fp pl none (some ⟨y, 0, none⟩)) := by rw [← hX3]; exact (g2.s8 _)
  have h3 : Gh X3 h (gc id' fn' bs' la' cl' vr' fp' pl' ol' (some ⟨y, 0, none⟩)) := by rw [← hX3]; exact (h2.far (Ne.symm hgh) _)
  have y3 : Gh X3 y (gc id2 fn2 bs2 la2 cl2 vr2 fp2 pl2 (some ⟨h, 0, none⟩) nw2) := by rw [← hX3]; exact (y2.far (Ne.symm hgy) _)
  obtain ⟨X4, hX4⟩ : ∃ X, (X3.setCell ⟨g, 9, none⟩ (.pointer none)) = X := ⟨_, rfl⟩
  have p4 : Pl X4 p (pc room fv mp ol nw n bz ft) := by rw [← hX4]; exact (p3.far hpg _)
  have g4 : Gh X4 g (gc id fn bs la cl vr fp pl none none) := by rw [← hX4]; exact (g3.s9 _)
  have h4 : Gh X4 h (gc id' fn' bs' la' cl' vr' fp' pl' ol' (some ⟨y, 0, none⟩)) := by rw [← hX4]; exact (h3.far (Ne.symm hgh) _)
  have y4 : Gh X4 y (gc id2 fn2 bs2 la2 cl2 vr2 fp2 pl2 (some ⟨h, 0, none⟩) nw2) := by rw [← hX4]; exact (y3.far (Ne.symm hgy) _)
  obtain ⟨X5, hX5⟩ : ∃ X, (X4.setCell ⟨p, 5, none⟩ (.int .i64 (n - 1))) = X := ⟨_, rfl⟩
  have p5 : Pl X5 p (pc room fv mp ol nw (n - 1) bz ft) := by rw [← hX5]; exact (p4.s5 _)
  have g5 : Gh X5 g (gc id fn bs la cl vr fp pl none none) := by rw [← hX5]; exact (g4.far (Ne.symm hpg) _)
  have h5 : Gh X5 h (gc id' fn' bs' la' cl' vr' fp' pl' ol' (some ⟨y, 0, none⟩)) := by rw [← hX5]; exact (h4.far (Ne.symm hph) _)
  have y5 : Gh X5 y (gc id2 fn2 bs2 la2 cl2 vr2 fp2 pl2 (some ⟨h, 0, none⟩) nw2) := by rw [← hX5]; exact (y4.far (Ne.symm hpy) _)
  have r0a := hh.c9
  have r0z := hh.free 9
  have r0g8 := hg.c8
  have r0g9 := hg.c9
  have r1a := y1.c8
  have r1z := y1.free 8
  have r1g8 := g1.c8
  have r1g9 := g1.c9
  have r2a := g2.c8
  have r2z := g2.free 8
  have r2g8 := g2.c8
  have r2g9 := g2.c9
  have r3a := g3.c9
  have r3z := g3.free 9
  have r3g8 := g3.c8
  have r3g9 := g3.c9
  have r4a := p4.c5
  have r4z := p4.free 5
  have r4g8 := g4.c8
  have r4g9 := g4.c9
  have HR : Hid (Pl X5 p (pc room fv mp ol nw (n - 1) bz ft) ∧ Gh X5 g (gc id fn bs la cl vr fp pl none none) ∧ Gh X5 h (gc id' fn' bs' la' cl' vr' fp' pl' ol' (some ⟨y, 0, none⟩)) ∧ Gh X5 y (gc id2 fn2 bs2 la2 cl2 vr2 fp2 pl2 (some ⟨h, 0, none⟩) nw2) ∧ Kx (fun j => j = p ∨ j = g ∨ j = h ∨ j = y) w X5) := ⟨p5, g5, h5, y5, by rw [← hX5, ← hX4, ← hX3, ← hX2, ← hX1]; exact ((((((Kx.refl _ w).set (c := h) (.inl (.inr (.inr (.inl rfl)))) _).drew.set (c := y) (.inl (.inr (.inr (.inr rfl)))) _).drew.set (c := g) (.inl (.inr (.inl rfl))) _).set (c := g) (.inl (.inr (.inl rfl))) _).set (c := p) (.inl (.inl rfl)) _)⟩
  have hw : IntKind.i64.wrap (n - 1) = n - 1 := by rw [IntKind.wrap_i64]; omega
  clear hp hg hh hy p1 g1 h1 y1 p2 g2 h2 y2 p3 g3 h3 y3 p4 g4 h4 y4 p5 g5 h5 y5 hn
  go_enter Try.func57, Try.ntmps57
  go_wp2_with fail
  go_region
  go_wp2_with fail
  go_region
  go_wp2_with fail
  go_end0
  exact ⟨rfl, HR.out⟩

end
end Go.Proofs.Ytjlhmgopmdcopaa

/- What a pool keeps: its ghosts, those that are loaded in the order of their uses. -/
namespace Go.Proofs.Ytjlhmgopmdcopaa
open Go.RowKit

def cfn (p : Nat) : Value := .func (.func 39) #[.pointer (some ⟨p, 0, none⟩)] #[]
def lastP (κ : Int → Nat) (A : List Int) : Option Addr := ptr (A.getLast?.map κ)
def headP (κ : Int → Nat) (A : List Int) : Option Addr := ptr (A.head?.map κ)
/-- the row of a ghost that is loaded; of one that is not -/
def hrow (p : Nat) (i : Int) (fb : Nat) (ol nw : Option Addr) : Array Value := gc i (cfn p) false 0 ⟨#[97]⟩ 1 (some ⟨fb, 0, none⟩) (some ⟨p, 0, none⟩) ol nw
def frow (p : Nat) (i : Int) : Array Value := gc i (cfn p) false 0 ⟨#[]⟩ 0 none (some ⟨p, 0, none⟩) none none

/-- a pool at p with the ghosts of Kn, of which R are loaded; of those of Z nothing is said -/
structure PI (w : World) (p : Nat) (fv : Value) (room : Int) (κ : Int → Nat) (Kn R Z : List Int) (mp : Option Nat) (bz ft : Int) : Prop where
  pool : Pl w p (pc room fv mp (headP κ R) (lastP κ R) R.length bz ft)
  map : (mp = none ∧ Kn = []) ∨ ∃ m es ck, mp = some m ∧ MpR w m (Kn.map fun i => (i, κ i)) es ck
  nd : R.Nodup
  sub : ∀ i ∈ R, i ∈ Kn
  inj : ∀ i ∈ Kn, ∀ j ∈ Kn, κ i = κ j → i = j
  np : ∀ i ∈ Kn, κ i ≠ p
  nm : ∀ i ∈ Kn, mp ≠ some (κ i)
  pm : mp ≠ some p
  rng : ∀ i ∈ Kn, 0 < i ∧ i < 18446744073709551616
  lt : ∀ i ∈ Kn, κ i < w.heap.size
  zr : ∀ i ∈ Z, i ∉ R
  free : ∀ i ∈ Kn, i ∉ R → i ∉ Z → Gh w (κ i) (frow p i)
  held : ∀ A i B, R = A ++ i :: B → ∃ fb, Gh w (κ i) (hrow p i fb (lastP κ A) (headP κ B))

/-- its own blocks -/
def OwnP (p : Nat) (mp : Option Nat) (κ : Int → Nat) (Kn : List Int) (j : Nat) : Prop := j = p ∨ mp = some j ∨ ∃ i ∈ Kn, j = κ i

/-- its own blocks but those of Z -/
def OwnZ (p : Nat) (mp : Option Nat) (κ : Int → Nat) (Kn Z : List Int) (j : Nat) : Prop := OwnP p mp κ Kn j ∧ ∀ z ∈ Z, z ∈ Kn → j ≠ κ z

section
variable {w : World} {p : Nat} {fv : Value} {room : Int} {κ : Int → Nat} {Kn R Z : List Int} {mp : Option Nat} {bz ft : Int}
theorem PI.mapLt (h : PI w p fv room κ Kn R Z mp bz ft) {m : Nat} (e : mp = some m) : m < w.heap.size := by
  rcases h.map with ⟨h1, _⟩ | ⟨m', es, ck, h1, h2⟩
  · rw [h1] at e; cases e
  · rw [h1] at e; injection e with e; subst e; exact (Array.getElem?_eq_some_iff.1 h2.blk).1
theorem PI.ownLt (h : PI w p fv room κ Kn R Z mp bz ft) {j : Nat} (hj : OwnP p mp κ Kn j) : j < w.heap.size := by
  rcases hj with rfl | e | ⟨i, hi, rfl⟩
  · exact h.pool.lt
  · exact h.mapLt e
  · exact h.lt i hi
/-- its own blocks but those of Z are as they were -/
theorem PI.keep {w' : World} (h : PI w p fv room κ Kn R Z mp bz ft) (hs : w.heap.size ≤ w'.heap.size) (hk : ∀ j, OwnP p mp κ Kn j → (∀ i ∈ Z, i ∈ Kn → j ≠ κ i) → w'.heap[j]? = w.heap[j]?) : PI w' p fv room κ Kn R Z mp bz ft := by
  have hki : ∀ i ∈ Kn, i ∉ Z → w'.heap[κ i]? = w.heap[κ i]? := fun i hi hz => hk _ (.inr (.inr ⟨i, hi, rfl⟩)) (fun z hz2 hz3 e => hz (by rw [h.inj i hi z hz3 e]; exact hz2))
  refine ⟨h.pool.keep (hk p (.inl rfl) (fun i _ hi e => h.np i hi e.symm)), ?_, h.nd, h.sub, h.inj, h.np, h.nm, h.pm, h.rng, fun i hi => Nat.lt_of_lt_of_le (h.lt i hi) hs, h.zr, fun i hi h1 h2 => (h.free i hi h1 h2).keep (hki i hi h2), fun A i B e => ?_⟩
  · rcases h.map with h1 | ⟨m, es, ck, h1, h2⟩
    · exact .inl h1
    · refine .inr ⟨m, es, ck, h1, (hk m (.inr (.inl h1)) (fun i _ hi e => h.nm i hi (by rw [h1, e]))).trans h2.blk, h2.len, h2.ent⟩
  · obtain ⟨fb, hr⟩ := h.held A i B e
    have hiR : i ∈ R := by rw [e]; simp
    exact ⟨fb, hr.keep (hki i (h.sub i hiR) (fun hz => h.zr i hz hiR))⟩
theorem PI.below {w' : World} (h : PI w p fv room κ Kn R Z mp bz ft) (hb : Below w.heap.size w w') : PI w' p fv room κ Kn R Z mp bz ft := h.keep hb.size fun _ hj _ => hb.block _ (h.ownLt hj)

theorem getLast_app (A : List Int) {B : List Int} (h : B ≠ []) : (A ++ B).getLast? = B.getLast? := by
  rcases List.eq_nil_or_concat B with rfl | ⟨B0, b, rfl⟩
  · exact absurd rfl h
  · rw [List.concat_eq_append, ← List.append_assoc]; simp
theorem lastP_nil (κ : Int → Nat) : lastP κ [] = none := rfl
theorem headP_nil (κ : Int → Nat) : headP κ [] = none := rfl
theorem lastP_end (κ : Int → Nat) (A : List Int) (a : Int) : lastP κ (A ++ [a]) = some ⟨κ a, 0, none⟩ := by simp [lastP, ptr]
theorem headP_cons (κ : Int → Nat) (a : Int) (A : List Int) : headP κ (a :: A) = some ⟨κ a, 0, none⟩ := rfl
theorem headP_app (κ : Int → Nat) {A : List Int} (B : List Int) (h : A ≠ []) : headP κ (A ++ B) = headP κ A := by cases A; exact absurd rfl h; rfl
theorem lastP_app (κ : Int → Nat) (A : List Int) {B : List Int} (h : B ≠ []) : lastP κ (A ++ B) = lastP κ B := by
  unfold lastP; rw [getLast_app A h]

/-- line.add of a ghost that has become loaded -/
theorem PI.add {i : Int} {fb : Nat} {go : Option Addr} (h : PI w p fv room κ Kn R (i :: Z) mp bz ft) (hi : i ∈ Kn) (hz : i ∉ Z) (hg : Gh w (κ i) (hrow p i fb go none)) (hl : R.length < 4611686018427387904) :
    Calls Try.prog 63 #[.pointer (some ⟨p, 3, none⟩), .pointer (some ⟨κ i, 0, none⟩)] w fun e w' => e = .returned (.tuple #[]) ∧ PI w' p fv room κ Kn (R ++ [i]) Z mp bz ft ∧ Kx (OwnZ p mp κ Kn Z) w w' := by
  have hiR : i ∉ R := h.zr i List.mem_cons_self
  have hpi := h.np i hi
  have fin : ∀ w', Kx (fun j => j = p ∨ j = κ i ∨ ∃ a, R.getLast? = some a ∧ j = κ a) w w' → Pl w' p (pc room fv mp (headP κ (R ++ [i])) (lastP κ (R ++ [i])) ((R ++ [i]).length : Nat) bz ft) → Gh w' (κ i) (hrow p i fb (lastP κ R) none) → (∀ R0 a, R = R0 ++ [a] → ∃ fb, Gh w' (κ a) (hrow p a fb (lastP κ R0) (some ⟨κ i, 0, none⟩))) →
      PI w' p fv room κ Kn (R ++ [i]) Z mp bz ft ∧ Kx (OwnZ p mp κ Kn Z) w w' := by
    intro w' hk hp' hg' ha
    have far : ∀ j ∈ Kn, j ≠ i → R.getLast? ≠ some j → w'.heap[κ j]? = w.heap[κ j]? := fun j hj hji hjl => hk.block _ (h.lt j hj) (fun e => by
      rcases e with e | e | ⟨a, ha1, e⟩
      · exact h.np j hj e
      · exact hji (h.inj j hj i hi e)
      · have haR : a ∈ R := List.mem_of_getLast? ha1
        have := h.inj j hj a (h.sub a haR) e
        subst this; exact hjl ha1)
    refine ⟨⟨hp', ?_, ?_, ?_, h.inj, h.np, h.nm, h.pm, h.rng, fun j hj => Nat.lt_of_lt_of_le (h.lt j hj) hk.size, ?_, ?_, ?_⟩, hk.mono fun j hj => ?_⟩
    · rcases h.map with h1 | ⟨m, es, ck, h1, h2⟩
      · exact .inl h1
      · refine .inr ⟨m, es, ck, h1, (hk.block m (h.mapLt h1) (fun e => ?_)).trans h2.blk, h2.len, h2.ent⟩
        rcases e with e | e | ⟨a, ha1, e⟩
        · exact h.pm (by rw [h1, e])
        · exact h.nm i hi (by rw [h1, e])
        · exact h.nm a (h.sub a (List.mem_of_getLast? ha1)) (by rw [h1, e])
    · rw [List.nodup_append]; exact ⟨h.nd, by simp, fun x hx y hy e => by simp at hy; subst hy; subst e; exact hiR hx⟩
    · intro j hj; rcases List.mem_append.1 hj with hj | hj
      · exact h.sub j hj
      · simp at hj; subst hj; exact hi
    · intro j hj hj2; rcases List.mem_append.1 hj2 with hj2 | hj2
      · exact h.zr j (List.mem_cons_of_mem _ hj) hj2
      · simp at hj2; subst hj2; exact hz hj
    · intro j hj hj1 hj2
      have hji : j ≠ i := fun e => hj1 (by simp [e])
      have hjR : j ∉ R := fun e => hj1 (by simp [e])
      exact (h.free j hj hjR (by simp [hji, hj2])).keep (far j hj hji (fun e => hjR (List.mem_of_getLast? e)))
    · intro A j B e
      rcases List.eq_nil_or_concat B with rfl | ⟨B0, b, rfl⟩
      · obtain ⟨e1, e2⟩ := List.append_inj' e rfl
        injection e2 with e2 _
        subst e1 e2
        exact ⟨fb, hg'⟩
      · rw [List.concat_eq_append] at e ⊢
        have e' : R ++ [i] = (A ++ j :: B0) ++ [b] := by rw [e]; simp
        obtain ⟨e1, e2⟩ := List.append_inj' e' rfl
        injection e2 with e2 _
        subst e2
        rcases List.eq_nil_or_concat B0 with rfl | ⟨B1, c, rfl⟩
        · obtain ⟨fa, hr⟩ := ha A j e1
          exact ⟨fa, hr⟩
        · obtain ⟨fa, hr⟩ := h.held A j (B1.concat c) e1
          have hjR : j ∈ R := by rw [e1]; simp
          refine ⟨fa, ?_⟩
          rw [headP_app κ [i] (by simp)]
          refine hr.keep (far j (h.sub j hjR) (fun e => hiR (e ▸ hjR)) (fun el => ?_))
          have hnd := h.nd
          rw [e1, List.concat_eq_append, getLast_app _ (by simp)] at el
          rw [e1, List.concat_eq_append] at hnd
          have : j ∈ B1 ++ [c] := by
            have : (j :: (B1 ++ [c])).getLast? = (B1 ++ [c]).getLast? := by rw [List.getLast?_cons]; simp
            rw [this] at el; exact List.mem_of_getLast? el
          exact absurd this (List.nodup_cons.1 (List.nodup_append.1 hnd).2.1).1
    · rcases hj with rfl | rfl | ⟨a, ha1, rfl⟩
      · exact ⟨.inl rfl, fun z _ hz2 e => h.np z hz2 e.symm⟩
      · exact ⟨.inr (.inr ⟨i, hi, rfl⟩), fun z hz1 hz2 e => hz (by rw [h.inj i hi z hz2 e]; exact hz1)⟩
      · have haR := List.mem_of_getLast? ha1
        exact ⟨.inr (.inr ⟨a, h.sub a haR, rfl⟩), fun z hz1 hz2 e => h.zr z (List.mem_cons_of_mem _ hz1) (by rw [← h.inj a (h.sub a haR) z hz2 e]; exact haR)⟩
  rcases List.eq_nil_or_concat R with hR | ⟨R0, l, hR⟩
  · have hp := h.pool
    rw [hR, headP_nil, lastP_nil] at hp
    refine (add_nil (Ne.symm hpi) hp hg (by simp)).mono ?_
    rintro e w' ⟨rfl, h1, h2, h3⟩
    refine ⟨rfl, fin w' (h3.mono fun j hj => hj.elim .inl (fun h => .inr (.inl h))) ?_ ?_ ?_⟩
    · rw [hR]; simpa [headP_cons, lastP, ptr] using h1
    · rw [hR]; exact h2
    · intro R0 a e; rw [hR] at e; simp at e
  · rw [List.concat_eq_append] at hR
    have hlR : l ∈ R := by rw [hR]; simp
    have hll : R.getLast? = some l := by rw [hR]; simp
    have hp := h.pool
    rw [show lastP κ R = some ⟨κ l, 0, none⟩ from by rw [hR]; exact lastP_end κ R0 l] at hp
    obtain ⟨fl, hrl⟩ := h.held R0 l [] hR
    have hil : κ i ≠ κ l := fun e => hiR (by rw [h.inj i hi l (h.sub l hlR) e]; exact hlR)
    refine (add_some (Ne.symm hpi) (Ne.symm (h.np l (h.sub l hlR))) hil hp hg hrl (by omega)).mono ?_
    rintro e w' ⟨rfl, h1, h2, h3, h4⟩
    refine ⟨rfl, fin w' (h4.mono fun j hj => ?_) ?_ ?_ ?_⟩
    · rcases hj with hj | hj | hj
      · exact .inl hj
      · exact .inr (.inl hj)
      · exact .inr (.inr ⟨l, hll, hj⟩)
    · rw [headP_app κ [i] (by rw [hR]; simp), lastP_end]; simpa using h1
    · rw [show lastP κ R = some ⟨κ l, 0, none⟩ from by rw [hR]; exact lastP_end κ R0 l]; exact h2
    · intro R1 a e
      rw [hR] at e
      obtain ⟨e1, e2⟩ := List.append_inj' e rfl
      injection e2 with e2 _
      subst e1 e2
      exact ⟨fl, h3⟩
end
end Go.Proofs.Ytjlhmgopmdcopaa

/- line.remove of a ghost that is loaded. -/
namespace Go.Proofs.Ytjlhmgopmdcopaa
open Go.RowKit

section
variable {w : World} {p : Nat} {fv : Value} {room : Int} {κ : Int → Nat} {Kn R Z : List Int} {mp : Option Nat} {bz ft : Int}
theorem PI.remMem {A B : List Int} {i : Int} (h : PI w p fv room κ Kn R Z mp bz ft) (hR : R = A ++ i :: B) (hl : R.length < 4611686018427387904) :
    ∃ fb, Calls Try.prog 57 #[.pointer (some ⟨p, 3, none⟩), .pointer (some ⟨κ i, 0, none⟩)] w fun e w' => e = .returned (.tuple #[]) ∧ Pl w' p (pc room fv mp (headP κ (A ++ B)) (lastP κ (A ++ B)) ((A ++ B).length : Nat) bz ft) ∧ Gh w' (κ i) (hrow p i fb none none) ∧
      (∀ A0 a, A = A0 ++ [a] → ∃ fb, Gh w' (κ a) (hrow p a fb (lastP κ A0) (headP κ B))) ∧ (∀ b B0, B = b :: B0 → ∃ fb, Gh w' (κ b) (hrow p b fb (lastP κ A) (headP κ B0))) ∧
      Kx (fun j => j = p ∨ j = κ i ∨ (∃ a, A.getLast? = some a ∧ j = κ a) ∨ (∃ b, B.head? = some b ∧ j = κ b)) w w' := by
  obtain ⟨fb, hg⟩ := h.held A i B hR
  refine ⟨fb, ?_⟩
  have hnd := h.nd
  rw [hR] at hnd
  have hiR : i ∈ R := by rw [hR]; simp
  have hi := h.sub i hiR
  have hpi := Ne.symm (h.np i hi)
  have hp := h.pool
  have hlen : ((R.length : Nat) : Int) - 1 = ((A ++ B).length : Nat) := by rw [hR]; simp; omega
  have hl1 : (1 : Int) ≤ ((R.length : Nat) : Int) := by rw [hR]; simp; omega
  have ne : ∀ j ∈ R, j ≠ i → κ i ≠ κ j := fun j hj hji e => hji (h.inj i hi j (h.sub j hj) e).symm
  have npk : ∀ j ∈ R, p ≠ κ j := fun j hj => Ne.symm (h.np j (h.sub j hj))
  obtain ⟨nA, nB, nAB⟩ := List.nodup_append.1 hnd
  obtain ⟨niB, nB2⟩ := List.nodup_cons.1 nB
  have hn : (1 : Int) ≤ ((R.length : Nat) : Int) ∧ ((R.length : Nat) : Int) < 4611686018427387904 := ⟨hl1, by omega⟩
  rcases List.eq_nil_or_concat A with rfl | ⟨A0, a, rfl⟩
  · rcases B with _ | ⟨b, B0⟩
    · refine (rem_nn hpi hp hg hn).mono ?_
      rintro e w' ⟨rfl, h1, h2, h3⟩
      rw [hlen] at h1
      exact ⟨rfl, h1, h2, fun A0 a e => by simp at e, fun b B0 e => by simp at e, h3.mono fun j hj => hj.elim .inl (fun h => .inr (.inl h))⟩
    · have hb : b ∈ R := by rw [hR]; simp
      have hbi : b ≠ i := fun e => niB (by simp [e])
      obtain ⟨fy, hy⟩ := h.held [i] b B0 (by rw [hR]; rfl)
      refine (rem_ns hpi hp hg (npk b hb) (ne b hb hbi) hy hn).mono ?_
      rintro e w' ⟨rfl, h1, h2, h3, h4⟩
      rw [hlen] at h1
      refine ⟨rfl, ?_, h2, fun A0 a e => by simp at e, fun b' B1 e => ?_, h4.mono fun j hj => ?_⟩
      · have : lastP κ R = lastP κ ([] ++ b :: B0) := by rw [hR]; exact lastP_app κ [i] (by simp)
        rw [this] at h1; exact h1
      · injection e with e1 e2; subst e1 e2; exact ⟨fy, h3⟩
      · rcases hj with hj | hj | hj
        · exact .inl hj
        · exact .inr (.inl hj)
        · exact .inr (.inr (.inr ⟨b, rfl, hj⟩))
  · rw [List.concat_eq_append] at hR hnd nA nAB hlen hg ⊢
    have ha : a ∈ R := by rw [hR]; simp
    have hai : a ≠ i := fun e => nAB a (by simp) i (by simp) e
    obtain ⟨fh, hh⟩ := h.held A0 a (i :: B) (by rw [hR]; simp)
    rw [lastP_end] at hg
    have hol : headP κ R = headP κ ((A0 ++ [a]) ++ B) := by rw [hR, headP_app κ (A := A0 ++ [a]) (i :: B) (by simp), headP_app κ (A := A0 ++ [a]) B (by simp)]
    rcases B with _ | ⟨b, B0⟩
    · refine (rem_sn hpi hp hg (npk a ha) (ne a ha hai) hh hn).mono ?_
      rintro e w' ⟨rfl, h1, h2, h3, h4⟩
      rw [hlen, hol] at h1
      refine ⟨rfl, ?_, h2, fun A1 a' e => ?_, fun b B0 e => by simp at e, h4.mono fun j hj => ?_⟩
      · rw [show lastP κ (A0 ++ [a] ++ []) = some ⟨κ a, 0, none⟩ from by rw [List.append_nil]; exact lastP_end κ A0 a]; exact h1
      · obtain ⟨e1, e2⟩ := List.append_inj' e rfl
        injection e2 with e2 _
        subst e1 e2
        exact ⟨fh, h3⟩
      · rcases hj with hj | hj | hj
        · exact .inl hj
        · exact .inr (.inl hj)
        · exact .inr (.inr (.inl ⟨a, by simp, hj⟩))
    · have hb : b ∈ R := by rw [hR]; simp
      have hbi : b ≠ i := fun e => niB (by simp [e])
      have hab : a ≠ b := fun e => nAB a (by simp) b (by simp) e
      obtain ⟨fy, hy⟩ := h.held (A0 ++ [a] ++ [i]) b B0 (by rw [hR]; simp)
      refine (rem_ss hpi hp hg (npk a ha) (ne a ha hai) hh (npk b hb) (ne b hb hbi) hy (fun e => hab (h.inj a (h.sub a ha) b (h.sub b hb) e)) hn).mono ?_
      rintro e w' ⟨rfl, h1, h2, h3, h4, h5⟩
      rw [hlen, hol] at h1
      refine ⟨rfl, ?_, h2, fun A1 a' e => ?_, fun b' B1 e => ?_, h5.mono fun j hj => ?_⟩
      · have : lastP κ R = lastP κ (A0 ++ [a] ++ b :: B0) := by rw [hR, lastP_app κ _ (by simp), lastP_app κ _ (by simp)]; exact lastP_app κ [i] (by simp)
        rw [this] at h1; exact h1
      · obtain ⟨e1, e2⟩ := List.append_inj' e rfl
        injection e2 with e2 _
        subst e1 e2
        exact ⟨fh, h3⟩
      · injection e with e1 e2; subst e1 e2; rw [lastP_end]; exact ⟨fy, h4⟩
      · rcases hj with hj | hj | hj | hj
        · exact .inl hj
        · exact .inr (.inl hj)
        · exact .inr (.inr (.inl ⟨a, by simp, hj⟩))
        · exact .inr (.inr (.inr ⟨b, rfl, hj⟩))

theorem PI.remove {A B : List Int} {i : Int} (h : PI w p fv room κ Kn R Z mp bz ft) (hR : R = A ++ i :: B) (hl : R.length < 4611686018427387904) :
    Calls Try.prog 57 #[.pointer (some ⟨p, 3, none⟩), .pointer (some ⟨κ i, 0, none⟩)] w fun e w' => e = .returned (.tuple #[]) ∧ PI w' p fv room κ Kn (A ++ B) (i :: Z) mp bz ft ∧ (∃ fb, Gh w' (κ i) (hrow p i fb none none)) ∧ Kx (OwnZ p mp κ Kn Z) w w' := by
  obtain ⟨fb, hc⟩ := h.remMem hR hl
  refine hc.mono ?_
  rintro e w' ⟨rfl, hp', hg', ha, hb, hk⟩
  have hnd := h.nd
  rw [hR] at hnd
  obtain ⟨nA, nB, nAB⟩ := List.nodup_append.1 hnd
  obtain ⟨niB, nB2⟩ := List.nodup_cons.1 nB
  have niA : i ∉ A := fun e => nAB i e i (by simp) rfl
  have subA : ∀ j ∈ A, j ∈ R := fun j hj => by rw [hR]; simp [hj]
  have subB : ∀ j ∈ B, j ∈ R := fun j hj => by rw [hR]; simp [hj]
  have hi := h.sub i (by rw [hR]; simp)
  have far : ∀ j ∈ Kn, j ≠ i → A.getLast? ≠ some j → B.head? ≠ some j → w'.heap[κ j]? = w.heap[κ j]? := fun j hj hji hja hjb => hk.block _ (h.lt j hj) (fun e => by
    rcases e with e | e | ⟨a, ha1, e⟩ | ⟨b, hb1, e⟩
    · exact h.np j hj e
    · exact hji (h.inj j hj i hi e)
    · have := h.inj j hj a (h.sub a (subA a (List.mem_of_getLast? ha1))) e
      subst this; exact hja ha1
    · have := h.inj j hj b (h.sub b (subB b (List.mem_of_head? hb1))) e
      subst this; exact hjb hb1)
  refine ⟨rfl, ⟨hp', ?_, ?_, ?_, h.inj, h.np, h.nm, h.pm, h.rng, fun j hj => Nat.lt_of_lt_of_le (h.lt j hj) hk.size, ?_, ?_, ?_⟩, ⟨fb, hg'⟩, hk.mono fun j hj => ?_⟩
  · rcases h.map with h1 | ⟨m, es, ck, h1, h2⟩
    · exact .inl h1
    · refine .inr ⟨m, es, ck, h1, (hk.block m (h.mapLt h1) (fun e => ?_)).trans h2.blk, h2.len, h2.ent⟩
      rcases e with e | e | ⟨a, ha1, e⟩ | ⟨b, hb1, e⟩
      · exact h.pm (by rw [h1, e])
      · exact h.nm i hi (by rw [h1, e])
      · exact h.nm a (h.sub a (subA a (List.mem_of_getLast? ha1))) (by rw [h1, e])
      · exact h.nm b (h.sub b (subB b (List.mem_of_head? hb1))) (by rw [h1, e])
  · exact List.nodup_append.2 ⟨nA, nB2, fun x hx y hy => nAB x hx y (by simp [hy])⟩
  · intro j hj; rcases List.mem_append.1 hj with hj | hj
    · exact h.sub j (subA j hj)
    · exact h.sub j (subB j hj)
  · intro j hj hj2
    rcases List.mem_cons.1 hj with rfl | hj
    · rcases List.mem_append.1 hj2 with h2 | h2
      · exact niA h2
      · exact niB h2
    · rcases List.mem_append.1 hj2 with h2 | h2
      · exact h.zr j hj (subA j h2)
      · exact h.zr j hj (subB j h2)
  · intro j hj hj1 hj2
    have hji : j ≠ i := fun e => hj2 (by simp [e])
    have hjA : j ∉ A := fun e => hj1 (by simp [e])
    have hjB : j ∉ B := fun e => hj1 (by simp [e])
    exact (h.free j hj (by rw [hR]; simp [hji, hjA, hjB]) (fun e => hj2 (by simp [e]))).keep (far j hj hji (fun e => hjA (List.mem_of_getLast? e)) (fun e => hjB (List.mem_of_head? e)))
  · intro C j D e
    rcases List.append_eq_append_iff.1 e with ⟨c, e1, e2⟩ | ⟨c, e1, e2⟩
    · -- C = A ++ c, B = c ++ j :: D
      rcases List.eq_nil_or_concat c with rfl | ⟨c0, x, rfl⟩
      · obtain ⟨fj, hr⟩ := hb j D (by simpa using e2)
        rw [e1, List.append_nil]
        exact ⟨fj, hr⟩
      · rw [List.concat_eq_append] at e1 e2
        obtain ⟨fj, hr⟩ := h.held (A ++ i :: (c0 ++ [x])) j D (by rw [hR, e2]; simp)
        have hjB : j ∈ B := by rw [e2]; simp
        rw [show lastP κ (A ++ i :: (c0 ++ [x])) = lastP κ C from by rw [e1, lastP_app κ A (by simp), lastP_app κ A (by simp)]; exact lastP_app κ [i] (by simp)] at hr
        refine ⟨fj, hr.keep (far j (h.sub j (subB j hjB)) (fun e => niB (e ▸ hjB)) (fun ea => nAB j (List.mem_of_getLast? ea) j (by simp [hjB]) rfl) (fun eb => ?_))⟩
        have hnB := nB2
        rw [e2] at hnB eb
        have hjc : j ∈ c0 ++ [x] := by
          cases c0 with
          | nil => simp at eb; simp [eb]
          | cons y c1 => simp at eb; simp [eb]
        exact (List.nodup_append.1 hnB).2.2 j hjc j (by simp) rfl
    · -- A = C ++ c, j :: D = c ++ B
      cases c with
      | nil =>
        simp at e1 e2
        obtain ⟨fj, hr⟩ := hb j D e2.symm
        rw [e1] at hr
        exact ⟨fj, hr⟩
      | cons x c =>
        simp at e2
        obtain ⟨rfl, e2⟩ := e2
        rcases List.eq_nil_or_concat c with rfl | ⟨c0, y, rfl⟩
        · obtain ⟨fj, hr⟩ := ha C j e1
          rw [e2]
          exact ⟨fj, hr⟩
        · rw [List.concat_eq_append] at e1 e2
          obtain ⟨fj, hr⟩ := h.held C j ((c0 ++ [y]) ++ i :: B) (by rw [hR, e1]; simp)
          have hjA : j ∈ A := by rw [e1]; simp
          rw [headP_app κ _ (by simp)] at hr
          rw [e2, headP_app κ _ (by simp)]
          refine ⟨fj, hr.keep (far j (h.sub j (subA j hjA)) (fun e => niA (e ▸ hjA)) (fun ea => ?_) (fun eb => nAB j hjA j (by simp [List.mem_of_head? eb]) rfl))⟩
          have hnA := nA
          rw [e1] at hnA ea
          rw [getLast_app C (by simp)] at ea
          have hjc : j ∈ c0 ++ [y] := by
            have : (j :: (c0 ++ [y])).getLast? = (c0 ++ [y]).getLast? := by rw [List.getLast?_cons]; simp
            rw [this] at ea; exact List.mem_of_getLast? ea
          exact (List.nodup_cons.1 (List.nodup_append.1 hnA).2.1).1 hjc
  · have aux : ∀ x ∈ R, OwnZ p mp κ Kn Z (κ x) := fun x hx => ⟨.inr (.inr ⟨x, h.sub x hx, rfl⟩), fun z hz1 hz2 e => h.zr z hz1 (by rw [← h.inj x (h.sub x hx) z hz2 e]; exact hx)⟩
    rcases hj with rfl | rfl | ⟨a, ha1, rfl⟩ | ⟨b, hb1, rfl⟩
    · exact ⟨.inl rfl, fun z _ hz2 e => h.np z hz2 e.symm⟩
    · exact aux i (by rw [hR]; simp)
    · exact aux a (subA a (List.mem_of_getLast? ha1))
    · exact aux b (subB b (List.mem_of_head? hb1))
end
end Go.Proofs.Ytjlhmgopmdcopaa

/- Pools: use, unload, hold. -/
namespace Go.Proofs.Ytjlhmgopmdcopaa
open Go.RowKit

/-- what a pool's state is, but for the world -/
structure Sta where
  κ : Int → Nat
  Kn : List Int
  R : List Int
  mp : Option Nat
  ft : Int
abbrev PS (w : World) (p : Nat) (fv : Value) (room : Int) (σ : Sta) (Z : List Int) (bz : Int) : Prop := PI w p fv room σ.κ σ.Kn σ.R Z σ.mp bz σ.ft
/-- from one state to another: its own blocks alone are changed, but those of Z; it knows no less -/
structure Mv (p : Nat) (Z : List Int) (w : World) (σ : Sta) (w' : World) (σ' : Sta) : Prop where
  kx : Kx (OwnZ p σ.mp σ.κ σ.Kn Z) w w'
  own : ∀ j, OwnP p σ'.mp σ'.κ σ'.Kn j → OwnP p σ.mp σ.κ σ.Kn j ∨ w.heap.size ≤ j
  ext : ∀ i ∈ σ.Kn, i ∈ σ'.Kn ∧ σ'.κ i = σ.κ i
theorem Mv.refl (p : Nat) (Z : List Int) (w : World) (σ : Sta) : Mv p Z w σ w σ := ⟨Kx.refl _ _, fun _ h => .inl h, fun _ h => ⟨h, rfl⟩⟩
theorem Mv.trans {p : Nat} {Z : List Int} {w w1 w2 : World} {σ σ1 σ2 : Sta} (h : Mv p Z w σ w1 σ1) (k : Mv p Z w1 σ1 w2 σ2) : Mv p Z w σ w2 σ2 := by
  refine ⟨h.kx.back k.kx (fun j hj => ?_), fun j hj => ?_, fun i hi => ?_⟩
  · rcases h.own j hj.1 with h1 | h1
    · exact .inl ⟨h1, fun z hz hzk => by have := hj.2 z hz (h.ext z hzk).1; rw [(h.ext z hzk).2] at this; exact this⟩
    · exact .inr h1
  · rcases k.own j hj with h1 | h1
    · exact h.own j h1
    · exact .inr (Nat.le_trans h.kx.size h1)
  · obtain ⟨h1, h2⟩ := h.ext i hi
    obtain ⟨h3, h4⟩ := k.ext i h1
    exact ⟨h3, h4.trans h2⟩
/-- with others of R alone -/
theorem Mv.of {p : Nat} {Z : List Int} {w w' : World} {σ σ' : Sta} (h : Kx (OwnZ p σ.mp σ.κ σ.Kn Z) w w') (h1 : σ'.mp = σ.mp) (h2 : σ'.κ = σ.κ) (h3 : σ'.Kn = σ.Kn) : Mv p Z w σ w' σ' := ⟨h, fun j hj => by rw [h1, h2, h3] at hj; exact .inl hj, fun i hi => by rw [h2, h3]; exact ⟨hi, rfl⟩⟩

section
variable {w : World} {p : Nat} {fv : Value} {room : Int} {σ : Sta} {Z : List Int} {bz : Int}
/-- of one of Z that is not loaded it is known what it is -/
theorem PI.unz {κ : Int → Nat} {Kn R : List Int} {mp : Option Nat} {ft : Int} {i : Int} (h : PI w p fv room κ Kn R (i :: Z) mp bz ft) (hg : Gh w (κ i) (frow p i)) : PI w p fv room κ Kn R Z mp bz ft :=
  ⟨h.pool, h.map, h.nd, h.sub, h.inj, h.np, h.nm, h.pm, h.rng, h.lt, fun j hj => h.zr j (List.mem_cons_of_mem _ hj), fun j hj h1 h2 => by
    by_cases e : j = i
    · subst e; exact hg
    · exact h.free j hj h1 (by simp [e, h2]), h.held⟩
theorem PI.toz {κ : Int → Nat} {Kn R : List Int} {mp : Option Nat} {ft : Int} {i : Int} (h : PI w p fv room κ Kn R Z mp bz ft) (hi : i ∉ R) : PI w p fv room κ Kn R (i :: Z) mp bz ft :=
  ⟨h.pool, h.map, h.nd, h.sub, h.inj, h.np, h.nm, h.pm, h.rng, h.lt, fun j hj => by rcases List.mem_cons.1 hj with rfl | hj; exact hi; exact h.zr j hj, fun j hj h1 h2 => h.free j hj h1 (fun h3 => h2 (List.mem_cons_of_mem _ h3)), h.held⟩

set_option maxRecDepth 100000 in
set_option maxHeartbeats 2000000 in
theorem use_any {A B : List Int} {i : Int} (h : PS w p fv room σ Z bz) (hR : σ.R = A ++ i :: B) (hl : σ.R.length < 4611686018427387904) :
    Calls Try.prog 48 #[.pointer (some ⟨p, 0, none⟩), .pointer (some ⟨σ.κ i, 0, none⟩)] w fun e w' => e = .returned (.tuple #[]) ∧ PS w' p fv room { σ with R := A ++ B ++ [i] } Z bz ∧ Mv p Z w σ w' { σ with R := A ++ B ++ [i] } := by
  have hi : i ∈ σ.R := by rw [hR]; simp
  have HR : Hid (Calls Try.prog 57 #[.pointer (some ⟨p, 3, none⟩), .pointer (some ⟨σ.κ i, 0, none⟩)] w fun e w' => e = .returned (.tuple #[]) ∧ PI w' p fv room σ.κ σ.Kn (A ++ B) (i :: Z) σ.mp bz σ.ft ∧ (∃ fb, Gh w' (σ.κ i) (hrow p i fb none none)) ∧ Kx (OwnZ p σ.mp σ.κ σ.Kn Z) w w') := h.remove hR hl
  have HA : Hid (∀ W fb, PI W p fv room σ.κ σ.Kn (A ++ B) (i :: Z) σ.mp bz σ.ft → Gh W (σ.κ i) (hrow p i fb none none) → Calls Try.prog 63 #[.pointer (some ⟨p, 3, none⟩), .pointer (some ⟨σ.κ i, 0, none⟩)] W fun e w' => e = .returned (.tuple #[]) ∧ PI w' p fv room σ.κ σ.Kn (A ++ B ++ [i]) Z σ.mp bz σ.ft ∧ Kx (OwnZ p σ.mp σ.κ σ.Kn Z) W w') := fun W fb h1 h2 => h1.add (h.sub i hi) (fun hz => h.zr i hz hi) h2 (by rw [hR] at hl; simp at hl ⊢; omega)
  clear h hR hl hi
  generalize σ.κ i = g at HR HA ⊢
  go_enter Try.func48, Try.ntmps48
  go_wp2_with fail
  refine HR.out.mono ?_
  rintro e w1 ⟨rfl, h1, ⟨fb, h2⟩, h3⟩
  have H1 : Hid (PI w1 p fv room σ.κ σ.Kn (A ++ B) (i :: Z) σ.mp bz σ.ft ∧ Kx (OwnZ p σ.mp σ.κ σ.Kn Z) w w1) := ⟨h1, h3⟩
  have HC := HA.out w1 fb h1 h2
  clear h1 h2 h3 HR HA
  go_wp2_with fail
  refine HC.mono ?_
  rintro e w2 ⟨rfl, h1, h2⟩
  have H2 : Hid (PI w2 p fv room σ.κ σ.Kn (A ++ B ++ [i]) Z σ.mp bz σ.ft ∧ Kx (OwnZ p σ.mp σ.κ σ.Kn Z) w w2) := ⟨h1, H1.out.2.trans h2⟩
  clear h1 h2 HC
  go_wp2_with fail
  go_end0
  exact ⟨rfl, H2.out.1, Mv.of H2.out.2 rfl rfl rfl⟩

theorem poolne_s (b : Nat) (w : World) : (binOp .neq 55 (.pointer (some ⟨b, 0, none⟩)) (.pointer none)).run Try.prog w = .ok (.bool true) w := by kernel_rfl
theorem poolng_s (b : Nat) (x y : Operand) (w : World) : (eqGuard .neq 55 x y (.pointer (some ⟨b, 0, none⟩)) (.pointer none)).run Try.prog w = .ok () w := by kernel_rfl

set_option maxRecDepth 100000 in
set_option maxHeartbeats 2000000 in
theorem unloadP_any {A B : List Int} {i : Int} (h : PS w p fv room σ Z bz) (hR : σ.R = A ++ i :: B) (hl : σ.R.length < 4611686018427387904) :
    Calls Try.prog 36 #[.pointer (some ⟨σ.κ i, 0, none⟩)] w fun e w' => e = .returned (.tuple #[]) ∧ PS w' p fv room { σ with R := A ++ B } Z bz ∧ Mv p Z w σ w' { σ with R := A ++ B } := by
  have hi : i ∈ σ.R := by rw [hR]; simp
  have hiK := h.sub i hi
  have hiZ : i ∉ Z := fun hz => h.zr i hz hi
  obtain ⟨f0, hg⟩ := h.held A i B hR
  have HL : Hid (Calls Try.prog 17 #[.pointer (some ⟨σ.κ i, 0, none⟩)] w fun e w' => e = .returned (.bool true) ∧ w = w') := Loaded_yes hg
  have HR : Hid (Calls Try.prog 57 #[.pointer (some ⟨p, 3, none⟩), .pointer (some ⟨σ.κ i, 0, none⟩)] w fun e w' => e = .returned (.tuple #[]) ∧ PI w' p fv room σ.κ σ.Kn (A ++ B) (i :: Z) σ.mp bz σ.ft ∧ (∃ fb, Gh w' (σ.κ i) (hrow p i fb none none)) ∧ Kx (OwnZ p σ.mp σ.κ σ.Kn Z) w w') := h.remove hR hl
  have HF : Hid (∀ W fb, PI W p fv room σ.κ σ.Kn (A ++ B) (i :: Z) σ.mp bz σ.ft → Kx (OwnZ p σ.mp σ.κ σ.Kn Z) w W → Gh W (σ.κ i) (hrow p i fb none none) → PI (((W.setCell ⟨σ.κ i, 4, none⟩ (.string ⟨#[]⟩)).setCell ⟨σ.κ i, 5, none⟩ (.int .i64 0)).setCell ⟨σ.κ i, 6, none⟩ (.pointer none)) p fv room σ.κ σ.Kn (A ++ B) Z σ.mp bz σ.ft ∧ Kx (OwnZ p σ.mp σ.κ σ.Kn Z) w (((W.setCell ⟨σ.κ i, 4, none⟩ (.string ⟨#[]⟩)).setCell ⟨σ.κ i, 5, none⟩ (.int .i64 0)).setCell ⟨σ.κ i, 6, none⟩ (.pointer none))) := by
    intro W fb h1 h2 h3
    have own : OwnZ p σ.mp σ.κ σ.Kn Z (σ.κ i) := ⟨.inr (.inr ⟨i, hiK, rfl⟩), fun z hz1 hz2 e => hiZ (by rw [h.inj i hiK z hz2 e]; exact hz1)⟩
    refine ⟨PI.unz (h1.keep (by simp [World.setCell]) (fun j _ hj => ?_)) (((h3.s4 _).s5 _).s6 _), ((h2.set (.inl own) _).set (.inl own) _).set (.inl own) _⟩
    have hji := hj i List.mem_cons_self hiK
    exact (Below.heap_setCell _ _ _ _ hji).trans ((Below.heap_setCell _ _ _ _ hji).trans (Below.heap_setCell _ _ _ _ hji))
  have c7 := hg.c7
  have q1 := poolne_s p
  have q2 := poolng_s p
  clear h hR hl hi hiK hiZ hg
  generalize σ.κ i = g at HL HR HF c7 ⊢
  go_enter Try.func36, Try.ntmps36
  go_wp2_with (go_at_call 17; refine HL.out.mono ?_; rintro e w' ⟨rfl, rfl⟩)
  refine HR.out.mono ?_
  rintro e w1 ⟨rfl, h1, ⟨fb, h2⟩, h3⟩
  obtain ⟨X1, hX1⟩ : ∃ X, w1.setCell ⟨g, 4, none⟩ (.string ⟨#[]⟩) = X := ⟨_, rfl⟩
  obtain ⟨X2, hX2⟩ : ∃ X, X1.setCell ⟨g, 5, none⟩ (.int .i64 0) = X := ⟨_, rfl⟩
  obtain ⟨X3, hX3⟩ : ∃ X, X2.setCell ⟨g, 6, none⟩ (.pointer none) = X := ⟨_, rfl⟩
  have H := HF.out w1 fb h1 h3 h2
  rw [hX1, hX2, hX3] at H
  have HX : Hid (PI X3 p fv room σ.κ σ.Kn (A ++ B) Z σ.mp bz σ.ft ∧ Kx (OwnZ p σ.mp σ.κ σ.Kn Z) w X3) := H
  have g1 : Gh X1 g (gc i (cfn p) false 0 ⟨#[]⟩ 1 (some ⟨fb, 0, none⟩) (some ⟨p, 0, none⟩) none none) := by rw [← hX1]; exact h2.s4 _
  have g2 : Gh X2 g (gc i (cfn p) false 0 ⟨#[]⟩ 0 (some ⟨fb, 0, none⟩) (some ⟨p, 0, none⟩) none none) := by rw [← hX2]; exact g1.s5 _
  have c4 := h2.c4
  have z4 := h2.free 4
  have c5 := g1.c5
  have z5 := g1.free 5
  have c6 := g2.c6
  have z6 := g2.free 6
  clear h1 h2 h3 H g1 g2 HF HR HL c7
  go_wp2_with fail
  go_end0
  exact ⟨rfl, HX.out.1, Mv.of HX.out.2 rfl rfl rfl⟩

/-- what is held when one more is, and there is room for so many -/
def holdR (room : Int) (R : List Int) (i : Int) : List Int := if room < ((R.length : Nat) : Int) + 1 then (R ++ [i]).tail else R ++ [i]

set_option maxRecDepth 100000 in
set_option maxHeartbeats 2000000 in
theorem hold_any {i : Int} {fb : Nat} (h : PS w p fv room σ (i :: Z) bz) (hi : i ∈ σ.Kn) (hz : i ∉ Z) (hg : Gh w (σ.κ i) (hrow p i fb none none)) (hl : σ.R.length < 2305843009213693952) :
    Calls Try.prog 56 #[.pointer (some ⟨p, 0, none⟩), .pointer (some ⟨σ.κ i, 0, none⟩)] w fun e w' => e = .returned (.tuple #[]) ∧ PS w' p fv room { σ with R := holdR room σ.R i } Z bz ∧ Mv p Z w σ w' { σ with R := holdR room σ.R i } := by
  have HA : Hid (Calls Try.prog 63 #[.pointer (some ⟨p, 3, none⟩), .pointer (some ⟨σ.κ i, 0, none⟩)] w fun e w' => e = .returned (.tuple #[]) ∧ PI w' p fv room σ.κ σ.Kn (σ.R ++ [i]) Z σ.mp bz σ.ft ∧ Kx (OwnZ p σ.mp σ.κ σ.Kn Z) w w') := h.add hi hz hg (by omega)
  have hlen : (((σ.R ++ [i]).length : Nat) : Int) = ((σ.R.length : Nat) : Int) + 1 := by simp
  obtain ⟨x, B, hRx⟩ : ∃ x B, σ.R ++ [i] = x :: B := by
    cases hq : σ.R with
    | nil => exact ⟨i, [], rfl⟩
    | cons y r => exact ⟨y, r ++ [i], rfl⟩
  have HU : Hid (∀ W, PI W p fv room σ.κ σ.Kn (σ.R ++ [i]) Z σ.mp bz σ.ft → Calls Try.prog 36 #[.pointer (some ⟨σ.κ x, 0, none⟩)] W fun e w' => e = .returned (.tuple #[]) ∧ PI w' p fv room σ.κ σ.Kn B Z σ.mp bz σ.ft ∧ Mv p Z W { σ with R := σ.R ++ [i] } w' { σ with R := B }) := fun W hW => unloadP_any (σ := { σ with R := σ.R ++ [i] }) (A := []) hW hRx (by rw [show ({ σ with R := σ.R ++ [i] } : Sta).R = σ.R ++ [i] from rfl]; simp; omega)
  have HX : Hid (σ.R ++ [i] = x :: B) := hRx
  clear h hg
  by_cases hr : room < ((σ.R.length : Nat) : Int) + 1
  · have hh : holdR room σ.R i = B := by unfold holdR; rw [if_pos hr, hRx]; rfl
    rw [hh]
    have hgt : room < (((σ.R ++ [i]).length : Nat) : Int) := by rw [hlen]; exact hr
    clear hh hlen hr hl hRx
    go_enter Try.func56, Try.ntmps56
    go_wp2_with fail
    refine HA.out.mono ?_
    rintro e w1 ⟨rfl, h1, h2⟩
    have c5 := h1.pool.c5
    have c0 := h1.pool.c0
    have c3 : w1.cell? ⟨p, 3, none⟩ = some (.pointer (some ⟨σ.κ x, 0, none⟩)) := by have := h1.pool.c3; rw [HX.out] at this; exact this
    have H1 : Hid (PI w1 p fv room σ.κ σ.Kn (σ.R ++ [i]) Z σ.mp bz σ.ft ∧ Kx (OwnZ p σ.mp σ.κ σ.Kn Z) w w1) := ⟨h1, h2⟩
    clear h1 h2 HA
    generalize (((σ.R ++ [i]).length : Nat) : Int) = nn at c5 hgt
    go_wp2_with fail
    go_region
    have HC := HU.out w1.drew (H1.out.1.below (Below.refl _ _).drew)
    have HK : Hid (Kx (OwnZ p σ.mp σ.κ σ.Kn Z) w w1.drew) := H1.out.2.drew
    have d3 : w1.drew.cell? ⟨p, 3, none⟩ = some (.pointer (some ⟨σ.κ x, 0, none⟩)) := c3
    generalize w1.drew = w2 at HC HK d3 ⊢
    clear c5 c0 c3 HU
    go_wp2_with fail
    refine HC.mono ?_
    rintro e w3 ⟨rfl, h1, h2⟩
    have H3 : Hid (PI w3 p fv room σ.κ σ.Kn B Z σ.mp bz σ.ft ∧ Mv p Z w σ w3 { σ with R := B }) := ⟨h1, (Mv.of (σ' := { σ with R := σ.R ++ [i] }) HK.out rfl rfl rfl).trans h2⟩
    clear h1 h2 HC
    go_wp2_with fail
    go_end0
    exact ⟨rfl, H3.out⟩
  · have hh : holdR room σ.R i = σ.R ++ [i] := by unfold holdR; rw [if_neg hr]
    rw [hh]
    have hgt : ¬ room < (((σ.R ++ [i]).length : Nat) : Int) := by rw [hlen]; exact hr
    clear hh hlen hr hl hRx HU HX
    go_enter Try.func56, Try.ntmps56
    go_wp2_with fail
    refine HA.out.mono ?_
    rintro e w1 ⟨rfl, h1, h2⟩
    have c5 := h1.pool.c5
    have c0 := h1.pool.c0
    have H1 : Hid (PI w1 p fv room σ.κ σ.Kn (σ.R ++ [i]) Z σ.mp bz σ.ft ∧ Kx (OwnZ p σ.mp σ.κ σ.Kn Z) w w1) := ⟨h1, h2⟩
    clear h1 h2 HA
    generalize (((σ.R ++ [i]).length : Nat) : Int) = nn at c5 hgt
    go_wp2_with fail
    go_region
    have H2 : Hid (PI w1.drew p fv room σ.κ σ.Kn (σ.R ++ [i]) Z σ.mp bz σ.ft ∧ Kx (OwnZ p σ.mp σ.κ σ.Kn Z) w w1.drew) := ⟨H1.out.1.below (Below.refl _ _).drew, H1.out.2.drew⟩
    generalize w1.drew = w2 at H2 ⊢
    go_wp2_with fail
    go_end0
    exact ⟨rfl, H2.out.1, Mv.of H2.out.2 rfl rfl rfl⟩
end
end Go.Proofs.Ytjlhmgopmdcopaa

/- Pool.counted: the pool knows of each fetch while it goes on, and that it has ended. -/
namespace Go.Proofs.Ytjlhmgopmdcopaa
open Go.RowKit

/-- what a pool's fetch does: it answers the term's record; the pool goes from a state to another one -/
def FC (FF : Nat) (fcap : Array Value) (p : Nat) (fv : Value) (room : Int) (tm : Tm) (b0 : Nat) (w0 : World) (Z : List Int) (id : Int) (T : Sta → Sta → Prop) (bz : Int) : Prop :=
  ∀ W σ, PS W p fv room σ Z bz → (∀ j, OwnP p σ.mp σ.κ σ.Kn j → b0 ≤ j) → (∀ j, j < b0 → W.heap[j]? = w0.heap[j]?) → ((σ.R.length : Nat) : Int) ≤ room → Calls Try.prog FF (#[.int .u64 id] ++ fcap) W fun e w' => FE 0 0 0 tm W e w' ∧ ∃ σ', T σ σ' ∧ PS w' p fv room σ' Z bz ∧ Mv p Z W σ w' σ'

section
variable {w : World} {p : Nat} {fv : Value} {room : Int} {σ : Sta} {Z : List Int} {bz : Int}
theorem PI.busy {κ : Int → Nat} {Kn R : List Int} {mp : Option Nat} {ft bz' ft' : Int} {w' : World} (h : PI w p fv room κ Kn R Z mp bz ft) (hs : w.heap.size ≤ w'.heap.size) (hk : ∀ j, j ≠ p → j < w.heap.size → w'.heap[j]? = w.heap[j]?) (hp : Pl w' p (pc room fv mp (headP κ R) (lastP κ R) R.length bz' ft')) : PI w' p fv room κ Kn R Z mp bz' ft' := by
  refine ⟨hp, ?_, h.nd, h.sub, h.inj, h.np, h.nm, h.pm, h.rng, fun i hi => Nat.lt_of_lt_of_le (h.lt i hi) hs, h.zr, fun i hi h1 h2 => (h.free i hi h1 h2).keep (hk _ (h.np i hi) (h.lt i hi)), fun A i B e => ?_⟩
  · rcases h.map with h1 | ⟨m, es, ck, h1, h2⟩
    · exact .inl h1
    · exact .inr ⟨m, es, ck, h1, (hk m (fun e => h.pm (by rw [h1, e])) (h.mapLt h1)).trans h2.blk, h2.len, h2.ent⟩
  · obtain ⟨fb, hr⟩ := h.held A i B e
    have hiK := h.sub i (by rw [e]; simp)
    exact ⟨fb, hr.keep (hk _ (h.np i hiK) (h.lt i hiK))⟩

set_option maxRecDepth 100000 in
set_option maxHeartbeats 2000000 in
theorem counted1_d (q p : Nat) (bz : Int) (w : World) (hp : w.cell? ⟨q, 0, none⟩ = some (.pointer (some ⟨p, 0, none⟩))) (hg : w.cell? ⟨p, 6, none⟩ = some (.int .i64 (bz + 1))) (hz : w.frozen? ⟨p, 6, none⟩ = false) (hb : 0 ≤ bz ∧ bz < 1000) :
    CallsD Try.prog 58 #[.pointer (some ⟨q, 0, none⟩)] .returning w fun e u' w' => u' = .returning ∧ (e = .returned (.tuple #[]) ∧ w' = w.setCell ⟨p, 6, none⟩ (.int .i64 bz)) := by
  refine callsD_of_wp (R := fun e w' => e = .returned (.tuple #[]) ∧ w' = w.setCell ⟨p, 6, none⟩ (.int .i64 bz)) Try.func58 rfl ?_
  simp only [Try.ntmps58]
  have hw : wrap64 bz = bz := by unfold wrap64; omega
  have hw2 : IntKind.i64.wrap (bz + 1 - 1) = bz := by rw [IntKind.wrap_i64]; omega
  clear hb
  go_wp2_with fail
  go_end0
  exact ⟨rfl, rfl⟩

set_option maxRecDepth 100000 in
set_option maxHeartbeats 2000000 in
theorem counted_any {FF : Nat} {fcap : Array Value} {tm : Tm} {b0 : Nat} {w0 : World} {id : Int} {T : Sta → Sta → Prop} (h : PS w p (.func (.func FF) #[] fcap) room σ Z bz) (hcf : ∀ W, Sem.run Try.prog (callFunc FF (#[.int .u64 id] ++ fcap)) W = .ok (.enter FF (#[.int .u64 id] ++ fcap)) W)
    (hge : ∀ j, OwnP p σ.mp σ.κ σ.Kn j → b0 ≤ j) (hE : ∀ j, j < b0 → w.heap[j]? = w0.heap[j]?) (hRl : ((σ.R.length : Nat) : Int) ≤ room) (hFC : FC FF fcap p (.func (.func FF) #[] fcap) room tm b0 w0 Z id T (bz + 1)) (hb : 0 ≤ bz ∧ bz < 1000) :
    Calls Try.prog 39 #[.pointer (some ⟨p, 0, none⟩), .int .u64 id] w fun e w' => FE 0 0 0 tm w e w' ∧ ∃ σ', T { σ with ft := wrap64 (σ.ft + 1) } σ' ∧ PS w' p (.func (.func FF) #[] fcap) room σ' Z bz ∧ Mv p Z w σ w' σ' := by
  have hmf : ∀ (fn : Fn) (first cap : Array Value) (w : World), (Instr.makeFunc fn first cap).run Try.prog w = .ok (.func fn first cap) w := fun _ _ _ _ => rfl
  have hl := h.pool.lt
  have hbp : b0 ≤ p := hge p (.inl rfl)
  obtain ⟨X0, hX0⟩ : ∃ X, w.alloc (.cells #[.pointer (some ⟨p, 0, none⟩)] 55) = X := ⟨_, rfl⟩
  have hb0 : Below w.heap.size w X0 := by rw [← hX0]; exact (Below.refl _ _).alloc (Nat.le_refl _) _
  have r0 : X0.heap[w.heap.size]? = some (.cells #[.pointer (some ⟨p, 0, none⟩)] 55) := by rw [← hX0]; exact heap_alloc_last _ _
  have hs0 : X0.heap.size = w.heap.size + 1 := by rw [← hX0]; simp
  have hpl0 : Pl X0 p _ := h.pool.keep (hb0.block p hl)
  obtain ⟨X1, hX1⟩ : ∃ X, X0.setCell ⟨p, 7, none⟩ (.int .i64 (wrap64 (σ.ft + 1))) = X := ⟨_, rfl⟩
  have hpl1 : Pl X1 p (pc room (.func (.func FF) #[] fcap) σ.mp (headP σ.κ σ.R) (lastP σ.κ σ.R) (σ.R.length : Nat) bz (wrap64 (σ.ft + 1))) := by rw [← hX1]; exact hpl0.s7 _
  obtain ⟨X2, hX2⟩ : ∃ X, X1.setCell ⟨p, 6, none⟩ (.int .i64 (bz + 1)) = X := ⟨_, rfl⟩
  have hpl2 : Pl X2 p (pc room (.func (.func FF) #[] fcap) σ.mp (headP σ.κ σ.R) (lastP σ.κ σ.R) (σ.R.length : Nat) (bz + 1) (wrap64 (σ.ft + 1))) := by rw [← hX2]; exact hpl1.s6 _
  have far2 : ∀ j, j ≠ p → X2.heap[j]? = X0.heap[j]? := fun j hj => by rw [← hX2, ← hX1]; exact (Below.heap_setCell _ _ _ _ hj).trans (Below.heap_setCell _ _ _ _ hj)
  have hs2 : X2.heap.size = w.heap.size + 1 := by rw [← hX2, ← hX1, ← hs0]; simp [World.setCell]
  have hps2 : PS X2 p (.func (.func FF) #[] fcap) room { σ with ft := wrap64 (σ.ft + 1) } Z (bz + 1) := PI.busy h (by omega) (fun j hj hlj => (far2 j hj).trans (hb0.block j hlj)) hpl2
  have hk2 : Kx (· = p) w X2 := by rw [← hX2, ← hX1]; exact (Kx.setg (Kx.of hb0) _).setg _
  have HC : Hid (Calls Try.prog FF (#[.int .u64 id] ++ fcap) X2 fun e w' => FE 0 0 0 tm X2 e w' ∧ ∃ σ', T { σ with ft := wrap64 (σ.ft + 1) } σ' ∧ PS w' p (.func (.func FF) #[] fcap) room σ' Z (bz + 1) ∧ Mv p Z X2 { σ with ft := wrap64 (σ.ft + 1) } w' σ') :=
    hFC X2 _ hps2 hge (fun j hj => (far2 j (by omega)).trans ((hb0.block j (by omega)).trans (hE j hj))) hRl
  have HS : Hid (w.heap.size < X2.heap.size ∧ p < w.heap.size ∧ X2.heap[w.heap.size]? = some (.cells #[.pointer (some ⟨p, 0, none⟩)] 55) ∧ Kx (· = p) w X2 ∧ (∀ j, OwnP p σ.mp σ.κ σ.Kn j → j < w.heap.size)) := ⟨by omega, hl, (far2 _ (by omega)).trans r0, hk2, fun j hj => h.ownLt hj⟩
  have HB : Hid (0 ≤ bz ∧ bz < 1000) := hb
  have hwb : IntKind.i64.wrap (bz + 1) = bz + 1 := by rw [IntKind.wrap_i64]; omega
  have e0 : X0.cell? ⟨w.heap.size, 0, none⟩ = some (.pointer (some ⟨p, 0, none⟩)) := by rw [cell_of_row _ _ 0 _ _ _ r0]; rfl
  have e1 : X1.cell? ⟨w.heap.size, 0, none⟩ = some (.pointer (some ⟨p, 0, none⟩)) := by rw [← hX1, World.cell?_setCell_other _ _ _ _ (by intro e; injection e with e1 _; omega)]; exact e0
  have e2 : X2.cell? ⟨w.heap.size, 0, none⟩ = some (.pointer (some ⟨p, 0, none⟩)) := by rw [cell_of_row _ _ 0 _ _ _ HS.out.2.2.1]; rfl
  have a7 := hpl0.c7
  have z7 := hpl0.free 7
  have a6 := hpl1.c6
  have z6 := hpl1.free 6
  have a1 := hpl2.c1
  have hZp : ∀ j, OwnP p σ.mp σ.κ σ.Kn j → j < w.heap.size := HS.out.2.2.2.2
  clear h hl hbp hb0 r0 hs0 hpl0 hpl1 hpl2 far2 hs2 hps2 hk2 hFC hE hge hb hZp
  go_enter_defers Try.func39, Try.ntmps39
  go_wp2_with fail
  refine HC.out.mono ?_
  rintro e w1 ⟨hfe, σ', hT, hps, hmv⟩
  rcases hfe with ⟨_, _, rv, rfl, hv⟩ | ⟨hx, _⟩
  · have HR : Hid (T { σ with ft := wrap64 (σ.ft + 1) } σ' ∧ PS w1 p (.func (.func FF) #[] fcap) room σ' Z (bz + 1) ∧ Mv p Z X2 { σ with ft := wrap64 (σ.ft + 1) } w1 σ' ∧ tm.V w1 (Fr X2 w1) (.iface 32 (.pointer rv))) := ⟨hT, hps, hmv, hv rfl⟩
    clear hT hps hmv hv
    go_wp2_with fail
    refine leaves_cons (f := 58) (args := #[.pointer (some ⟨w.heap.size, 0, none⟩)]) (by simp) (by simp [go_sem]) ?_
    obtain ⟨hT, hps, hmv, hv⟩ := HR.out
    obtain ⟨s1, s2, s3, s4, s5⟩ := HS.out
    have hno : ¬ OwnZ p σ.mp σ.κ σ.Kn Z w.heap.size := fun hx => by have := s5 _ hx.1; omega
    have b1 : w1.cell? ⟨w.heap.size, 0, none⟩ = some (.pointer (some ⟨p, 0, none⟩)) := by rw [cell_of_row _ _ 0 _ _ _ ((hmv.kx.block _ s1 hno).trans s3)]; rfl
    refine (counted1_d w.heap.size p bz w1 b1 hps.pool.c6 (hps.pool.free 6) HB.out).mono ?_
    rintro e u' w2 ⟨rfl, rfl, rfl⟩
    simp [Leaves, settle, results, Try.results39, go_sem]
    have far : ∀ j, j ≠ p → (w1.setCell ⟨p, 6, none⟩ (.int .i64 bz)).heap[j]? = w1.heap[j]? := fun j hj => Below.heap_setCell _ _ _ _ hj
    refine ⟨.inl ⟨rfl, rfl, rv, rfl, fun _ => tm.V_same (fun k hk => far k (by have := hk.1; omega)) (fun k hk => ⟨by have := hk.1; have := s4.size; omega, by simpa [World.setCell] using hk.2⟩) _ hv⟩, σ', hT, PI.busy hps (by simp [World.setCell]) (fun j hj _ => far j hj) (hps.pool.s6 _), ?_⟩
    have hpz : OwnZ p σ.mp σ.κ σ.Kn Z p := ⟨.inl rfl, fun z _ hz2 e => by
      have h1 := (hmv.ext z hz2)
      exact hps.np z h1.1 (by rw [h1.2]; exact e.symm)⟩
    have m1 : Mv p Z w σ X2 { σ with ft := wrap64 (σ.ft + 1) } := Mv.of (s4.mono fun j hj => by subst hj; exact hpz) rfl rfl rfl
    have m2 := m1.trans hmv
    exact ⟨m2.kx.set (c := p) (.inl hpz) _, m2.own, m2.ext⟩
  · exact absurd rfl hx
end
end Go.Proofs.Ytjlhmgopmdcopaa

/- Ghost.load of a pool's ghost. -/
namespace Go.Proofs.Ytjlhmgopmdcopaa
open Go.RowKit

set_option maxRecDepth 100000 in
set_option maxHeartbeats 4000000 in
theorem load_hold {F : Nat} {fst cap : Array Value} {g : Nat} {id la : Int} {pk pe er : Int} {tm : Tm} {N : Nat → Prop} {Qn : World → Prop} {w : World} {p : Nat} {RR : World → Prop} (hi : (id == 0) = false) (hG : Gh w g (gc id (.func (.func F) fst cap) false la ⟨#[]⟩ 0 none (some ⟨p, 0, none⟩) none none)) (hF : Fet F fst cap g id pk pe er tm N Qn w) (hw : whyOf pk er tm = 0)
    (hh : ∀ W fb, Qn W → Kx (fun j => N j ∨ j = g) w W → Gh W g (gc id (.func (.func F) fst cap) false la tm.cOf tm.vOf (some ⟨fb, 0, none⟩) (some ⟨p, 0, none⟩) none none) → Calls Try.prog 56 #[.pointer (some ⟨p, 0, none⟩), .pointer (some ⟨g, 0, none⟩)] W fun e w' => e = .returned (.tuple #[]) ∧ RR w') :
    Calls Try.prog 35 #[.pointer (some ⟨g, 0, none⟩)] w fun e w' => e = .returned (.int .i64 0) ∧ RR w' := by
  have HH : Hid (∀ W fb, Qn W → Kx (fun j => N j ∨ j = g) w W → Gh W g (gc id (.func (.func F) fst cap) false la tm.cOf tm.vOf (some ⟨fb, 0, none⟩) (some ⟨p, 0, none⟩) none none) → Calls Try.prog 56 #[.pointer (some ⟨p, 0, none⟩), .pointer (some ⟨g, 0, none⟩)] W fun e w' => e = .returned (.tuple #[]) ∧ RR w') := hh
  have HC : Hid (Calls Try.prog 53 #[.pointer (some ⟨g, 0, none⟩)] w fun e w' => ∃ rv er', e = .returned (.tuple #[.pointer rv, .int .i64 er']) ∧ (er' ≠ 0 → whyOf pk er tm = er') ∧ (er' = 0 → whyOf pk er tm = tm.all.e ∧ tm.V w' (Fr w w') (.iface 32 (.pointer rv))) ∧ Kx N w w' ∧ Qn w' ∧ Gh w' g (gc id (.func (.func F) fst cap) false la ⟨#[]⟩ 0 none (some ⟨p, 0, none⟩) none none)) := load_call hG hF
  have HN : Hid (∀ j, N j → j < w.heap.size ∧ j ≠ g) := hF.2.1
  have HQ : Hid (Stb w.heap.size g Qn) := hF.2.2.1
  have HL : Hid (g < w.heap.size) := hG.lt
  rw [hw] at HC
  clear hG hF hw hh
  have hpq := poolne_s p
  have hpg := poolng_s p
  go_enter Try.func35, Try.ntmps35
  go_wp2_with fail
  refine HC.out.mono ?_
  rintro e w1 ⟨rv, er', rfl, h1, h2, hk, hq, hg⟩
  obtain rfl : er' = 0 := by by_cases h : er' = 0; exact h; exact absurd (h1 h).symm h
  obtain ⟨ha, hv⟩ := h2 rfl
  obtain ⟨b0, i0, f0, tx0, by0, rf0, l0, fs, c, vr, rb, af, cf, rfl, rfl, hrb, c0, c1, c2, hLV, hcs, hde⟩ := rec_ok hv ha.symm
  have HK : Hid (Calls Try.prog 9 #[.iface 32 (.pointer (some ⟨rb, 0, none⟩))] w1 fun e w' => e = .returned (.tuple #[.int .i64 (Tm.mk 10 b0 i0 f0 tx0 by0 rf0 l0 fs c vr).cAt, .int .i64 0]) ∧ Below w1.heap.size w1 w') := by
    have := Check_any (Tm.mk 10 b0 i0 f0 tx0 by0 rf0 l0 fs c vr) _ w1.heap.size w1 (Nat.le_refl _) (Tm.V_same (Same.refl _ _) (fun k hk => hk.2) _ _ hv); rw [← ha] at this; exact this
  have HR : Hid (Kx N w w1 ∧ Qn w1 ∧ Gh w1 g (gc id (.func (.func F) fst cap) false la ⟨#[]⟩ 0 none (some ⟨p, 0, none⟩) none none)) := ⟨hk, hq, hg⟩
  have HV : Hid (Fr w w1 rb ∧ w1.cell? ⟨rb, 0, none⟩ = some (.string c) ∧ w1.cell? ⟨rb, 1, none⟩ = some (.int .i64 vr) ∧ w1.cell? ⟨rb, 2, none⟩ = some (.slice af fs.len cf) ∧ fs.LV w1 (Fr w w1) af cf ∧ c.size ≤ 32 ∧ (dctT fs).all.e = 0) := ⟨hrb, c0, c1, c2, hLV, hcs, hde⟩
  clear h1 h2 hk hq hg ha hv hrb c0 c1 c2 hLV hcs hde HC
  generalize (Tm.mk 10 b0 i0 f0 tx0 by0 rf0 l0 fs c vr).cAt = at0 at HK
  go_wp2_with fail
  refine HK.out.mono ?_
  rintro e w2 ⟨rfl, hb2⟩
  have hs := hb2.size
  have hs1 := HR.out.1.size
  have hgr : g ≠ rb := by have := HV.out.1.1; have := HL.out; omega
  have hrl : rb < w1.heap.size := HV.out.1.2
  -- everything that the walk reads, in every world that leaves w2's blocks as they are
  have HW : Hid (∀ W, Below w2.heap.size w2 W → W.cell? ⟨rb, 0, none⟩ = some (.string c) ∧ W.cell? ⟨rb, 1, none⟩ = some (.int .i64 vr) ∧ W.cell? ⟨rb, 2, none⟩ = some (.slice af fs.len cf) ∧ Gh W g (gc id (.func (.func F) fst cap) false la ⟨#[]⟩ 0 none (some ⟨p, 0, none⟩) none none) ∧ fs.LV W (Fr w w1) af cf) := by
    intro W hW
    have hb : Below w1.heap.size w1 W := hb2.trans (hW.mono hs)
    refine ⟨by rw [hb.cell (p := ⟨rb, 0, none⟩) hrl]; exact HV.out.2.1, by rw [hb.cell (p := ⟨rb, 1, none⟩) hrl]; exact HV.out.2.2.1, by rw [hb.cell (p := ⟨rb, 2, none⟩) hrl]; exact HV.out.2.2.2.1, HR.out.2.2.keep (hb.block g (by have := HL.out; omega)), fs.LV_same (fun k hk => hb.block k hk.2) (fun _ h => h) af cf HV.out.2.2.2.2.1⟩
  have HB2 : Hid (Below w1.heap.size w1 w2) := hb2
  have HCl : Hid (∀ W, Calls Try.prog 54 #[.string c] W fun e w' => e = .returned (.string c) ∧ Below W.heap.size W w') := fun W => sClone_any c W (by have := HV.out.2.2.2.2.2.1; omega)
  obtain ⟨r0, r1, r2, rg, _⟩ := HW.out w2.drew (Below.refl _ _).drew
  have HRg : Hid (Gh w2.drew g (gc id (.func (.func F) fst cap) false la ⟨#[]⟩ 0 none (some ⟨p, 0, none⟩) none none)) := rg
  clear hb2 hs hs1 HK rg hrl
  go_wp2_with fail
  go_region_with ((go_at_call 54; refine (HCl.out _).mono ?_; rintro e w3 ⟨rfl, hb3⟩; have HB3 : Hid (Below w2.heap.size w2 w3) := (Below.refl _ _).drew.trans hb3; obtain ⟨s0, s1, s2, sg, _⟩ := HW.out w3 HB3.out; have s4 := sg.c4; have s5 := (sg.s4 c).c5; have z4 := sg.free 4; have z5 := (sg.s4 c).free 5; clear hb3 sg s0 s2))
  all_goals
    have HX : Hid (∃ X3, (w3.setCell ⟨g, 4, none⟩ (.string c)).setCell ⟨g, 5, none⟩ (.int .i64 vr) = X3 ∧ Gh X3 g (gc id (.func (.func F) fst cap) false la c vr none (some ⟨p, 0, none⟩) none none) ∧ Kx (· = g) w2 X3 ∧ X3.cell? ⟨rb, 2, none⟩ = some (.slice af fs.len cf) ∧ fs.LV X3 (Fr w w1) af cf) := by
      obtain ⟨_, _, q2, qg, qL⟩ := HW.out w3 HB3.out
      have hk3 : Kx (· = g) w2 ((w3.setCell ⟨g, 4, none⟩ (.string c)).setCell ⟨g, 5, none⟩ (.int .i64 vr)) := (Kx.setg (Kx.of HB3.out) _).setg _
      have far : ∀ k, k ≠ g → ((w3.setCell ⟨g, 4, none⟩ (.string c)).setCell ⟨g, 5, none⟩ (.int .i64 vr)).heap[k]? = w3.heap[k]? := fun k hk => (Below.heap_setCell _ _ _ _ hk).trans (Below.heap_setCell _ _ _ _ hk)
      refine ⟨_, rfl, (qg.s4 c).s5 vr, hk3, ?_, fs.LV_same (fun k hk => far k (by have := hk.1; have := HL.out; omega)) (fun _ h => h) af cf qL⟩
      rw [World.cell?_of_block (w := w3) (far rb (fun h => hgr h.symm))]; exact q2
    obtain ⟨X3, hX3, hXg, hXk, hX2, hXL⟩ := HX.out
    rw [hX3]
    clear HX hX3 HCl s1 s4 s5 z4 z5
    have x0 := hXg.c0
    have HX3 : Hid (Gh X3 g (gc id (.func (.func F) fst cap) false la c vr none (some ⟨p, 0, none⟩) none none) ∧ Kx (· = g) w2 X3) := ⟨hXg, hXk⟩
    have HNw : Hid (Calls Try.prog 55 #[.int .u64 id, .slice af fs.len cf] X3.drew fun e w' => ∃ b, e = .returned (.tuple #[.pointer (some ⟨b, 0, none⟩), .int .i64 0]) ∧ Below X3.heap.size X3.drew w' ∧ ThS w' (Fr X3 w') b id fs) := by
      refine New_fr id fs af cf X3.drew hi (fs.LV_same (w := X3) (w' := X3.drew) (B := Fr w w1) (fun _ _ => rfl) (fun k hk => ?_) af cf hXL) HV.out.2.2.2.2.2.2
      have h1 := HB2.out.size
      have h2 := hXk.size
      show k < X3.heap.size
      exact Nat.lt_of_lt_of_le (Nat.lt_of_lt_of_le hk.2 h1) h2
    clear hXg hXk hXL r0 r1 r2 HRg
    go_wp2_with fail
    go_region_with ((go_at_call 55; refine HNw.out.mono ?_; rintro e w4 ⟨fb, rfl, hb4, hT⟩; have HT4 : Hid (Below X3.heap.size X3 w4 ∧ ThS w4 (Fr X3 w4) fb id fs) := ⟨(Below.refl _ _).drew.trans hb4, hT⟩; have hg4 : Gh w4 g (gc id (.func (.func F) fst cap) false la c vr none (some ⟨p, 0, none⟩) none none) := HX3.out.1.keep (hb4.block g HX3.out.1.lt); have y6 := hg4.c6; have z6 := hg4.free 6; have y7 := (hg4.s6 (some ⟨fb, 0, none⟩)).c7; have HG4 : Hid (Gh w4 g (gc id (.func (.func F) fst cap) false la c vr none (some ⟨p, 0, none⟩) none none)) := hg4; clear hb4 hT hg4))
    all_goals
      have hl := HL.out
      have hl1 := HR.out.1.size
      have hl2 := HB2.out.size
      have hl3 := HX3.out.2.size
      have hk4 : Kx (· = g) w2 (w4.setCell ⟨g, 6, none⟩ (.pointer (some ⟨fb, 0, none⟩))) := (HX3.out.2.trans (.of HT4.out.1)).setg _
      have hk5 : Kx (fun j => N j ∨ j = g) w (w4.setCell ⟨g, 6, none⟩ (.pointer (some ⟨fb, 0, none⟩))) := ((HR.out.1.trans (.of HB2.out)).mono fun j h => .inl h).trans (hk4.mono fun j h => .inr h)
      have HFin : Hid (Calls Try.prog 56 #[.pointer (some ⟨p, 0, none⟩), .pointer (some ⟨g, 0, none⟩)] (w4.setCell ⟨g, 6, none⟩ (.pointer (some ⟨fb, 0, none⟩))) fun e w' => e = .returned (.tuple #[]) ∧ RR w') := HH.out _ fb (HQ.out w1 _ (by have := hk4.size; omega) (fun k hk hn _ => (hk4.block k (by omega) hn).trans (HB2.out.block k hk)) HR.out.2.1) hk5 (HG4.out.s6 _)
      clear hl hl1 hl2 hl3 hk4 hk5
      go_wp2_with fail
      refine HFin.out.mono ?_
      rintro e w5 ⟨rfl, hr⟩
      have HRR : Hid (RR w5) := hr
      clear hr
      go_wp2_with fail
      go_ret
      exact ⟨rfl, HRR.out⟩
end Go.Proofs.Ytjlhmgopmdcopaa

/- A pool's ghost that is asked: by Class. -/
namespace Go.Proofs.Ytjlhmgopmdcopaa
open Go.RowKit

section
variable {w : World} {p : Nat} {room : Int} {σ : Sta} {Z : List Int} {bz : Int}
theorem holdR_last (room : Int) (R : List Int) (i : Int) (h : 1 ≤ room) : ∃ A, holdR room R i = A ++ [i] := by
  unfold holdR
  by_cases hr : room < ((R.length : Nat) : Int) + 1
  · rw [if_pos hr]
    cases R with
    | nil => simp at hr; omega
    | cons x R => exact ⟨R, rfl⟩
  · rw [if_neg hr]; exact ⟨R, rfl⟩
/-- what a miss leaves -/
def Miss (w : World) (p : Nat) (fv : Value) (room : Int) (σ : Sta) (Z : List Int) (bz : Int) (i : Int) (T : Sta → Sta → Prop) (w' : World) : Prop :=
  ∃ σ', T { σ with ft := wrap64 (σ.ft + 1) } σ' ∧ PS w' p fv room { σ' with R := holdR room σ'.R i } Z bz ∧ Mv p Z w σ w' { σ' with R := holdR room σ'.R i }

theorem load_miss {FF : Nat} {fcap : Array Value} {tm : Tm} {b0 : Nat} {w0 : World} {i : Int} {T : Sta → Sta → Prop} (h : PS w p (.func (.func FF) #[] fcap) room σ Z bz) (hi : i ∈ σ.Kn) (hR : i ∉ σ.R) (hZ : i ∉ Z) 
    (hcf : ∀ W, Sem.run Try.prog (callFunc FF (#[.int .u64 i] ++ fcap)) W = .ok (.enter FF (#[.int .u64 i] ++ fcap)) W) (hge : ∀ j, OwnP p σ.mp σ.κ σ.Kn j → b0 ≤ j) (hE : ∀ j, j < b0 → w.heap[j]? = w0.heap[j]?) (hRl : ((σ.R.length : Nat) : Int) ≤ room)
    (hFC : FC FF fcap p (.func (.func FF) #[] fcap) room tm b0 w0 (i :: Z) i T (bz + 1)) (hb : 0 ≤ bz ∧ bz < 1000) (ht : tm.all.e = 0 ∧ tm.cOf = ⟨#[97]⟩ ∧ tm.vOf = 1) (hT : ∀ σ', T { σ with ft := wrap64 (σ.ft + 1) } σ' → σ'.R.length < 2305843009213693952) :
    Calls Try.prog 35 #[.pointer (some ⟨σ.κ i, 0, none⟩)] w fun e w' => e = .returned (.int .i64 0) ∧ Miss w p (.func (.func FF) #[] fcap) room σ Z bz i T w' := by
  have hg : Gh w (σ.κ i) (gc i (.func (.func 39) #[.pointer (some ⟨p, 0, none⟩)] #[]) false 0 ⟨#[]⟩ 0 none (some ⟨p, 0, none⟩) none none) := h.free i hi hR hZ
  have hz := h.toz (i := i) hR
  have hib := h.rng i hi
  have hF : Fet 39 #[.pointer (some ⟨p, 0, none⟩)] #[] (σ.κ i) i 0 0 0 tm (OwnZ p σ.mp σ.κ σ.Kn (i :: Z)) (fun X => ∃ σ', T { σ with ft := wrap64 (σ.ft + 1) } σ' ∧ PS X p (.func (.func FF) #[] fcap) room σ' (i :: Z) bz ∧ (∀ j, OwnP p σ'.mp σ'.κ σ'.Kn j → OwnP p σ.mp σ.κ σ.Kn j ∨ w.heap.size + 5 ≤ j) ∧ (∀ k ∈ σ.Kn, k ∈ σ'.Kn ∧ σ'.κ k = σ.κ k)) w := by
    refine ⟨fun W => by kernel_rfl, fun j hj => ⟨h.ownLt hj.1, hj.2 i List.mem_cons_self hi⟩, fun X Y hs hXY ⟨σ', q1, q2, q3, q4⟩ => ⟨σ', q1, q2.keep hs (fun j hj hjz => ?_), q3, q4⟩, fun W hW h5 => ?_⟩
    · refine hXY j (q2.ownLt hj) ?_ ?_
      · have := hjz i List.mem_cons_self (q4 i hi).1; rw [(q4 i hi).2] at this; exact this
      · rcases q3 j hj with h1 | h1
        · exact .inl (h.ownLt h1)
        · exact .inr h1
    · have hW2 : PS W p (.func (.func FF) #[] fcap) room σ (i :: Z) bz := hz.keep hW.size (fun j hj hjz => hW.block j (h.ownLt hj) (hjz i List.mem_cons_self hi))
      refine (counted_any hW2 hcf hge (fun j hj => (hW.block j ?_ ?_).trans (hE j hj)) hRl hFC hb).mono ?_
      · have := hge p (.inl rfl); have := h.pool.lt; omega
      · intro e; have := hge (σ.κ i) (.inr (.inr ⟨i, hi, rfl⟩)); omega
      · rintro e w' ⟨h1, σ', h2, h3, h4⟩
        refine ⟨h1, h4.kx, σ', h2, h3, fun j hj => ?_, h4.ext⟩
        rcases h4.own j hj with q | q
        · exact .inl q
        · exact .inr (by omega)
  refine load_hold (by simp; omega) hg hF (by simp [whyOf, ht.1]) ?_
  rintro W fb ⟨σ', q1, q2, q3, q4⟩ hk hrow'
  rw [ht.2.1, ht.2.2] at hrow'
  obtain ⟨q5, q6⟩ := q4 i hi
  have hh := hold_any (σ := σ') (Z := Z) (i := i) (fb := fb) q2 q5 hZ (by rw [q6]; exact hrow') (hT σ' q1)
  rw [q6] at hh
  refine hh.mono ?_
  rintro e w' ⟨rfl, h1, h2⟩
  refine ⟨rfl, σ', q1, h1, Mv.trans ⟨hk.mono fun j hj => ?_, fun j hj => (q3 j hj).imp id (fun h => by omega), q4⟩ h2⟩
  rcases hj with hj | rfl
  · exact ⟨hj.1, fun z hz1 hz2 => hj.2 z (List.mem_cons_of_mem _ hz1) hz2⟩
  · exact ⟨.inr (.inr ⟨i, hi, rfl⟩), fun z hz1 hz2 e => hZ (by rw [h.inj i hi z hz2 e]; exact hz1)⟩

theorem Load_miss {FF : Nat} {fcap : Array Value} {tm : Tm} {b0 : Nat} {w0 : World} {i : Int} {T : Sta → Sta → Prop} (h : PS w p (.func (.func FF) #[] fcap) room σ Z bz) (hi : i ∈ σ.Kn) (hR : i ∉ σ.R) (hZ : i ∉ Z) (hr : 1 ≤ room)
    (hcf : ∀ W, Sem.run Try.prog (callFunc FF (#[.int .u64 i] ++ fcap)) W = .ok (.enter FF (#[.int .u64 i] ++ fcap)) W) (hge : ∀ j, OwnP p σ.mp σ.κ σ.Kn j → b0 ≤ j) (hE : ∀ j, j < b0 → w.heap[j]? = w0.heap[j]?) (hRl : ((σ.R.length : Nat) : Int) ≤ room)
    (hFC : FC FF fcap p (.func (.func FF) #[] fcap) room tm b0 w0 (i :: Z) i T (bz + 1)) (hb : 0 ≤ bz ∧ bz < 1000) (ht : tm.all.e = 0 ∧ tm.cOf = ⟨#[97]⟩ ∧ tm.vOf = 1) (hT : ∀ σ', T { σ with ft := wrap64 (σ.ft + 1) } σ' → σ'.R.length < 2305843009213693952) :
    Calls Try.prog 15 #[.pointer (some ⟨σ.κ i, 0, none⟩)] w fun e w' => e = .returned (.int .i64 0) ∧ Miss w p (.func (.func FF) #[] fcap) room σ Z bz i T w' := by
  have rowOf : ∀ w', Miss w p (.func (.func FF) #[] fcap) room σ Z bz i T w' → ∃ fb ol nw, Gh w' (σ.κ i) (hrow p i fb ol nw) := by
    rintro w' ⟨σ', q1, q2, q3⟩
    obtain ⟨A, hA⟩ := holdR_last room σ'.R i hr
    obtain ⟨fb, hrw⟩ := q2.held A i [] hA
    have := (q3.ext i hi).2
    rw [show ({ σ' with R := holdR room σ'.R i } : Sta).κ i = σ.κ i from this] at hrw
    exact ⟨fb, _, _, hrw⟩
  refine (Load_of (why := 0) (R := fun w' => Miss w p (.func (.func FF) #[] fcap) room σ Z bz i T w') (h.free i hi hR hZ) ((load_miss h hi hR hZ hcf hge hE hRl hFC hb ht hT).mono ?_)).mono ?_
  · rintro e w' ⟨rfl, hm⟩
    obtain ⟨fb, ol, nw, hrw⟩ := rowOf w' hm
    exact ⟨rfl, ⟨_, _, _, _, _, _, _, _, hrw⟩, hm⟩
  · rintro e w' ⟨rfl, w1, hm, rfl⟩
    obtain ⟨fb, ol, nw, hrw⟩ := rowOf w1 hm
    have same : ∀ j : Nat, (w1.setCell ⟨σ.κ i, 3, none⟩ (.int .i64 0)).heap[j]? = w1.heap[j]? := fun j => by
      by_cases e : j = σ.κ i
      · subst e; exact (hrw.s3 0).trans hrw.symm
      · exact Below.heap_setCell _ _ _ _ e
    obtain ⟨σ', q1, q2, q3⟩ := hm
    refine ⟨rfl, σ', q1, q2.keep (by simp [World.setCell]) (fun j _ _ => same j), ⟨q3.kx.os, q3.kx.tape, q3.kx.output, by simpa [World.setCell] using q3.kx.size, fun j h1 h2 => (same j).trans (q3.kx.block j h1 h2)⟩, q3.own, q3.ext⟩

set_option maxRecDepth 100000 in
set_option maxHeartbeats 2000000 in
theorem asked_use {g : Nat} {P Q : World → Prop} (hl : Calls Try.prog 15 #[.pointer (some ⟨g, 0, none⟩)] w fun e w' => e = .returned (.int .i64 0) ∧ w'.cell? ⟨g, 7, none⟩ = some (.pointer (some ⟨p, 0, none⟩)) ∧ P w')
    (hu : ∀ w', P w' → Calls Try.prog 48 #[.pointer (some ⟨p, 0, none⟩), .pointer (some ⟨g, 0, none⟩)] w' fun e w2 => e = .returned (.tuple #[]) ∧ Q w2) :
    Calls Try.prog 33 #[.pointer (some ⟨g, 0, none⟩)] w fun e w' => e = .returned (.tuple #[]) ∧ Q w' := by
  have HL : Hid (Calls Try.prog 15 #[.pointer (some ⟨g, 0, none⟩)] w fun e w' => e = .returned (.int .i64 0) ∧ w'.cell? ⟨g, 7, none⟩ = some (.pointer (some ⟨p, 0, none⟩)) ∧ P w') := hl
  have HU : Hid (∀ w', P w' → Calls Try.prog 48 #[.pointer (some ⟨p, 0, none⟩), .pointer (some ⟨g, 0, none⟩)] w' fun e w2 => e = .returned (.tuple #[]) ∧ Q w2) := hu
  have hpq := poolne_s p
  have hpg := poolng_s p
  clear hl hu
  go_enter Try.func33, Try.ntmps33
  go_wp2_with fail
  refine HL.out.mono ?_
  rintro e w1 ⟨rfl, c7, hp⟩
  have HC := HU.out w1 hp
  clear hp HL HU
  go_wp2_with fail
  refine HC.mono ?_
  rintro e w2 ⟨rfl, hq⟩
  have HQ : Hid (Q w2) := hq
  clear hq HC
  go_wp2_with fail
  go_end0
  exact ⟨rfl, HQ.out⟩

/-- what a hit leaves -/
theorem Class_hit {fv : Value} {A B : List Int} {i : Int} (h : PS w p fv room σ Z bz) (hR : σ.R = A ++ i :: B) (hl : σ.R.length < 4611686018427387904) :
    Calls Try.prog 13 #[.pointer (some ⟨σ.κ i, 0, none⟩)] w fun e w' => e = .returned (.string ⟨#[97]⟩) ∧ PS w' p fv room { σ with R := A ++ B ++ [i] } Z bz ∧ Mv p Z w σ w' { σ with R := A ++ B ++ [i] } := by
  obtain ⟨fb, hg⟩ := h.held A i B hR
  refine Class_of (P := fun w' => PS w' p fv room { σ with R := A ++ B ++ [i] } Z bz ∧ Mv p Z w σ w' { σ with R := A ++ B ++ [i] }) (asked_use (p := p) (P := fun w' => w = w') ((Load_has hg).mono ?_) ?_) ?_
  · rintro e w' ⟨rfl, rfl⟩; exact ⟨rfl, hg.c7, rfl⟩
  · rintro w' rfl; exact use_any h hR hl
  · rintro w' ⟨h1, _⟩
    obtain ⟨fb, hr⟩ := h1.held (A ++ B) i [] rfl
    exact hr.c4

theorem Class_miss {FF : Nat} {fcap : Array Value} {tm : Tm} {b0 : Nat} {w0 : World} {i : Int} {T : Sta → Sta → Prop} (h : PS w p (.func (.func FF) #[] fcap) room σ Z bz) (hi : i ∈ σ.Kn) (hR : i ∉ σ.R) (hZ : i ∉ Z) (hr : 1 ≤ room ∧ room < 1152921504606846976)
    (hcf : ∀ W, Sem.run Try.prog (callFunc FF (#[.int .u64 i] ++ fcap)) W = .ok (.enter FF (#[.int .u64 i] ++ fcap)) W) (hge : ∀ j, OwnP p σ.mp σ.κ σ.Kn j → b0 ≤ j) (hE : ∀ j, j < b0 → w.heap[j]? = w0.heap[j]?) (hRl : ((σ.R.length : Nat) : Int) ≤ room)
    (hFC : FC FF fcap p (.func (.func FF) #[] fcap) room tm b0 w0 (i :: Z) i T (bz + 1)) (hb : 0 ≤ bz ∧ bz < 1000) (ht : tm.all.e = 0 ∧ tm.cOf = ⟨#[97]⟩ ∧ tm.vOf = 1) (hT : ∀ σ', T { σ with ft := wrap64 (σ.ft + 1) } σ' → σ'.R.length < 2305843009213693952) :
    Calls Try.prog 13 #[.pointer (some ⟨σ.κ i, 0, none⟩)] w fun e w' => e = .returned (.string ⟨#[97]⟩) ∧ Miss w p (.func (.func FF) #[] fcap) room σ Z bz i T w' := by
  have rowOf : ∀ w', Miss w p (.func (.func FF) #[] fcap) room σ Z bz i T w' → ∃ fb ol nw, Gh w' (σ.κ i) (hrow p i fb ol nw) := by
    rintro w' ⟨σ', q1, q2, q3⟩
    obtain ⟨A, hA⟩ := holdR_last room σ'.R i hr.1
    obtain ⟨fb, hrw⟩ := q2.held A i [] hA
    have := (q3.ext i hi).2
    rw [show ({ σ' with R := holdR room σ'.R i } : Sta).κ i = σ.κ i from this] at hrw
    exact ⟨fb, _, _, hrw⟩
  refine Class_of (P := fun w' => Miss w p (.func (.func FF) #[] fcap) room σ Z bz i T w') (asked_use (p := p) (P := fun w' => Miss w p (.func (.func FF) #[] fcap) room σ Z bz i T w') ((Load_miss h hi hR hZ hr.1 hcf hge hE hRl hFC hb ht hT).mono ?_) ?_) ?_
  · rintro e w' ⟨rfl, hm⟩
    obtain ⟨fb, ol, nw, hrw⟩ := rowOf w' hm
    exact ⟨rfl, hrw.c7, hm⟩
  · rintro w' ⟨σ', q1, q2, q3⟩
    obtain ⟨A, hA⟩ := holdR_last room σ'.R i hr.1
    have hu := use_any (σ := { σ' with R := holdR room σ'.R i }) (A := A) (B := []) (i := i) q2 (by rw [show ({ σ' with R := holdR room σ'.R i } : Sta).R = A ++ [i] from hA]) (by
      show (holdR room σ'.R i).length < _
      have := hT σ' q1
      unfold holdR; split
      · simp; omega
      · simp; omega)
    rw [show ({ σ' with R := holdR room σ'.R i } : Sta).κ i = σ.κ i from (q3.ext i hi).2] at hu
    refine hu.mono ?_
    rintro e w2 ⟨rfl, h1, h2⟩
    have e1 : A ++ [] ++ [i] = holdR room σ'.R i := by rw [hA]; simp
    rw [e1] at h1 h2
    exact ⟨rfl, σ', q1, h1, q3.trans h2⟩
  · intro w' hm
    obtain ⟨fb, ol, nw, hrw⟩ := rowOf w' hm
    exact hrw.c4
end
end Go.Proofs.Ytjlhmgopmdcopaa

/- Pool.At: the ghost of an identity; NewPool. -/
namespace Go.Proofs.Ytjlhmgopmdcopaa
open Go.RowKit Go.ChangeMaps

def updK (κ : Int → Nat) (i : Int) (b : Nat) : Int → Nat := fun x => if x = i then b else κ x
theorem updK_self (κ : Int → Nat) (i : Int) (b : Nat) : updK κ i b i = b := by simp [updK]
theorem updK_ne (κ : Int → Nat) {i x : Int} (b : Nat) (h : x ≠ i) : updK κ i b x = κ x := by simp [updK, h]
theorem headP_congr {κ κ' : Int → Nat} {R : List Int} (h : ∀ x ∈ R, κ' x = κ x) : headP κ' R = headP κ R := by
  cases R with
  | nil => rfl
  | cons a R => simp [headP, ptr, h a (by simp)]
theorem lastP_congr {κ κ' : Int → Nat} {R : List Int} (h : ∀ x ∈ R, κ' x = κ x) : lastP κ' R = lastP κ R := by
  rcases List.eq_nil_or_concat R with rfl | ⟨R0, a, rfl⟩
  · rfl
  · rw [List.concat_eq_append] at h ⊢
    rw [lastP_end, lastP_end, h a (by simp)]

section
variable {w : World} {p : Nat} {fv : Value} {room : Int} {σ : Sta} {Z : List Int} {bz : Int}
set_option maxRecDepth 100000 in
set_option maxHeartbeats 2000000 in
theorem At_known {i : Int} (h : PS w p fv room σ Z bz) (hi : i ∈ σ.Kn) :
    Calls Try.prog 24 #[.pointer (some ⟨p, 0, none⟩), .int .u64 i] w fun e w' => e = .returned (.tuple #[.pointer (some ⟨σ.κ i, 0, none⟩), .int .i64 0]) ∧ w = w' := by
  obtain ⟨i0, i1⟩ := h.rng i hi
  rcases h.map with ⟨_, hk⟩ | ⟨m, es, ck, hm, hmp⟩
  · rw [hk] at hi; cases hi
  · have hb : (i == 0) = false := by simp; omega
    have hlk : (Instr.lookup 83 (.map (some m)) (.int .u64 i) true).run Try.prog w = .ok (.tuple #[.pointer (some ⟨σ.κ i, 0, none⟩), .bool true]) w := by
      rcases hmp.lookup (by omega) i1 with ⟨_, hno⟩ | ⟨b, h1, h2⟩
      · exact absurd rfl (hno (i, σ.κ i) (List.mem_map.2 ⟨i, hi, rfl⟩))
      · obtain ⟨x, _, e⟩ := List.mem_map.1 h2
        injection e with e1 e2
        subst e1
        rw [e2]; exact h1
    have c2 := h.pool.c2
    rw [hm] at c2
    have hq := eqlG_some m
    clear h hi i0 i1 hm hmp
    generalize σ.κ i = g at hlk ⊢
    go_enter Try.func24, Try.ntmps24
    go_wp2_with fail
    go_ret2
    exact ⟨rfl, rfl⟩

/-- a map is made -/
theorem PI.mapped {κ : Int → Nat} {Kn R : List Int} {mp : Option Nat} {ft : Int} (h : PI w p fv room κ Kn R Z mp bz ft) (hm : mp = none) : Kn = [] ∧ PI ((w.alloc (.map #[] 0)).setCell ⟨p, 2, none⟩ (.map (some w.heap.size))) p fv room κ Kn R Z (some w.heap.size) bz ft ∧ MpR ((w.alloc (.map #[] 0)).setCell ⟨p, 2, none⟩ (.map (some w.heap.size))) w.heap.size (Kn.map fun i => (i, κ i)) #[] 0 := by
  have hK : Kn = [] := by
    rcases h.map with ⟨_, h2⟩ | ⟨m, _, _, h1, _⟩
    · exact h2
    · rw [hm] at h1; cases h1
  subst hK
  have hl := h.pool.lt
  have hmr : MpR ((w.alloc (.map #[] 0)).setCell ⟨p, 2, none⟩ (.map (some w.heap.size))) w.heap.size (([] : List Int).map fun i => (i, κ i)) #[] 0 :=
    ⟨(Below.heap_setCell _ _ _ _ (by show w.heap.size ≠ p; omega)).trans (heap_alloc_last _ _), rfl, fun j x g hx => by simp at hx⟩
  refine ⟨rfl, ⟨?_, .inr ⟨_, _, _, rfl, hmr⟩, h.nd, h.sub, h.inj, h.np, (fun i hi => by cases hi), (fun e => by injection e with e; omega), h.rng, (fun i hi => by cases hi), h.zr, (fun i hi => by cases hi), (fun A i B e => by have := h.sub i (by rw [e]; simp); cases this)⟩, hmr⟩
  have hp : Pl (w.alloc (.map #[] 0)) p (pc room fv mp (headP κ R) (lastP κ R) R.length bz ft) := h.pool.keep (Below.heap_alloc _ _ _ hl)
  exact hp.s2 _

/-- a new ghost -/
theorem PI.grown {κ : Int → Nat} {Kn R : List Int} {m : Nat} {ft : Int} {i : Int} {es es' : Array MapEntry} {ck ck' : Nat} (h : PI w p fv room κ Kn R Z (some m) bz ft) (hi : i ∉ Kn) (hb : 0 < i ∧ i < 18446744073709551616)
    (_hm : MpR w m (Kn.map fun i => (i, κ i)) es ck) (hm' : MpR (setBlock (w.alloc (.cells (frow p i) 78)) m (.map es' ck')) m ((Kn.map fun i => (i, κ i)) ++ [(i, w.heap.size)]) es' ck') :
    PI (setBlock (w.alloc (.cells (frow p i) 78)) m (.map es' ck')) p fv room (updK κ i w.heap.size) (Kn ++ [i]) R Z (some m) bz ft := by
  have hml := h.mapLt rfl
  have hpl := h.pool.lt
  have hiR : i ∉ R := fun e => hi (h.sub i e)
  have hk : ∀ x ∈ Kn, updK κ i w.heap.size x = κ x := fun x hx => updK_ne κ _ (fun e => hi (e ▸ hx))
  have hkR : ∀ x ∈ R, updK κ i w.heap.size x = κ x := fun x hx => hk x (h.sub x hx)
  have far : ∀ j, j < w.heap.size → j ≠ m → (setBlock (w.alloc (.cells (frow p i) 78)) m (.map es' ck')).heap[j]? = w.heap[j]? := fun j h1 h2 => (setG_other h2).trans (Below.heap_alloc _ _ _ h1)
  have hsz : w.heap.size < (setBlock (w.alloc (.cells (frow p i) 78)) m (.map es' ck')).heap.size := by rw [setG_size]; simp
  have hpm : p ≠ m := fun e => h.pm (by rw [e])
  have hkm : ∀ x ∈ Kn, κ x ≠ m := fun x hx e => h.nm x hx (by rw [e])
  refine ⟨?_, .inr ⟨m, es', ck', rfl, ?_⟩, h.nd, fun x hx => List.mem_append_left _ (h.sub x hx), ?_, ?_, ?_, h.pm, ?_, ?_, h.zr, ?_, ?_⟩
  · rw [headP_congr hkR, lastP_congr hkR]; exact h.pool.keep (far p hpl hpm)
  · have : (Kn ++ [i]).map (fun x => (x, updK κ i w.heap.size x)) = (Kn.map fun i => (i, κ i)) ++ [(i, w.heap.size)] := by
      rw [List.map_append]
      congr 1
      · exact List.map_congr_left fun x hx => by rw [hk x hx]
      · simp [updK_self]
    rw [this]; exact hm'
  · intro x hx y hy e
    rcases List.mem_append.1 hx with hx1 | hx1 <;> rcases List.mem_append.1 hy with hy1 | hy1
    · rw [hk x hx1, hk y hy1] at e; exact h.inj x hx1 y hy1 e
    · rw [hk x hx1, List.mem_singleton.1 hy1, updK_self] at e; have := h.lt x hx1; omega
    · rw [hk y hy1, List.mem_singleton.1 hx1, updK_self] at e; have := h.lt y hy1; omega
    · rw [List.mem_singleton.1 hx1, List.mem_singleton.1 hy1]
  · intro x hx
    rcases List.mem_append.1 hx with hx | hx
    · rw [hk x hx]; exact h.np x hx
    · simp at hx; subst hx; rw [updK_self]; omega
  · intro x hx e
    injection e with e
    rcases List.mem_append.1 hx with hx | hx
    · rw [hk x hx] at e; exact hkm x hx e.symm
    · simp at hx; subst hx; rw [updK_self] at e; omega
  · intro x hx
    rcases List.mem_append.1 hx with hx | hx
    · exact h.rng x hx
    · simp at hx; subst hx; exact hb
  · intro x hx
    rcases List.mem_append.1 hx with hx | hx
    · rw [hk x hx]; exact Nat.lt_trans (h.lt x hx) hsz
    · simp at hx; subst hx; rw [updK_self]; exact hsz
  · intro x hx h1 h2
    rcases List.mem_append.1 hx with hx | hx
    · rw [hk x hx]; exact (h.free x hx h1 h2).keep (far _ (h.lt x hx) (hkm x hx))
    · simp at hx; subst hx; rw [updK_self]
      exact (setG_other (by omega)).trans (heap_alloc_last _ _)
  · intro A x B e
    obtain ⟨fb, hr⟩ := h.held A x B e
    have hxR : x ∈ R := by rw [e]; simp
    have hx := h.sub x hxR
    refine ⟨fb, ?_⟩
    rw [hk x hx, headP_congr (κ := κ) (fun y hy => hkR y (by rw [e]; simp [hy])), lastP_congr (κ := κ) (fun y hy => hkR y (by rw [e]; simp [hy]))]
    exact hr.keep (far _ (h.lt x hx) (hkm x hx))

/-- what At of a new identity leaves -/
def Grew (w : World) (p : Nat) (fv : Value) (room : Int) (σ : Sta) (Z : List Int) (bz : Int) (i : Int) (b : Nat) (w' : World) : Prop :=
  ∃ m, PS w' p fv room { σ with κ := updK σ.κ i b, Kn := σ.Kn ++ [i], mp := some m } Z bz ∧ Mv p Z w σ w' { σ with κ := updK σ.κ i b, Kn := σ.Kn ++ [i], mp := some m }

set_option maxRecDepth 100000 in
set_option maxHeartbeats 2000000 in
theorem At_new {i : Int} (h : PS w p fv room σ Z bz) (hi : i ∉ σ.Kn) (hib : 0 < i ∧ i < 18446744073709551616) :
    Calls Try.prog 24 #[.pointer (some ⟨p, 0, none⟩), .int .u64 i] w fun e w' => ∃ b, e = .returned (.tuple #[.pointer (some ⟨b, 0, none⟩), .int .i64 0]) ∧ Grew w p fv room σ Z bz i b w' := by
  have hmf : ∀ (fn : Fn) (first cap : Array Value) (w : World), (Instr.makeFunc fn first cap).run Try.prog w = .ok (.func fn first cap) w := fun _ _ _ _ => rfl
  have hib0 : (i == 0) = false := by simp; omega
  have core : ∀ W m es ck, PI W p fv room σ.κ σ.Kn σ.R Z (some m) bz σ.ft → MpR W m (σ.Kn.map fun i => (i, σ.κ i)) es ck → (Instr.lookup 83 (.map (some m)) (.int .u64 i) true).run Try.prog W = .ok (.tuple #[.pointer none, .bool false]) W ∧ ∃ Y, (Instr.mapUpdate 83 (.map (some m)) (.int .u64 i) (.pointer (some ⟨W.heap.size, 0, none⟩))).run Try.prog (W.alloc (.cells (frow p i) 78)) = .ok () Y ∧ PI Y p fv room (updK σ.κ i W.heap.size) (σ.Kn ++ [i]) σ.R Z (some m) bz σ.ft ∧ W.heap.size < Y.heap.size ∧ Y.os = W.os ∧ Y.tape = W.tape ∧ Y.output = W.output ∧ ∀ j, j < W.heap.size → j ≠ m → Y.heap[j]? = W.heap[j]? := by
    intro W m es ck hW hm
    have hno : ∀ g ∈ (σ.Kn.map fun i => (i, σ.κ i)), g.1 ≠ i := fun g hg e => by obtain ⟨x, hx, rfl⟩ := List.mem_map.1 hg; exact hi (e ▸ hx)
    have hml := hW.mapLt rfl
    refine ⟨?_, ?_⟩
    · rcases hm.lookup (by omega) hib.2 with ⟨h1, _⟩ | ⟨b, _, h2⟩
      · exact h1
      · exact absurd rfl (hno _ h2)
    · have hm1 : MpR (W.alloc (.cells (frow p i) 78)) m (σ.Kn.map fun i => (i, σ.κ i)) es ck := ⟨(Below.heap_alloc _ _ _ hml).trans hm.blk, hm.len, hm.ent⟩
      obtain ⟨es', ck', h1, h2⟩ := hm1.update (x := i) (by omega) hib.2 hno W.heap.size
      exact ⟨_, h1, hW.grown hi hib hm h2, by rw [setG_size]; simp, rfl, rfl, rfl, fun j hj1 hj2 => (setG_other hj2).trans (Below.heap_alloc _ _ _ hj1)⟩
  have hpz : OwnZ p σ.mp σ.κ σ.Kn Z p := ⟨.inl rfl, fun z _ hz2 e => h.np z hz2 e.symm⟩
  have hln := h.lt
  rcases hq : σ.mp with _ | m
  · obtain ⟨hK, hW, hm⟩ := h.mapped hq
    obtain ⟨X, hX⟩ : ∃ X, (w.alloc (.map #[] 0)).setCell ⟨p, 2, none⟩ (.map (some w.heap.size)) = X := ⟨_, rfl⟩
    rw [hX] at hW hm
    obtain ⟨hlk, Y, hup, hY, hs, ho, ht, hou, hY2⟩ := core X _ _ _ hW hm
    have hXs : X.heap.size = w.heap.size + 1 := by rw [← hX]; simp [World.setCell]
    have hXk : Kx (· = p) w X := by rw [← hX]; exact Kx.setg ((Kx.refl _ _).alloc _) _
    have HR : Hid (Grew w p fv room σ Z bz i X.heap.size Y) := by
      refine ⟨w.heap.size, hY, ⟨⟨ho.trans hXk.os, ht.trans hXk.tape, hou.trans hXk.output, by omega, fun j h1 h2 => (hY2 j (by omega) (by omega)).trans (hXk.block j h1 (fun e => h2 (by subst e; exact hpz)))⟩, fun j hj => ?_, fun x hx => by rw [hK] at hx; cases hx⟩⟩
      rcases hj with rfl | e | ⟨x, hx, rfl⟩
      · exact .inl (.inl rfl)
      · right; injection e with e; omega
      · right
        have hx' : x = i := by have : x ∈ σ.Kn ++ [i] := hx; rw [hK] at this; simpa using this
        subst hx'
        show w.heap.size ≤ updK σ.κ x X.heap.size x
        rw [updK_self]; omega
    have c2 := h.pool.c2
    rw [hq] at c2
    have p0 : Pl (w.alloc (.map #[] 0)) p (pc room fv σ.mp (headP σ.κ σ.R) (lastP σ.κ σ.R) (σ.R.length : Nat) bz σ.ft) := h.pool.keep (Below.heap_alloc _ _ _ h.pool.lt)
    have c3 := p0.c2
    rw [hq] at c3
    have z3 := p0.free 2
    have c4 : X.cell? ⟨p, 2, none⟩ = some (.map (some w.heap.size)) := hW.pool.c2
    have p5 : Pl (X.alloc (.cells (frow p i) 78)) p _ := hW.pool.keep (Below.heap_alloc _ _ _ hW.pool.lt)
    have c5 : (X.alloc (.cells (frow p i) 78)).cell? ⟨p, 2, none⟩ = some (.map (some w.heap.size)) := p5.c2
    have hq1 := eqlG_none
    have hmk := mk_mapG w
    clear h hW hm hY hY2 core p0 p5 hK hq hpz hln hi hXk hXs
    unfold frow gc cfn at c5 hup
    go_enter Try.func24, Try.ntmps24
    go_wp2_with fail
    go_ret2
    exact ⟨_, rfl, HR.out⟩
  · have hW : PI w p fv room σ.κ σ.Kn σ.R Z (some m) bz σ.ft := by rw [← hq]; exact h
    obtain ⟨es, ck, hm⟩ : ∃ es ck, MpR w m (σ.Kn.map fun i => (i, σ.κ i)) es ck := by
      rcases h.map with ⟨e, _⟩ | ⟨m', es, ck, e, hm⟩
      · rw [hq] at e; cases e
      · rw [hq] at e; injection e with e; subst e; exact ⟨es, ck, hm⟩
    obtain ⟨hlk, Y, hup, hY, hs, ho, ht, hou, hY2⟩ := core w _ _ _ hW hm
    have HR : Hid (Grew w p fv room σ Z bz i w.heap.size Y) := by
      have hmz : OwnZ p σ.mp σ.κ σ.Kn Z m := ⟨.inr (.inl hq), fun z _ hz2 e => h.nm z hz2 (by rw [hq, e])⟩
      refine ⟨m, hY, ⟨⟨ho, ht, hou, by omega, fun j h1 h2 => hY2 j h1 (fun e => h2 (by subst e; exact hmz))⟩, fun j hj => ?_, fun x hx => ⟨List.mem_append_left _ hx, updK_ne _ _ (fun e => hi (e ▸ hx))⟩⟩⟩
      rcases hj with rfl | e | ⟨x, hx, rfl⟩
      · exact .inl (.inl rfl)
      · exact .inl (.inr (.inl (by rw [hq]; exact e)))
      · rcases List.mem_append.1 hx with hx | hx
        · left; refine .inr (.inr ⟨x, hx, ?_⟩); exact updK_ne _ _ (fun e => hi (e ▸ hx))
        · right
          simp at hx; subst hx
          show w.heap.size ≤ updK σ.κ x w.heap.size x
          rw [updK_self]; exact Nat.le_refl _
    have c2 := hW.pool.c2
    have p5 : Pl (w.alloc (.cells (frow p i) 78)) p _ := hW.pool.keep (Below.heap_alloc _ _ _ hW.pool.lt)
    have c5 : (w.alloc (.cells (frow p i) 78)).cell? ⟨p, 2, none⟩ = some (.map (some m)) := p5.c2
    have hq1 := eqlG_some m
    clear h hW hm hY hY2 core p5 hq hpz hln hi
    unfold frow gc cfn at c5 hup
    go_enter Try.func24, Try.ntmps24
    go_wp2_with fail
    go_ret2
    exact ⟨_, rfl, HR.out⟩

set_option maxRecDepth 100000 in
set_option maxHeartbeats 2000000 in
theorem NewPool_any (room : Int) (FF : Nat) (fcap : Array Value) (w : World) (h1 : 1 ≤ room) (h2 : room ≤ 4096) :
    Calls Try.prog 21 #[.int .i64 room, .func (.func FF) #[] fcap] w fun e w' => e = .returned (.tuple #[.pointer (some ⟨w.heap.size, 0, none⟩), .int .i64 0]) ∧ PS w' w.heap.size (.func (.func FF) #[] fcap) room ⟨fun _ => 0, [], [], none, 0⟩ [] 0 ∧ Below w.heap.size w w' := by
  have hfn : ∀ W, Sem.run Try.prog (binOp .eql 40 (.func (.func FF) #[] fcap) .nilFunc) W = .ok (.bool false) W := fun W => by kernel_rfl
  have hfg : ∀ x y W, Sem.run Try.prog (eqGuard .eql 40 x y (.func (.func FF) #[] fcap) .nilFunc) W = .ok () W := fun x y W => by kernel_rfl
  have HP : Hid (PS (w.alloc (.cells (pc room (.func (.func FF) #[] fcap) none none none 0 0 0) 87)) w.heap.size (.func (.func FF) #[] fcap) room ⟨fun _ => 0, [], [], none, 0⟩ [] 0 ∧ Below w.heap.size w (w.alloc (.cells (pc room (.func (.func FF) #[] fcap) none none none 0 0 0) 87))) := by
    refine ⟨⟨heap_alloc_last _ _, .inl ⟨rfl, rfl⟩, List.nodup_nil, fun i hi => (by cases hi), fun i hi => (by cases hi), fun i hi => (by cases hi), fun i hi => (by cases hi), fun e => (by cases e), fun i hi => (by cases hi), fun i hi => (by cases hi), fun i hi => (by cases hi), fun i hi => (by cases hi), fun A i B e => by simp at e⟩, (Below.refl _ _).alloc (Nat.le_refl _) _⟩
  have q1 : ¬ room < 1 := by omega
  have q2 : ¬ (4096 : Int) < room := by omega
  clear h1 h2
  unfold pc at HP
  go_enter Try.func21, Try.ntmps21
  go_wp2_with fail
  go_ret2
  exact ⟨rfl, HP.out⟩
end
end Go.Proofs.Ytjlhmgopmdcopaa

/- Pool.Held: the identities of those that are loaded, in the order of their uses. -/
namespace Go.Proofs.Ytjlhmgopmdcopaa
open Go.RowKit

theorem Try.infoRf : (Try.prog.info? 25).map (fun i => (i.zero, i.size, i.bytes)) = some (some (.int .u64 0), 1, 8) := by kernel_rfl
theorem Try.undRs : Try.prog.underlying 54 = some (.slice 25) := by kernel_rfl
def refs (R : List Int) : List Value := R.map (Value.int .u64)
theorem ghne_n (w : World) : (binOp .neq 37 (.pointer none) (.pointer none)).run Try.prog w = .ok (.bool false) w := by kernel_rfl
theorem ghng_n (x y : Operand) (w : World) : (eqGuard .neq 37 x y (.pointer none) (.pointer none)).run Try.prog w = .ok () w := by kernel_rfl
theorem ghne_s (b : Nat) (w : World) : (binOp .neq 37 (.pointer (some ⟨b, 0, none⟩)) (.pointer none)).run Try.prog w = .ok (.bool true) w := by kernel_rfl
theorem ghng_s (b : Nat) (x y : Operand) (w : World) : (eqGuard .neq 37 x y (.pointer (some ⟨b, 0, none⟩)) (.pointer none)).run Try.prog w = .ok () w := by kernel_rfl

section
variable {w : World} {p : Nat} {fv : Value} {room : Int} {σ : Sta} {Z : List Int} {bz : Int}
set_option maxRecDepth 100000 in
set_option maxHeartbeats 4000000 in
theorem Held_any (h : PS w p fv room σ Z bz) (hl : σ.R.length < 1000000) :
    Calls Try.prog 23 #[.pointer (some ⟨p, 0, none⟩)] w fun e w' => ∃ b cap, e = .returned (.slice (some ⟨b, 0, none⟩) σ.R.length cap) ∧ w'.ownsRow w.heap.size 25 1 (.slice (some ⟨b, 0, none⟩) σ.R.length cap) σ.R.length (refs σ.R) ∧ Below w.heap.size w w' := by
  obtain ⟨i0, hi, hz0, hz1, hz2⟩ := info_parts Try.infoRf
  obtain ⟨wm, hmk, hown, hgr⟩ := run_make_own (P := Try.prog) w w.heap.size 54 25 i0 (.int .u64 0) 1 Try.undRs hi hz0 hz1 .i64 .i64 σ.R.length (by rw [hz2]; omega) (by unfold maxLen; omega) (Nat.le_refl _)
  have hbm : Below w.heap.size w wm := (Below.refl _ _).grown hgr (Nat.le_refl _) (fun k e => by cases e)
  have HM : Hid (wm.ownsRow w.heap.size 25 1 (.slice (some ⟨w.heap.size, 0, none⟩) 0 σ.R.length) 0 (refs []) ∧ Below w.heap.size w wm) := ⟨hown, hbm⟩
  have HP : Hid (∀ W, Below w.heap.size w W → PS W p fv room σ Z bz) := fun W hW => h.below hW
  have c5 := h.pool.c5
  have c3 : wm.cell? ⟨p, 3, none⟩ = some (.pointer (headP σ.κ σ.R)) := (HP.out wm hbm).pool.c3
  have q1 := ghne_n
  have q2 := ghng_n
  have HLn : Hid (σ.R.length < 1000000) := hl
  clear h hown hgr hbm hl
  go_enter Try.func23, Try.ntmps23
  go_wp2_with fail
  go_loopw [3, 4] (fun x y wr => ∃ (A B : List Int) (g cap : Nat), x = .slice (some ⟨g, 0, none⟩) A.length cap ∧ y = .pointer (headP σ.κ B) ∧ Hid (σ.R = A ++ B) ∧ Hid (wr.ownsRow w.heap.size 25 1 (.slice (some ⟨g, 0, none⟩) A.length cap) A.length (refs A)) ∧ Hid (Below w.heap.size w wr)) (fun x _ _ => match x with | .slice _ n _ => σ.R.length - n | _ => 0)
  case atStart => exact ⟨[], σ.R, _, _, rfl, rfl, rfl, HM.out.1, HM.out.2⟩
  case round =>
    obtain ⟨A, B, g, cap, rfl, rfl, HE, HO, HB⟩ := hrel
    rcases B with _ | ⟨i, B⟩
    · rw [headP_nil]
      have HL : Hid (A = σ.R) := by show _ = _; rw [HE.out]; simp
      go_wp2_with fail
      go_ret
      rw [← HL.out]
      exact ⟨g, cap, rfl, HO.out, HB.out⟩
    · rw [headP_cons]
      have hr := (HP.out wr HB.out).held A i B HE.out
      obtain ⟨fb, hrw⟩ := hr
      have d0 := hrw.c0
      have q3 := ghne_s (σ.κ i)
      have q4 := ghng_s (σ.κ i)
      have hlen : A.length + 1 ≤ σ.R.length := by rw [HE.out]; simp
      have hL := HLn.out
      have hsz := HB.out.size
      have HGe : Hid (w.heap.size ≤ g) := by
        rcases HO.out.2 with ⟨e, _⟩ | ⟨g2, c2, cur, e, hg2, _⟩
        · cases e
        · injection e with e _ _; injection e with e; injection e with e; subst e; exact hg2
      have HN : Hid (∀ W, Below w.heap.size w W → W.cell? ⟨σ.κ i, 9, none⟩ = some (.pointer (headP σ.κ B))) := fun W hW => by
        obtain ⟨f2, hr2⟩ := (HP.out W hW).held A i B HE.out
        exact hr2.c9
      generalize σ.κ i = gg at d0 q3 q4 HN ⊢
      clear hrw c5 c3
      go_wp2_with (at_builtin; refine wpList_app _ rfl _ _ 54 rfl w.heap.size 25 i0 (.int .u64 0) 1 8 Try.undRs hi hz0 hz1 hz2 rfl (by decide) _ _ (refs A) rfl (HO.out.alloc _) ⟨wr.heap.size, 0, none⟩ 1 1 [.int .u64 i] rfl rfl (cell_one_new _ _ _) (by simp [Value.oneCell']) (by decide) (by unfold maxLen; omega) (by omega) (by simp; omega) ?_; intro g' cap' w3 hown' hgrow hor; have HB3 : Hid (Below w.heap.size w w3) := (HB.out.alloc hsz _).grown hgrow (by simp; omega) (fun k e => by injection e with e; subst e; exact HGe.out); have d9 := HN.out w3 HB3.out; have HO3 : Hid (w3.ownsRow w.heap.size 25 1 (.slice (some ⟨g', 0, none⟩) (A.length + 1) cap') (A.length + 1) (refs A ++ [.int .u64 i])) := hown'; clear hown' hgrow hor)
      exact ⟨⟨A ++ [i], B, g', cap', by simp, rfl, by show _ = _; rw [HE.out]; simp, by show World.ownsRow _ _ _ _ _ _ _; simpa [refs] using HO3.out, HB3⟩, by simp; omega⟩
end
end Go.Proofs.Ytjlhmgopmdcopaa

