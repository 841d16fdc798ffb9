/- Thing.Get of a name that it has; Ask; New; ID. -/
import Derived.Test.YtjlhmgopmdcopaaGreatKI26
import Derived.Test.YtjlhmgopmdcopaaGreatKI25
import Derived.Test.YtjlhmgopmdcopaaGreatKI14
namespace Go.Proofs.YtjlhmgopmdcopaaGreat
open Go.RowKit

theorem TmF.nth_name : (L : TmF) → ∀ j n t, L.nth j = some (n, t) → L.names[j]? = some n ∧ j < L.len
  | .cons _ _ _, 0, _, _, h => by simp only [TmF.nth, Option.some.injEq, Prod.mk.injEq] at h; obtain ⟨rfl, rfl⟩ := h; exact ⟨rfl, by simp [TmF.len]⟩
  | .cons _ _ l, j + 1, n, t, h => by obtain ⟨h1, h2⟩ := l.nth_name j n t h; exact ⟨by simpa [TmF.names] using h1, by simp [TmF.len]; omega⟩

set_option maxRecDepth 100000 in
set_option maxHeartbeats 2000000 in
theorem Get_th (b : Nat) (id : Int) (L : TmF) (J : Nat) (nm : ByteArray) (t : Tm) (w : World) (hT : Th w b id L) (hu : Sp.up L.names) (hg : L.gd) (hl : L.len ≤ 4096) (hJ : L.nth J = some (nm, t)) :
    Calls Tryz.prog 39 #[.pointer (some ⟨b, 0, none⟩), .string nm] w fun e w' => ∃ v, e = .returned (.tuple #[v, .bool true]) ∧ Below w.heap.size w w' ∧ t.V w' (Fr w w') v := by
  obtain ⟨t0, a, cap, t1, hLV⟩ := hT
  obtain ⟨hnm, hJl⟩ := L.nth_name J nm t hJ
  obtain ⟨g, rfl, hcap⟩ := L.LV_at hLV (by omega)
  obtain ⟨vs, hvl, hrow⟩ := L.V_row 0 hLV.2
  have hvJ : vs[J]? = some (vs[J]'(by rw [hvl, TmF.names_len]; exact hJl)) := List.getElem?_eq_getElem _
  generalize vs[J]'(by rw [hvl, TmF.names_len]; exact hJl) = v0 at hvJ
  have hrw : Rw w g L.names vs := ⟨hvl, fun j n v h1 h2 => by have := hrow j n v h1 h2; rw [Nat.zero_add] at this; exact ⟨this.1, this.2.1, this.2.2.1⟩⟩
  obtain ⟨c0, c1, _, t', ht', hv0⟩ := hrow J nm v0 hnm hvJ
  rw [Nat.zero_add] at c0 c1
  obtain rfl : t = t' := by rw [hJ] at ht'; injection ht' with e; injection e
  have HS : Hid (Calls Tryz.prog 61 #[.slice (some ⟨g, 0, none⟩) L.len cap, .string nm, .func (.func 62) #[] #[]] w fun e w' => e = .returned (.tuple #[.int .i64 (J : Int), .bool true]) ∧ Below w.heap.size w w') := search_any g L.len cap J L.names vs nm w (by rw [TmF.names_len]) hl hu hnm hrw
  have HV : Hid (t.V w (Lo w.heap.size) v0 ∧ t.all.e = 0) := ⟨hv0, L.nth_gd J nm t hg hJ⟩
  have HC : Hid (∀ W, Below w.heap.size w W → Calls Tryz.prog 64 #[v0] W fun e w' => ∃ v', e = .returned (.tuple #[v', .int .i64 0]) ∧ Below W.heap.size W w' ∧ t.V w' (Fr W w') v') := fun W hW =>
    Copy_ok t v0 W.heap.size W (Nat.le_refl _) (t.V_same (Same.of_below hW (Nat.le_refl _)) (fun k hk => Nat.lt_of_lt_of_le hk hW.size) v0 HV.out.1) HV.out.2
  have HLb : Hid (b < w.heap.size ∧ g < w.heap.size) := ⟨World.block_lt_of_cell? _ _ t1, World.block_lt_of_cell? _ _ c0⟩
  have hq : ∀ W, (binOp .eql 68 (.pointer (some ⟨b, 0, none⟩)) (.pointer none)).run Tryz.prog W = .ok (.bool false) W := fun W => by kernel_rfl
  have hgq : ∀ x y W, (eqGuard .eql 68 x y (.pointer (some ⟨b, 0, none⟩)) (.pointer none)).run Tryz.prog W = .ok () W := fun x y W => by kernel_rfl
  have hJi : (J : Int) < (L.len : Int) := by omega
  have hJ0 : (0 : Int) ≤ (J : Int) := by omega
  clear t0 hnm hLV hrow hrw hvl hvJ ht' hv0 hJ hu hg hl HV c0
  go_enter Tryz.func39, Tryz.ntmps39
  go_wp2_with fail
  refine HS.out.mono ?_
  rintro e w1 ⟨rfl, hb1⟩
  have HB1 : Hid (Below w.heap.size w w1) := hb1
  have d0 : w1.cell? ⟨b, 1, none⟩ = some (.slice (some ⟨g, 0, none⟩) L.len cap) := by rw [hb1.cell (p := ⟨b, 1, none⟩) HLb.out.1]; exact t1
  have d1 : w1.cell? ⟨g, J * 2 + 1, none⟩ = some v0 := by rw [hb1.cell (p := ⟨g, J * 2 + 1, none⟩) HLb.out.2]; exact c1
  clear hb1 c1 t1 HS
  go_wp2_with fail
  refine (HC.out _ HB1.out).mono ?_
  rintro e w2 ⟨v', rfl, hb2, hv'⟩
  have HR : Hid (Below w.heap.size w w2 ∧ t.V w2 (Fr w w2) v') := ⟨HB1.out.trans (hb2.mono HB1.out.size), t.V_same (Same.refl _ _) (fun k hk => ⟨Nat.le_trans HB1.out.size hk.1, hk.2⟩) v' hv'⟩
  clear hb2 hv' d0 d1
  go_wp2_with fail
  go_ret2
  exact ⟨v', rfl, HR.out⟩

end Go.Proofs.YtjlhmgopmdcopaaGreat

/- Ghosts (package lazy): how they lie in memory, and frames that say which older blocks may change. -/
namespace Go.Proofs.YtjlhmgopmdcopaaGreat
open Go.RowKit

/-- all older blocks but those of N are as they were -/
structure Kx (N : Nat → Prop) (w w' : World) : Prop where
  os : w'.os = w.os
  tape : w'.tape = w.tape
  output : w'.output = w.output
  size : w.heap.size ≤ w'.heap.size
  block : ∀ j, j < w.heap.size → ¬ N j → w'.heap[j]? = w.heap[j]?
theorem Kx.refl (N : Nat → Prop) (w : World) : Kx N w w := ⟨rfl, rfl, rfl, Nat.le_refl _, fun _ _ _ => rfl⟩
theorem Kx.trans {N : Nat → Prop} {a b d : World} (h : Kx N a b) (k : Kx N b d) : Kx N a d := ⟨k.os.trans h.os, k.tape.trans h.tape, k.output.trans h.output, Nat.le_trans h.size k.size, fun j h1 h2 => (k.block j (Nat.lt_of_lt_of_le h1 h.size) h2).trans (h.block j h1 h2)⟩
theorem Kx.mono {N M : Nat → Prop} {w w' : World} (h : Kx N w w') (hm : ∀ j, N j → M j) : Kx M w w' := ⟨h.os, h.tape, h.output, h.size, fun j h1 h2 => h.block j h1 fun h3 => h2 (hm j h3)⟩
theorem Kx.of {N : Nat → Prop} {w w' : World} (h : Below w.heap.size w w') : Kx N w w' := ⟨h.os, h.tape, h.output, h.size, fun j h1 _ => h.block j h1⟩
theorem Kx.set {N : Nat → Prop} {c o : Nat} {a w : World} (h : Kx N a w) (hc : N c ∨ a.heap.size ≤ c) (v : Value) : Kx N a (w.setCell ⟨c, o, none⟩ v) := ⟨h.os, h.tape, h.output, by simpa [World.setCell] using h.size, fun j h1 h2 => (Below.heap_setCell _ _ _ _ (by show j ≠ c; intro e; subst e; rcases hc with hc | hc; exact h2 hc; omega)).trans (h.block j h1 h2)⟩
theorem Kx.alloc {N : Nat → Prop} {a w : World} (h : Kx N a w) (o : Obj) : Kx N a (w.alloc o) := h.trans (.of ((Below.refl _ _).alloc (Nat.le_refl _) _))
theorem Kx.drew {N : Nat → Prop} {a w : World} (h : Kx N a w) : Kx N a w.drew := ⟨h.os, h.tape, h.output, h.size, h.block⟩
theorem Kx.below {N : Nat → Prop} {B : Nat} {w w' : World} (h : Kx N w w') (hN : ∀ j, N j → B ≤ j) (hB : B ≤ w.heap.size) : Below B w w' := ⟨h.os, h.tape, h.output, h.size, fun j hj => h.block j (by omega) (fun h1 => by have := hN j h1; omega)⟩
theorem Kx.same {N S : Nat → Prop} {w w' : World} (h : Kx N w w') (hS : ∀ j, S j → j < w.heap.size ∧ ¬ N j) : Same S w w' := fun k hk => h.block k (hS k hk).1 (hS k hk).2
theorem Kx.back {N M : Nat → Prop} {a b d : World} (h : Kx N a b) (k : Kx M b d) (hM : ∀ j, M j → N j ∨ a.heap.size ≤ j) : Kx N a d := ⟨k.os.trans h.os, k.tape.trans h.tape, k.output.trans h.output, Nat.le_trans h.size k.size, fun j h1 h2 => (k.block j (Nat.lt_of_lt_of_le h1 h.size) (fun h3 => (hM j h3).elim h2 (fun h4 => by omega))).trans (h.block j h1 h2)⟩

/-- a ghost's cells -/
def gc (id : Int) (fn : Value) (bz : Bool) (la : Int) (cl : ByteArray) (vr : Int) (fp : Option Addr) (pl : Option Addr := none) (ol : Option Addr := none) (nw : Option Addr := none) : Array Value := #[.int .u64 id, fn, .bool bz, .int .i64 la, .string cl, .int .i64 vr, .pointer fp, .pointer pl, .pointer ol, .pointer nw]
def Gh (w : World) (g : Nat) (cs : Array Value) : Prop := w.heap[g]? = some (.cells cs 71)
theorem Gh.set {w : World} {g : Nat} {cs : Array Value} (h : Gh w g cs) (j : Nat) (v : Value) : Gh (w.setCell ⟨g, j, none⟩ v) g (cs.setIfInBounds j v) := by
  unfold Gh at h ⊢
  rw [setCell_eq_setRow _ _ _ _ _ _ _ h]; exact setRow_heap _ _ _ _ _ _ h
theorem Gh.lt {w : World} {g : Nat} {cs : Array Value} (h : Gh w g cs) : g < w.heap.size := (Array.getElem?_eq_some_iff.1 h).1
theorem Gh.keep {w w' : World} {g : Nat} {cs : Array Value} (h : Gh w g cs) (hb : w'.heap[g]? = w.heap[g]?) : Gh w' g cs := hb.trans h
theorem Gh.cell {w : World} {g : Nat} {cs : Array Value} (h : Gh w g cs) (j : Nat) : w.cell? ⟨g, j, none⟩ = cs[j]? := cell_of_row w g j cs _ _ h
theorem Gh.free {w : World} {g : Nat} {cs : Array Value} (h : Gh w g cs) (j : Nat) : w.frozen? ⟨g, j, none⟩ = false := frozen_of_row _ _ j _ _ h
section
variable {w : World} {g : Nat} {id : Int} {fn : Value} {bz : Bool} {la : Int} {cl : ByteArray} {vr : Int} {fp pl ol nw : Option Addr}
theorem Gh.c0 (h : Gh w g (gc id fn bz la cl vr fp pl ol nw)) : w.cell? ⟨g, 0, none⟩ = some (.int .u64 id) := h.cell 0
theorem Gh.c1 (h : Gh w g (gc id fn bz la cl vr fp pl ol nw)) : w.cell? ⟨g, 1, none⟩ = some fn := h.cell 1
theorem Gh.c2 (h : Gh w g (gc id fn bz la cl vr fp pl ol nw)) : w.cell? ⟨g, 2, none⟩ = some (.bool bz) := h.cell 2
theorem Gh.c3 (h : Gh w g (gc id fn bz la cl vr fp pl ol nw)) : w.cell? ⟨g, 3, none⟩ = some (.int .i64 la) := h.cell 3
theorem Gh.c4 (h : Gh w g (gc id fn bz la cl vr fp pl ol nw)) : w.cell? ⟨g, 4, none⟩ = some (.string cl) := h.cell 4
theorem Gh.c5 (h : Gh w g (gc id fn bz la cl vr fp pl ol nw)) : w.cell? ⟨g, 5, none⟩ = some (.int .i64 vr) := h.cell 5
theorem Gh.c6 (h : Gh w g (gc id fn bz la cl vr fp pl ol nw)) : w.cell? ⟨g, 6, none⟩ = some (.pointer fp) := h.cell 6
theorem Gh.c7 (h : Gh w g (gc id fn bz la cl vr fp pl ol nw)) : w.cell? ⟨g, 7, none⟩ = some (.pointer pl) := h.cell 7
theorem Gh.c8 (h : Gh w g (gc id fn bz la cl vr fp pl ol nw)) : w.cell? ⟨g, 8, none⟩ = some (.pointer ol) := h.cell 8
theorem Gh.c9 (h : Gh w g (gc id fn bz la cl vr fp pl ol nw)) : w.cell? ⟨g, 9, none⟩ = some (.pointer nw) := h.cell 9
theorem Gh.s2 (h : Gh w g (gc id fn bz la cl vr fp pl ol nw)) (b : Bool) : Gh (w.setCell ⟨g, 2, none⟩ (.bool b)) g (gc id fn b la cl vr fp pl ol nw) := h.set 2 _
theorem Gh.s3 (h : Gh w g (gc id fn bz la cl vr fp pl ol nw)) (b : Int) : Gh (w.setCell ⟨g, 3, none⟩ (.int .i64 b)) g (gc id fn bz b cl vr fp pl ol nw) := h.set 3 _
theorem Gh.s4 (h : Gh w g (gc id fn bz la cl vr fp pl ol nw)) (b : ByteArray) : Gh (w.setCell ⟨g, 4, none⟩ (.string b)) g (gc id fn bz la b vr fp pl ol nw) := h.set 4 _
theorem Gh.s5 (h : Gh w g (gc id fn bz la cl vr fp pl ol nw)) (b : Int) : Gh (w.setCell ⟨g, 5, none⟩ (.int .i64 b)) g (gc id fn bz la cl b fp pl ol nw) := h.set 5 _
theorem Gh.s6 (h : Gh w g (gc id fn bz la cl vr fp pl ol nw)) (b : Option Addr) : Gh (w.setCell ⟨g, 6, none⟩ (.pointer b)) g (gc id fn bz la cl vr b pl ol nw) := h.set 6 _
end

/-- kept by whatever changes but g and five new boxes -/
def Stb (n0 g : Nat) (Q : World → Prop) : Prop := ∀ X Y : World, X.heap.size ≤ Y.heap.size → (∀ j, j < X.heap.size → j ≠ g → (j < n0 ∨ n0 + 5 ≤ j) → Y.heap[j]? = X.heap[j]?) → Q X → Q Y

/-- how a fetch ends: with a record (or none) and an error, or it panics -/
def FE (pk pe er : Int) (tm : Tm) (W : World) (e : Ending) (w' : World) : Prop :=
  (pk = 0 ∧ pe = 0 ∧ ∃ rv, e = .returned (.tuple #[.pointer rv, .int .i64 er]) ∧ (er = 0 → tm.V w' (Fr W w') (.iface 31 (.pointer rv)))) ∨ (pk ≠ 0 ∧ ∃ v, e = .panicked [{ v := v, recovered := false }] ∧ Kd v pk pe)
/-- where what a fetch answered lies: neither in the ghost nor in five new boxes -/
def Vs (n0 g : Nat) (w' : World) : Nat → Prop := fun j => j < w'.heap.size ∧ j ≠ g ∧ (j < n0 ∨ n0 + 5 ≤ j)
def Vg (g : Nat) (w' : World) : Nat → Prop := fun j => j < w'.heap.size ∧ j ≠ g
/-- as FE, but what it answers may be older -/
def FG (n0 g : Nat) (pk pe er : Int) (tm : Tm) (e : Ending) (w' : World) : Prop :=
  (pk = 0 ∧ pe = 0 ∧ ∃ rv, e = .returned (.tuple #[.pointer rv, .int .i64 er]) ∧ (er = 0 → tm.V w' (Vs n0 g w') (.iface 31 (.pointer rv)))) ∨ (pk ≠ 0 ∧ ∃ v, e = .panicked [{ v := v, recovered := false }] ∧ Kd v pk pe)
theorem FE.to {n0 g : Nat} {pk pe er : Int} {tm : Tm} {W w' : World} {e : Ending} (h : FE pk pe er tm W e w') (hg : g < n0) (hW : n0 + 5 ≤ W.heap.size) : FG n0 g pk pe er tm e w' := by
  rcases h with ⟨h1, h2, rv, h3, h4⟩ | h
  · exact .inl ⟨h1, h2, rv, h3, fun h0 => tm.V_same (Same.refl _ _) (fun k hk => ⟨hk.2, by have := hk.1; omega, .inr (by have := hk.1; omega)⟩) _ (h4 h0)⟩
  · exact .inr h
end Go.Proofs.YtjlhmgopmdcopaaGreat

/- Ghost.call's two function literals. -/
namespace Go.Proofs.YtjlhmgopmdcopaaGreat
open Go.RowKit

set_option maxRecDepth 100000 in
set_option maxHeartbeats 2000000 in
theorem call2_ret (F : Nat) (fst cap : Array Value) (g p q s : Nat) (id er : Int) (R : Option Addr → World → Prop) (w : World)
    (hp : w.cell? ⟨p, 0, none⟩ = some (.pointer (some ⟨g, 0, none⟩))) (hf : w.cell? ⟨g, 1, none⟩ = some (.func (.func F) fst cap)) (hi : w.cell? ⟨g, 0, none⟩ = some (.int .u64 id))
    (hcf : ∀ W, Sem.run Tryz.prog (callFunc F (fst.push (.int .u64 id) ++ cap)) W = .ok (.enter F (fst.push (.int .u64 id) ++ cap)) W)
    (HF : Hid (∀ W, Below w.heap.size w W → W.heap.size = w.heap.size → Calls Tryz.prog F (fst.push (.int .u64 id) ++ cap) W fun e w' => ∃ rv, e = .returned (.tuple #[.pointer rv, .int .i64 er]) ∧ R rv w'))
    (HR : Hid (∀ rv w', R rv w' → (∃ x, w'.cell? ⟨q, 0, none⟩ = some (.pointer x)) ∧ (∃ y, w'.cell? ⟨s, 0, none⟩ = some (.int .i64 y)) ∧ w'.frozen? ⟨q, 0, none⟩ = false ∧ w'.frozen? ⟨s, 0, none⟩ = false)) (hqs : q ≠ s) :
    Calls Tryz.prog 108 #[.pointer (some ⟨p, 0, none⟩), .pointer (some ⟨q, 0, none⟩), .pointer (some ⟨s, 0, none⟩)] w fun e w' => e = .returned (.tuple #[]) ∧ ∃ rv w1, R rv w1 ∧ w' = (w1.setCell ⟨q, 0, none⟩ (.pointer rv)).setCell ⟨s, 0, none⟩ (.int .i64 er) := by
  go_enter Tryz.func108, Tryz.ntmps108
  go_wp2_with fail
  go_region_with (refine (HF.out w.drew ⟨rfl, rfl, rfl, Nat.le_refl _, fun _ _ => rfl⟩ rfl).mono ?_; rintro e w1 ⟨rv, rfl, hr⟩; have HRr : Hid (R rv w1) := hr; obtain ⟨⟨x, hx⟩, ⟨y, hy⟩, zq, zs⟩ := HR.out rv w1 hr; have hy' : ∀ v, (w1.setCell ⟨q, 0, none⟩ v).cell? ⟨s, 0, none⟩ = some (.int .i64 y) := (fun v => by rw [World.cell?_setCell_other _ _ _ _ (by intro e; injection e with e1 _; omega)]; exact hy); clear hr)
  all_goals
    go_wp2_with fail
    go_end0
    exact ⟨rfl, rv, w1, HRr.out, rfl⟩

set_option maxRecDepth 100000 in
set_option maxHeartbeats 2000000 in
theorem call2_pan (F : Nat) (fst cap : Array Value) (g p q s : Nat) (id pk pe : Int) (R : World → Prop) (w : World)
    (hp : w.cell? ⟨p, 0, none⟩ = some (.pointer (some ⟨g, 0, none⟩))) (hf : w.cell? ⟨g, 1, none⟩ = some (.func (.func F) fst cap)) (hi : w.cell? ⟨g, 0, none⟩ = some (.int .u64 id))
    (hcf : ∀ W, Sem.run Tryz.prog (callFunc F (fst.push (.int .u64 id) ++ cap)) W = .ok (.enter F (fst.push (.int .u64 id) ++ cap)) W)
    (HF : Hid (∀ W, Below w.heap.size w W → W.heap.size = w.heap.size → Calls Tryz.prog F (fst.push (.int .u64 id) ++ cap) W fun e w' => ∃ v, e = .panicked [{ v := v, recovered := false }] ∧ Kd v pk pe ∧ R w')) :
    Calls Tryz.prog 108 #[.pointer (some ⟨p, 0, none⟩), .pointer (some ⟨q, 0, none⟩), .pointer (some ⟨s, 0, none⟩)] w fun e w' => ∃ v, e = .panicked [{ v := v, recovered := false }] ∧ Kd v pk pe ∧ R w' := by
  go_enter Tryz.func108, Tryz.ntmps108
  go_wp2_with fail
  refine wp_region_held_drew (S := fun W => W.cell? ⟨p, 0, none⟩ = some (.pointer (some ⟨g, 0, none⟩)) ∧ W.cell? ⟨g, 1, none⟩ = some (.func (.func F) fst cap) ∧ W.cell? ⟨g, 0, none⟩ = some (.int .u64 id)) (by kernel_rfl) ?_ (fun hHeld => ?_)
  · exact ⟨hp, hf, hi⟩
  refine wpAnyH_take (i := 0) (oi := { dst := some 4, op := Go.Op.load 36 (Go.Operand.tmp 0), type := 36, pos := "lazy.go:111", after := #[], guard := none }) (v := ?_) rfl (by kernel_rfl) (by kernel_rfl) (by kernel_rfl) (fun _ _ _ h => h) (Or.inl ⟨by rfl, ?_⟩) (by assumption) ?_
  rotate_left
  · intro w hSw; (try dsimp only at hSw); go_simp; try (with_reducible rfl)
  simp only [Act.put, List.setIfInBounds_toArray, List.set_cons_zero, List.set_cons_succ]
  refine wpAnyH_take (i := 1) (oi := { dst := some 5, op := Go.Op.nilCheck (Go.Operand.tmp 4), type := 0, pos := "lazy.go:111", after := #[{ on := 0, ground := Go.Ground.data }], guard := none }) (v := ?_) rfl (by kernel_rfl) (by kernel_rfl) (by kernel_rfl) (fun _ _ _ h => h) (Or.inl ⟨by rfl, ?_⟩) (by assumption) ?_
  rotate_left
  · intro w hSw; (try dsimp only at hSw); go_simp; try (with_reducible rfl)
  simp only [Act.put, List.setIfInBounds_toArray, List.set_cons_zero, List.set_cons_succ]
  refine wpAnyH_take (i := 2) (oi := { dst := some 6, op := Go.Op.fieldAddr 71 (Go.Operand.tmp 5) 1, type := 0, pos := "lazy.go:111", after := #[{ on := 1, ground := Go.Ground.data }], guard := none }) (v := ?_) rfl (by kernel_rfl) (by kernel_rfl) (by kernel_rfl) (fun _ _ _ h => h) (Or.inl ⟨by rfl, ?_⟩) (by assumption) ?_
  rotate_left
  · intro w hSw; (try dsimp only at hSw); go_simp; try (with_reducible rfl)
  simp only [Act.put, List.setIfInBounds_toArray, List.set_cons_zero, List.set_cons_succ]
  refine wpAnyH_take (i := 3) (oi := { dst := some 7, op := Go.Op.load 39 (Go.Operand.tmp 6), type := 39, pos := "lazy.go:111", after := #[{ on := 2, ground := Go.Ground.data }], guard := none }) (v := ?_) rfl (by kernel_rfl) (by kernel_rfl) (by kernel_rfl) (fun _ _ _ h => h) (Or.inl ⟨by rfl, ?_⟩) (by assumption) ?_
  rotate_left
  · intro w hSw; (try dsimp only at hSw); go_simp; try (with_reducible rfl)
  simp only [Act.put, List.setIfInBounds_toArray, List.set_cons_zero, List.set_cons_succ]
  refine wpAnyH_take (i := 4) (oi := { dst := some 8, op := Go.Op.load 36 (Go.Operand.tmp 0), type := 36, pos := "lazy.go:111", after := #[], guard := none }) (v := ?_) rfl (by kernel_rfl) (by kernel_rfl) (by kernel_rfl) (fun _ _ _ h => h) (Or.inl ⟨by rfl, ?_⟩) (by assumption) ?_
  rotate_left
  · intro w hSw; (try dsimp only at hSw); go_simp; try (with_reducible rfl)
  simp only [Act.put, List.setIfInBounds_toArray, List.set_cons_zero, List.set_cons_succ]
  refine wpAnyH_take (i := 5) (oi := { dst := some 9, op := Go.Op.nilCheck (Go.Operand.tmp 8), type := 0, pos := "lazy.go:111", after := #[{ on := 4, ground := Go.Ground.data }], guard := none }) (v := ?_) rfl (by kernel_rfl) (by kernel_rfl) (by kernel_rfl) (fun _ _ _ h => h) (Or.inl ⟨by rfl, ?_⟩) (by assumption) ?_
  rotate_left
  · intro w hSw; (try dsimp only at hSw); go_simp; try (with_reducible rfl)
  simp only [Act.put, List.setIfInBounds_toArray, List.set_cons_zero, List.set_cons_succ]
  refine wpAnyH_take (i := 6) (oi := { dst := some 10, op := Go.Op.fieldAddr 71 (Go.Operand.tmp 9) 0, type := 0, pos := "lazy.go:111", after := #[{ on := 5, ground := Go.Ground.data }], guard := none }) (v := ?_) rfl (by kernel_rfl) (by kernel_rfl) (by kernel_rfl) (fun _ _ _ h => h) (Or.inl ⟨by rfl, ?_⟩) (by assumption) ?_
  rotate_left
  · intro w hSw; (try dsimp only at hSw); go_simp; try (with_reducible rfl)
  simp only [Act.put, List.setIfInBounds_toArray, List.set_cons_zero, List.set_cons_succ]
  refine wpAnyH_take (i := 7) (oi := { dst := some 11, op := Go.Op.load 25 (Go.Operand.tmp 10), type := 25, pos := "lazy.go:111", after := #[{ on := 6, ground := Go.Ground.data }], guard := none }) (v := ?_) rfl (by kernel_rfl) (by kernel_rfl) (by kernel_rfl) (fun _ _ _ h => h) (Or.inl ⟨by rfl, ?_⟩) (by assumption) ?_
  rotate_left
  · intro w hSw; (try dsimp only at hSw); go_simp; try (with_reducible rfl)
  simp only [Act.put, List.setIfInBounds_toArray, List.set_cons_zero, List.set_cons_succ]
  refine wpAnyH_ready (rs := [8]) (by kernel_rfl) (by simp) ?_
  refine AllReadyH.cons (o := { dst := some 12, op := Go.Op.call { callee := Go.Callee.value (Go.Operand.tmp 7), args := #[Go.Operand.tmp 11], argTypes := #[25] }, type := 48, pos := "lazy.go:111", after := #[{ on := 3, ground := Go.Ground.data }, { on := 7, ground := Go.Ground.data }], guard := none }) rfl (fun K hK => ?_) AllReadyH.nil
  go_simp
  refine (HF.out w.drew ⟨rfl, rfl, rfl, Nat.le_refl _, fun _ _ => rfl⟩ rfl).mono ?_
  rintro e w1 ⟨v, rfl, hr⟩
  exact ⟨rfl, v, rfl, hr⟩
end Go.Proofs.YtjlhmgopmdcopaaGreat

/- Ghost.call: what fetch answers, its panics told; however it ends, the ghost is as it was. -/
namespace Go.Proofs.YtjlhmgopmdcopaaGreat
open Go.RowKit

set_option maxRecDepth 100000 in
set_option maxHeartbeats 1000000 in
theorem Try_any2 (f : Nat) (cap : Array Value) (k er : Int) (w : World) (Q : World → Prop) (hcf : ∀ W, Sem.run Tryz.prog (callFunc f cap) W = .ok (.enter f cap) W) (hQ : Hid (∀ W W', Kb w.heap.size (w.heap.size + 1) W W' → Q W → Q W'))
    (HC : Hid (∀ W1, Below w.heap.size w W1 → W1.heap.size = w.heap.size + 2 → Calls Tryz.prog f cap W1 fun e w' => Ends k er e ∧ w'.heap[w.heap.size]? = W1.heap[w.heap.size]? ∧ w'.heap[w.heap.size + 1]? = W1.heap[w.heap.size + 1]? ∧ Q w')) :
    Calls Tryz.prog 107 #[.func (.func f) #[] cap] w fun e w' => e = .returned (.tuple #[.int .i64 k, .int .i64 er]) ∧ Q w' := by
  have HX : Hid (Calls Tryz.prog 69 #[.func (.func f) #[] cap] w fun e w' => e = .returned (.tuple #[.int .i64 k, .int .i64 er]) ∧ Q w') := caught_any2 f cap k er w Q hcf hQ HC
  have hfn : ∀ W, Sem.run Tryz.prog (binOp .eql 1 (.func (.func f) #[] cap) .nilFunc) W = .ok (.bool false) W := fun W => by kernel_rfl
  have hfg : ∀ x y W, Sem.run Tryz.prog (eqGuard .eql 1 x y (.func (.func f) #[] cap) .nilFunc) W = .ok () W := fun x y W => by kernel_rfl
  go_enter Tryz.func107, Tryz.ntmps107
  go_wp2_with fail
  refine HX.out.mono ?_
  rintro e w1 ⟨rfl, hq⟩
  have HQ : Hid (Q w1) := hq
  clear hq
  go_wp2_with fail
  go_ret2
  exact ⟨rfl, HQ.out⟩

/-- what stands behind the fetch, ahead of the deferred call: the three boxes, the ghost (busy), and what the fetch left -/
structure CQ (w : World) (g : Nat) (cs : Array Value) (N : Nat → Prop) (Qn : World → Prop) (ok : Prop) (tm : Tm) (rv : Option Addr) (er : Int) (w' : World) : Prop where
  b0 : w'.heap[w.heap.size]? = some (.cells #[.pointer (some ⟨g, 0, none⟩)] 36)
  b1 : w'.heap[w.heap.size + 1]? = some (.cells #[.pointer rv] 31)
  b2 : w'.heap[w.heap.size + 2]? = some (.cells #[.int .i64 er] 33)
  gh : Gh w' g cs
  kx : Kx (fun j => N j ∨ j = g) w w'
  qn : Qn w'
  v : ok → tm.V w' (Vs w.heap.size g w') (.iface 31 (.pointer rv))

theorem CQ.kb {w : World} {g : Nat} {cs : Array Value} {N : Nat → Prop} {Qn : World → Prop} {ok : Prop} {tm : Tm} {rv : Option Addr} {er : Int} {X Y : World} (h : CQ w g cs N Qn ok tm rv er X)
    (hg : g < w.heap.size) (_hN : ∀ j, N j → j < w.heap.size) (hQ : Stb w.heap.size g Qn) (hk : Kb (w.heap.size + 3) (w.heap.size + 4) X Y) : CQ w g cs N Qn ok tm rv er Y := by
  refine ⟨(hk.block _ (by omega) (by omega)).trans h.b0, (hk.block _ (by omega) (by omega)).trans h.b1, (hk.block _ (by omega) (by omega)).trans h.b2, h.gh.keep (hk.block _ (by omega) (by omega)), ?_, hQ X Y (by rw [hk.size]; exact Nat.le_refl _) (fun j _ _ hr => hk.block j (by omega) (by omega)) h.qn, fun ho => ?_⟩
  · exact ⟨hk.os.trans h.kx.os, hk.tape.trans h.kx.tape, hk.output.trans h.kx.output, by rw [hk.size]; exact h.kx.size, fun j h1 h2 => (hk.block j (by omega) (by omega)).trans (h.kx.block j h1 h2)⟩
  · exact tm.V_same (fun k hk2 => hk.block k (by have := hk2.2.2; omega) (by have := hk2.2.2; omega)) (fun k hk2 => ⟨by rw [hk.size]; exact hk2.1, hk2.2⟩) _ (h.v ho)

/-- the two results are written -/
theorem CQ.put {w : World} {g : Nat} {cs : Array Value} {N : Nat → Prop} {Qn : World → Prop} {ok : Prop} {tm : Tm} {rv : Option Addr} {er : Int} {X : World} (rv' : Option Addr) (er' : Int) (h : CQ w g cs N Qn False tm rv er X)
    (hg : g < w.heap.size) (_hN : ∀ j, N j → j < w.heap.size) (hQ : Stb w.heap.size g Qn) (hv : ok → tm.V X (Vs w.heap.size g X) (.iface 31 (.pointer rv'))) :
    CQ w g cs N Qn ok tm rv' er' ((X.setCell ⟨w.heap.size + 1, 0, none⟩ (.pointer rv')).setCell ⟨w.heap.size + 2, 0, none⟩ (.int .i64 er')) := by
  have hk : ∀ j, j ≠ w.heap.size + 1 → j ≠ w.heap.size + 2 → ((X.setCell ⟨w.heap.size + 1, 0, none⟩ (.pointer rv')).setCell ⟨w.heap.size + 2, 0, none⟩ (.int .i64 er')).heap[j]? = X.heap[j]? := fun j h2 h3 => (Below.heap_setCell _ _ _ _ h3).trans (Below.heap_setCell _ _ _ _ h2)
  refine ⟨(hk _ (by omega) (by omega)).trans h.b0, ?_, ?_, h.gh.keep (hk _ (by omega) (by omega)), ?_, hQ X _ (by simp [World.setCell]) (fun j _ _ hr => hk j (by omega) (by omega)) h.qn, fun ho => ?_⟩
  · rw [Below.heap_setCell _ _ _ _ (by show w.heap.size + 1 ≠ w.heap.size + 2; omega), setCell_eq_setRow _ _ _ _ _ _ _ h.b1]; exact setRow_heap _ _ _ _ _ _ h.b1
  · have h2 : (X.setCell ⟨w.heap.size + 1, 0, none⟩ (.pointer rv')).heap[w.heap.size + 2]? = some (.cells #[.int .i64 er] 33) := (Below.heap_setCell _ _ _ _ (by show w.heap.size + 2 ≠ w.heap.size + 1; omega)).trans h.b2
    rw [setCell_eq_setRow _ _ _ _ _ _ _ h2]; exact setRow_heap _ _ _ _ _ _ h2
  · exact (h.kx.set (.inr (by omega)) _).set (.inr (by omega)) _
  · exact tm.V_same (fun k hk2 => hk k (by have := hk2.2.2; omega) (by have := hk2.2.2; omega)) (fun k hk2 => ⟨by simpa [World.setCell] using hk2.1, hk2.2⟩) _ (hv ho)

/-- the deferred call makes the ghost as it was -/
theorem CQ.out {w : World} {g : Nat} {id : Int} {fn : Value} {la : Int} {cl : ByteArray} {vr : Int} {fp pl ol nw : Option Addr} {N : Nat → Prop} {Qn : World → Prop} {ok : Prop} {tm : Tm} {rv : Option Addr} {er : Int} {X : World} (h : CQ w g (gc id fn true la cl vr fp pl ol nw) N Qn ok tm rv er X)
    (hG : Gh w g (gc id fn false la cl vr fp pl ol nw)) (hN : ∀ j, N j → j < w.heap.size ∧ j ≠ g) (hQ : Stb w.heap.size g Qn) :
    Kx N w (X.setCell ⟨g, 2, none⟩ (.bool false)) ∧ Qn (X.setCell ⟨g, 2, none⟩ (.bool false)) ∧ (ok → tm.V (X.setCell ⟨g, 2, none⟩ (.bool false)) (Vg g (X.setCell ⟨g, 2, none⟩ (.bool false))) (.iface 31 (.pointer rv))) := by
  have hl := hG.lt
  refine ⟨⟨h.kx.os, h.kx.tape, h.kx.output, by simpa [World.setCell] using h.kx.size, fun j h1 h2 => ?_⟩, hQ X _ (by simp [World.setCell]) (fun j _ hj _ => Below.heap_setCell _ _ _ _ hj) h.qn, fun ho => tm.V_same (fun k hk2 => Below.heap_setCell _ _ _ _ hk2.2.1) (fun k hk2 => ⟨by simpa [World.setCell] using hk2.1, hk2.2.1⟩) _ (h.v ho)⟩
  by_cases e : j = g
  · subst e; exact (h.gh.s2 false).trans hG.symm
  · exact (Below.heap_setCell _ _ _ _ e).trans (h.kx.block j h1 (fun h3 => h3.elim h2 e))
end Go.Proofs.YtjlhmgopmdcopaaGreat

/- Ghost.call: the whole. -/
namespace Go.Proofs.YtjlhmgopmdcopaaGreat
open Go.RowKit

set_option maxRecDepth 100000 in
set_option maxHeartbeats 2000000 in
theorem call1_d (p g : Nat) (b : Bool) (u : FrameMode) (w : World) (hp : w.cell? ⟨p, 0, none⟩ = some (.pointer (some ⟨g, 0, none⟩))) (hg : w.cell? ⟨g, 2, none⟩ = some (.bool b)) (hz : w.frozen? ⟨g, 2, none⟩ = false) :
    CallsD Tryz.prog 106 #[.pointer (some ⟨p, 0, none⟩)] u w fun e u' w' => u' = u ∧ (e = .returned (.tuple #[]) ∧ w' = w.setCell ⟨g, 2, none⟩ (.bool false)) := by
  refine callsD_of_wp (R := fun e w' => e = .returned (.tuple #[]) ∧ w' = w.setCell ⟨g, 2, none⟩ (.bool false)) Tryz.func106 rfl ?_
  simp only [Tryz.ntmps106]
  go_wp2_with fail
  go_end0
  exact ⟨rfl, rfl⟩

/-- the world as Try is called -/
def CW (w : World) (g : Nat) : World := (((w.alloc (.cells #[.pointer (some ⟨g, 0, none⟩)] 36)).alloc (.cells #[.pointer none] 31)).alloc (.cells #[.int .i64 0] 33)).setCell ⟨g, 2, none⟩ (.bool true)

theorem CW.size (w : World) (g : Nat) : (CW w g).heap.size = w.heap.size + 3 := by
  have : ∀ (X : World) p v, (X.setCell p v).heap.size = X.heap.size := fun X p v => by simp [World.setCell]
  unfold CW
  rw [this]; simp only [World.size_alloc]
theorem al3 (w : World) (o1 o2 o3 : Obj) : (((w.alloc o1).alloc o2).alloc o3).heap[w.heap.size]? = some o1 ∧ (((w.alloc o1).alloc o2).alloc o3).heap[w.heap.size + 1]? = some o2 ∧ (((w.alloc o1).alloc o2).alloc o3).heap[w.heap.size + 2]? = some o3 := by
  refine ⟨?_, ?_, ?_⟩
  · rw [Below.heap_alloc _ _ _ (by simp only [World.size_alloc]; omega)]; exact al2_old _ _ _
  · rw [Below.heap_alloc _ _ _ (by simp)]; exact al2_new _ _ _
  · have := heap_alloc_last ((w.alloc o1).alloc o2) o3; simpa using this

section
variable {w : World} {g : Nat} {id : Int} {fn : Value} {la : Int} {cl : ByteArray} {vr : Int} {fp pl ol nw : Option Addr} {N : Nat → Prop} {Qn : World → Prop}
theorem CW.kx (w : World) (g : Nat) : Kx (· = g) w (CW w g) := ((((Kx.refl (· = g) w).alloc _).alloc _).alloc _).set (c := g) (.inl rfl) _
theorem CQ.drew {cs : Array Value} {ok : Prop} {tm : Tm} {rv : Option Addr} {er : Int} {X : World} (h : CQ w g cs N Qn ok tm rv er X) (hQ : Stb w.heap.size g Qn) : CQ w g cs N Qn ok tm rv er X.drew := ⟨h.b0, h.b1, h.b2, h.gh, h.kx.drew, hQ X _ (Nat.le_refl _) (fun _ _ _ _ => rfl) h.qn, fun ho => tm.V_same (w := X) (w' := X.drew) (B := Vs w.heap.size g X) (fun _ _ => rfl) (fun _ h => h) _ (h.v ho)⟩
theorem CQ.weak {cs : Array Value} {ok : Prop} {tm : Tm} {rv : Option Addr} {er : Int} {X : World} (h : CQ w g cs N Qn ok tm rv er X) : CQ w g cs N Qn False tm rv er X := ⟨h.b0, h.b1, h.b2, h.gh, h.kx, h.qn, fun ho => ho.elim⟩

/-- behind the fetch -/
theorem CQ.of {tm : Tm} {W1 w1 : World} (hG : Gh w g (gc id fn false la cl vr fp pl ol nw)) (hN : ∀ j, N j → j < w.heap.size ∧ j ≠ g) (hb : Below (w.heap.size + 3) (CW w g) W1) (hs : W1.heap.size = w.heap.size + 5) (hk : Kx N W1 w1) (hq : Qn w1) :
    CQ w g (gc id fn true la cl vr fp pl ol nw) N Qn False tm none 0 w1 := by
  have hl := hG.lt
  obtain ⟨a0, a1, a2⟩ := al3 w (.cells #[.pointer (some ⟨g, 0, none⟩)] 36) (.cells #[.pointer none] 31) (.cells #[.int .i64 0] 33)
  have far : ∀ j, j < w.heap.size + 3 → j ≠ g → w.heap.size ≤ j → w1.heap[j]? = (((w.alloc (.cells #[.pointer (some ⟨g, 0, none⟩)] 36)).alloc (.cells #[.pointer none] 31)).alloc (.cells #[.int .i64 0] 33)).heap[j]? := fun j h1 h2 h3 => (hk.block j (by omega) (fun h => by have := (hN j h).1; omega)).trans ((hb.block j h1).trans (Below.heap_setCell _ _ _ _ h2))
  have hgw : Gh (((w.alloc (.cells #[.pointer (some ⟨g, 0, none⟩)] 36)).alloc (.cells #[.pointer none] 31)).alloc (.cells #[.int .i64 0] 33)) g (gc id fn false la cl vr fp pl ol nw) := hG.keep (((Kx.refl (fun _ => False) w).alloc _).alloc _ |>.alloc _ |>.block g hl (fun h => h))
  refine ⟨(far _ (by omega) (by omega) (by omega)).trans a0, (far _ (by omega) (by omega) (by omega)).trans a1, (far _ (by omega) (by omega) (by omega)).trans a2, ?_, ?_, hq, fun h => h.elim⟩
  · exact (hgw.s2 true).keep ((hk.block g (by omega) (fun h => (hN g h).2 rfl)).trans (hb.block g (by omega)))
  · have h1 : Kx (fun j => N j ∨ j = g) w (CW w g) := (CW.kx w g).mono fun j h => .inr h
    have h2 : Kx (fun j => N j ∨ j = g) (CW w g) W1 := ⟨hb.os, hb.tape, hb.output, hb.size, fun j h1 _ => hb.block j (by rw [CW.size] at h1; exact h1)⟩
    exact (h1.trans h2).trans (hk.mono fun j h => .inl h)
end

theorem gtry_any (F : Nat) (fst cap : Array Value) (g : Nat) (id la : Int) (cl : ByteArray) (vr : Int) (fp pl ol nw : Option Addr) (pk pe er : Int) (tm : Tm) (N : Nat → Prop) (Qn : World → Prop) (w : World)
    (hG : Gh w g (gc id (.func (.func F) fst cap) false la cl vr fp pl ol nw))
    (hcf : ∀ W, Sem.run Tryz.prog (callFunc F (fst.push (.int .u64 id) ++ cap)) W = .ok (.enter F (fst.push (.int .u64 id) ++ cap)) W)
    (hN : ∀ j, N j → j < w.heap.size ∧ j ≠ g) (hQ : Stb w.heap.size g Qn)
    (HF : ∀ W, Kx (· = g) w W → w.heap.size + 5 ≤ W.heap.size → Calls Tryz.prog F (fst.push (.int .u64 id) ++ cap) W fun e w' => FG w.heap.size g pk pe er tm e w' ∧ Kx N W w' ∧ Qn w') :
    Calls Tryz.prog 107 #[.func (.func 108) #[] #[.pointer (some ⟨w.heap.size, 0, none⟩), .pointer (some ⟨w.heap.size + 1, 0, none⟩), .pointer (some ⟨w.heap.size + 2, 0, none⟩)]] (CW w g) fun e w' =>
      e = .returned (.tuple #[.int .i64 pk, .int .i64 pe]) ∧ ∃ rv er1, CQ w g (gc id (.func (.func F) fst cap) true la cl vr fp pl ol nw) N Qn (pk = 0 ∧ er = 0) tm rv er1 w' ∧ (pk = 0 → er1 = er) := by
  have hl := hG.lt
  refine Try_any2 _ _ pk pe (CW w g) (fun w' => ∃ rv er1, CQ w g (gc id (.func (.func F) fst cap) true la cl vr fp pl ol nw) N Qn (pk = 0 ∧ er = 0) tm rv er1 w' ∧ (pk = 0 → er1 = er)) (fun W => by kernel_rfl) ?_ ?_
  · intro X Y hk ⟨rv, er1, h1, h2⟩
    rw [CW.size] at hk
    exact ⟨rv, er1, h1.kb hl (fun j hj => (hN j hj).1) hQ hk, h2⟩
  · intro W1 hb hs
    rw [CW.size] at hb hs
    have hs5 : W1.heap.size = w.heap.size + 5 := hs
    have hk1 : Kx (· = g) w W1 := (CW.kx w g).trans ⟨hb.os, hb.tape, hb.output, hb.size, fun j h1 _ => hb.block j (by rw [CW.size] at h1; exact h1)⟩
    have hq0 : CQ w g (gc id (.func (.func F) fst cap) true la cl vr fp pl ol nw) N (fun _ => True) False tm none 0 W1 := CQ.of hG hN hb hs5 (Kx.refl _ _) trivial
    have p0 : W1.cell? ⟨w.heap.size, 0, none⟩ = some (.pointer (some ⟨g, 0, none⟩)) := by rw [cell_of_row _ _ 0 _ _ _ hq0.b0]; rfl
    rw [CW.size]
    by_cases hp : pk = 0
    · have HR : ∀ W2, Below W1.heap.size W1 W2 → W2.heap.size = W1.heap.size → Calls Tryz.prog F (fst.push (.int .u64 id) ++ cap) W2 fun e w' => ∃ rv, e = .returned (.tuple #[.pointer rv, .int .i64 er]) ∧ (pe = 0 ∧ CQ w g (gc id (.func (.func F) fst cap) true la cl vr fp pl ol nw) N Qn False tm none 0 w' ∧ (er = 0 → tm.V w' (Vs w.heap.size g w') (.iface 31 (.pointer rv))) ∧ w'.heap[w.heap.size + 3]? = W1.heap[w.heap.size + 3]? ∧ w'.heap[w.heap.size + 4]? = W1.heap[w.heap.size + 4]?) := by
        intro W2 hb2 hs2
        refine (HF W2 (hk1.trans (.of hb2)) (by omega)).mono ?_
        rintro e w' ⟨hfe, hkx, hqn⟩
        rcases hfe with ⟨_, hpe, rv, rfl, hv⟩ | ⟨h, _⟩
        · refine ⟨rv, rfl, hpe, CQ.of hG hN (hb.trans (hb2.mono (by omega))) (by omega) hkx hqn, hv, ?_, ?_⟩
          · exact (hkx.block _ (by omega) (fun h => by have := (hN _ h).1; omega)).trans (hb2.block _ (by omega))
          · exact (hkx.block _ (by omega) (fun h => by have := (hN _ h).1; omega)).trans (hb2.block _ (by omega))
        · exact absurd hp h
      refine (call2_ret F fst cap g w.heap.size (w.heap.size + 1) (w.heap.size + 2) id er _ W1 p0 hq0.gh.c1 hq0.gh.c0 hcf HR ?_ (by omega)).mono ?_
      · rintro rv w' ⟨_, hq, _⟩
        exact ⟨⟨none, by rw [cell_of_row _ _ 0 _ _ _ hq.b1]; rfl⟩, ⟨0, by rw [cell_of_row _ _ 0 _ _ _ hq.b2]; rfl⟩, frozen_of_row _ _ 0 _ _ hq.b1, frozen_of_row _ _ 0 _ _ hq.b2⟩
      · rintro e w' ⟨rfl, rv, w1, ⟨hpe, hq, hv, h3, h4⟩, rfl⟩
        refine ⟨.inl ⟨rfl, hp, hpe⟩, ?_, ?_, rv, er, hq.put rv er hl (fun j hj => (hN j hj).1) hQ (fun h => hv h.2), fun _ => rfl⟩
        · exact (Below.heap_setCell _ _ _ _ (by show _ ≠ w.heap.size + 2; omega)).trans ((Below.heap_setCell _ _ _ _ (by show _ ≠ w.heap.size + 1; omega)).trans h3)
        · exact (Below.heap_setCell _ _ _ _ (by show _ ≠ w.heap.size + 2; omega)).trans ((Below.heap_setCell _ _ _ _ (by show _ ≠ w.heap.size + 1; omega)).trans h4)
    · have HR : ∀ W2, Below W1.heap.size W1 W2 → W2.heap.size = W1.heap.size → Calls Tryz.prog F (fst.push (.int .u64 id) ++ cap) W2 fun e w' => ∃ v, e = .panicked [{ v := v, recovered := false }] ∧ Kd v pk pe ∧ (CQ w g (gc id (.func (.func F) fst cap) true la cl vr fp pl ol nw) N Qn False tm none 0 w' ∧ w'.heap[w.heap.size + 3]? = W1.heap[w.heap.size + 3]? ∧ w'.heap[w.heap.size + 4]? = W1.heap[w.heap.size + 4]?) := by
        intro W2 hb2 hs2
        refine (HF W2 (hk1.trans (.of hb2)) (by omega)).mono ?_
        rintro e w' ⟨hfe, hkx, hqn⟩
        rcases hfe with ⟨h, _⟩ | ⟨_, v, rfl, hv⟩
        · exact absurd h hp
        · refine ⟨v, rfl, hv, CQ.of hG hN (hb.trans (hb2.mono (by omega))) (by omega) hkx hqn, ?_, ?_⟩
          · exact (hkx.block _ (by omega) (fun h => by have := (hN _ h).1; omega)).trans (hb2.block _ (by omega))
          · exact (hkx.block _ (by omega) (fun h => by have := (hN _ h).1; omega)).trans (hb2.block _ (by omega))
      refine (call2_pan F fst cap g w.heap.size (w.heap.size + 1) (w.heap.size + 2) id pk pe _ W1 p0 hq0.gh.c1 hq0.gh.c0 hcf HR).mono ?_
      rintro e w' ⟨v, rfl, hk, hq, h3, h4⟩
      exact ⟨.inr ⟨v, rfl, hk⟩, h3, h4, none, 0, ⟨hq.b0, hq.b1, hq.b2, hq.gh, hq.kx, hq.qn, fun h => absurd h.1 hp⟩, fun h => absurd h hp⟩

set_option maxRecDepth 100000 in
set_option maxHeartbeats 2000000 in
theorem gcall_any (F : Nat) (fst cap : Array Value) (g : Nat) (id la : Int) (cl : ByteArray) (vr : Int) (fp pl ol nw : Option Addr) (pk pe er : Int) (tm : Tm) (N : Nat → Prop) (Qn : World → Prop) (w : World)
    (hG : Gh w g (gc id (.func (.func F) fst cap) false la cl vr fp pl ol nw))
    (hcf : ∀ W, Sem.run Tryz.prog (callFunc F (fst.push (.int .u64 id) ++ cap)) W = .ok (.enter F (fst.push (.int .u64 id) ++ cap)) W)
    (hN : ∀ j, N j → j < w.heap.size ∧ j ≠ g) (hQ : Stb w.heap.size g Qn)
    (HF : ∀ W, Kx (· = g) w W → w.heap.size + 5 ≤ W.heap.size → Calls Tryz.prog F (fst.push (.int .u64 id) ++ cap) W fun e w' => FG w.heap.size g pk pe er tm e w' ∧ Kx N W w' ∧ Qn w') :
    Calls Tryz.prog 93 #[.pointer (some ⟨g, 0, none⟩)] w fun e w' => ∃ rv er', e = .returned (.tuple #[.pointer rv, .int .i64 er']) ∧ er' = (if pk = 0 then er else 9) ∧ (er' = 0 → tm.V w' (Vg g w') (.iface 31 (.pointer rv))) ∧ Kx N w w' ∧ Qn w' := by
  have HT : Hid (∀ W, W = CW w g → Calls Tryz.prog 107 #[.func (.func 108) #[] #[.pointer (some ⟨w.heap.size, 0, none⟩), .pointer (some ⟨w.heap.size + 1, 0, none⟩), .pointer (some ⟨w.heap.size + 2, 0, none⟩)]] W fun e w' =>
      e = .returned (.tuple #[.int .i64 pk, .int .i64 pe]) ∧ ∃ rv er1, CQ w g (gc id (.func (.func F) fst cap) true la cl vr fp pl ol nw) N Qn (pk = 0 ∧ er = 0) tm rv er1 w' ∧ (pk = 0 → er1 = er)) := fun W hW => by subst hW; exact gtry_any F fst cap g id la cl vr fp pl ol nw pk pe er tm N Qn w hG hcf hN hQ HF
  have HG : Hid (Gh w g (gc id (.func (.func F) fst cap) false la cl vr fp pl ol nw)) := hG
  have HN : Hid (∀ j, N j → j < w.heap.size ∧ j ≠ g) := hN
  have HQ : Hid (Stb w.heap.size g Qn) := hQ
  have hmf : ∀ (fn : Fn) (first cap : Array Value) (w : World), (Instr.makeFunc fn first cap).run Tryz.prog w = .ok (.func fn first cap) w := fun _ _ _ _ => rfl
  have hl := hG.lt
  have z2 : ∀ o1 o2 o3, (((w.alloc o1).alloc o2).alloc o3).frozen? ⟨g, 2, none⟩ = false := fun o1 o2 o3 => by
    have hk : Gh (((w.alloc o1).alloc o2).alloc o3) g (gc id (.func (.func F) fst cap) false la cl vr fp pl ol nw) := HG.out.keep (((Kx.refl (fun _ => False) w).alloc o1).alloc o2 |>.alloc o3 |>.block g hl (fun h => h))
    exact hk.free 2
  have c2 : ∀ o1 o2 o3, (((w.alloc o1).alloc o2).alloc o3).cell? ⟨g, 2, none⟩ = some (.bool false) := fun o1 o2 o3 => by
    have hk : Gh (((w.alloc o1).alloc o2).alloc o3) g (gc id (.func (.func F) fst cap) false la cl vr fp pl ol nw) := HG.out.keep (((Kx.refl (fun _ => False) w).alloc o1).alloc o2 |>.alloc o3 |>.block g hl (fun h => h))
    exact hk.c2
  clear hG hcf HF hN hQ
  go_enter_defers Tryz.func93, Tryz.ntmps93
  go_wp2_with fail
  refine (HT.out _ rfl).mono ?_
  rintro e w1 ⟨rfl, rv, er1, hq, her⟩
  have HCQ : Hid (CQ w g (gc id (.func (.func F) fst cap) true la cl vr fp pl ol nw) N Qn (pk = 0 ∧ er = 0) tm rv er1 w1) := hq
  have d0 : w1.cell? ⟨w.heap.size, 0, none⟩ = some (.pointer (some ⟨g, 0, none⟩)) := by rw [cell_of_row _ _ 0 _ _ _ hq.b0]; rfl
  have d1 : w1.cell? ⟨w.heap.size + 1, 0, none⟩ = some (.pointer rv) := by rw [cell_of_row _ _ 0 _ _ _ hq.b1]; rfl
  have d2 : w1.cell? ⟨w.heap.size + 1 + 1, 0, none⟩ = some (.int .i64 er1) := by rw [cell_of_row _ _ 0 _ _ _ hq.b2]; rfl
  have y1 : w1.frozen? ⟨w.heap.size + 1, 0, none⟩ = false := frozen_of_row _ _ 0 _ _ hq.b1
  have y2 : w1.frozen? ⟨w.heap.size + 1 + 1, 0, none⟩ = false := frozen_of_row _ _ 0 _ _ hq.b2
  have d2' : ∀ v, (w1.setCell ⟨w.heap.size + 1, 0, none⟩ v).cell? ⟨w.heap.size + 1 + 1, 0, none⟩ = some (.int .i64 er1) := fun v => by rw [World.cell?_setCell_other _ _ _ _ (by intro e; injection e with e1 _; omega)]; exact d2
  -- the end: the deferred call, and the results
  have HE : Hid (∀ X rv' er', CQ w g (gc id (.func (.func F) fst cap) true la cl vr fp pl ol nw) N Qn (pk = 0 ∧ er = 0) tm rv' er' X → CallsD Tryz.prog 106 #[.pointer (some ⟨w.heap.size, 0, none⟩)] .returning X fun e u' w' => e = .returned (.tuple #[]) ∧ u' = .returning ∧ w'.cell? ⟨w.heap.size + 1, 0, none⟩ = some (.pointer rv') ∧ w'.cell? ⟨w.heap.size + 1 + 1, 0, none⟩ = some (.int .i64 er') ∧ Kx N w w' ∧ Qn w' ∧ ((pk = 0 ∧ er = 0) → tm.V w' (Vg g w') (.iface 31 (.pointer rv')))) := by
    intro X rv' er' hX
    refine (call1_d w.heap.size g true .returning X (by rw [cell_of_row _ _ 0 _ _ _ hX.b0]; rfl) hX.gh.c2 (hX.gh.free 2)).mono ?_
    rintro e u' w' ⟨rfl, rfl, rfl⟩
    obtain ⟨k1, k2, k3⟩ := hX.out HG.out HN.out HQ.out
    have hl := HG.out.lt
    refine ⟨rfl, rfl, ?_, ?_, k1, k2, k3⟩
    · rw [World.cell?_setCell_other _ _ _ _ (by intro e; injection e with e1 _; omega), cell_of_row _ _ 0 _ _ _ hX.b1]; rfl
    · rw [World.cell?_setCell_other _ _ _ _ (by intro e; injection e with e1 _; omega), cell_of_row _ _ 0 _ _ _ hX.b2]; rfl
  by_cases hp : pk = 0
  · have her' : er1 = er := her hp
    subst hp her'
    have HX : Hid (CQ w g (gc id (.func (.func F) fst cap) true la cl vr fp pl ol nw) N Qn ((0 : Int) = 0 ∧ er1 = 0) tm rv er1 ((w1.setCell ⟨w.heap.size + 1, 0, none⟩ (.pointer rv)).setCell ⟨w.heap.size + 1 + 1, 0, none⟩ (.int .i64 er1)).drew) := (HCQ.out.weak.put rv er1 hl (fun j hj => (HN.out j hj).1) HQ.out HCQ.out.v).drew HQ.out
    clear hq her HT c2 z2
    go_wp2_with fail
    go_region
    generalize ((w1.setCell ⟨w.heap.size + 1, 0, none⟩ (.pointer rv)).setCell ⟨w.heap.size + 1 + 1, 0, none⟩ (.int .i64 er1)).drew = X at HX ⊢
    go_wp2_with fail
    refine leaves_cons (f := 106) (args := #[.pointer (some ⟨w.heap.size, 0, none⟩)]) (by simp) (by simp [go_sem]) ?_
    refine (HE.out X rv er1 HX.out).mono ?_
    rintro e u' w2 ⟨rfl, rfl, e1, e2, k1, k2, k3⟩
    simp [Leaves, settle, results, Tryz.results93, go_sem, e1, e2]
    exact ⟨rv, er1, ⟨rfl, rfl⟩, rfl, fun h => k3 ⟨trivial, h⟩, k1, k2⟩
  · have hpb : (pk != 0) = true := by simp [hp]
    have HX : Hid (CQ w g (gc id (.func (.func F) fst cap) true la cl vr fp pl ol nw) N Qn (pk = 0 ∧ er = 0) tm none 9 ((w1.setCell ⟨w.heap.size + 1, 0, none⟩ (.pointer none)).setCell ⟨w.heap.size + 1 + 1, 0, none⟩ (.int .i64 9))) := HCQ.out.weak.put none 9 hl (fun j hj => (HN.out j hj).1) HQ.out (fun h => absurd h.1 hp)
    clear hq her HT c2 z2
    go_wp2_with fail
    generalize (w1.setCell ⟨w.heap.size + 1, 0, none⟩ (.pointer none)).setCell ⟨w.heap.size + 1 + 1, 0, none⟩ (.int .i64 9) = X at HX ⊢
    refine leaves_cons (f := 106) (args := #[.pointer (some ⟨w.heap.size, 0, none⟩)]) (by simp) (by simp [go_sem]) ?_
    refine (HE.out X none 9 HX.out).mono ?_
    rintro e u' w2 ⟨rfl, rfl, e1, e2, k1, k2, k3⟩
    simp [Leaves, settle, results, Tryz.results93, go_sem, e1, e2]
    exact ⟨none, 9, ⟨rfl, rfl⟩, by simp, fun h => by simp at h, k1, k2⟩
end Go.Proofs.YtjlhmgopmdcopaaGreat

/- A Thing in blocks of a set; object.New into new blocks; a record that can be, as an object of its fields. -/
namespace Go.Proofs.YtjlhmgopmdcopaaGreat
open Go.RowKit

/-- at b lies a Thing, in the blocks of B -/
def ThS (w : World) (B : Nat → Prop) (b : Nat) (id : Int) (L : TmF) : Prop := B b ∧ w.cell? ⟨b, 0, none⟩ = some (.int .u64 id) ∧ ∃ a cap, w.cell? ⟨b, 1, none⟩ = some (.slice a L.len cap) ∧ L.LV w B a cap
theorem ThS.keep {w w' : World} {B B' : Nat → Prop} {b : Nat} {id : Int} {L : TmF} (h : ThS w B b id L) (hs : Same B w w') (hB : ∀ k, B k → B' k) : ThS w' B' b id L := by
  obtain ⟨h1, h2, a, cap, h3, h4⟩ := h
  exact ⟨hB _ h1, by rw [hs.cell (p := ⟨b, 0, none⟩) h1]; exact h2, a, cap, by rw [hs.cell (p := ⟨b, 1, none⟩) h1]; exact h3, L.LV_same hs hB a cap h4⟩
theorem ThS.th {w : World} {B : Nat → Prop} {b : Nat} {id : Int} {L : TmF} (h : ThS w B b id L) (hB : ∀ k, B k → k < w.heap.size) : Th w b id L := by
  obtain ⟨_, h2, a, cap, h3, h4⟩ := h
  exact ⟨h2, a, cap, h3, L.LV_same (Same.refl _ _) hB a cap h4⟩

set_option maxRecDepth 100000 in
set_option maxHeartbeats 2000000 in
theorem New_fr (id : Int) (L : TmF) (a : Option Addr) (cap : Nat) (w : World) (hi : (id == 0) = false) (hL : L.LV w (Lo w.heap.size) a cap) (he : (dctT L).all.e = 0) :
    Calls Tryz.prog 95 #[.int .u64 id, .slice a L.len cap] w fun e w' => ∃ b, e = .returned (.tuple #[.pointer (some ⟨b, 0, none⟩), .int .i64 0]) ∧ Below w.heap.size w w' ∧ ThS w' (Fr w w') b id L := by
  have HC : Hid (Calls Tryz.prog 64 #[.iface 57 (.slice a L.len cap)] w fun e w' => ∃ a' cap', e = .returned (.tuple #[.iface 57 (.slice a' L.len cap'), .int .i64 0]) ∧ Below w.heap.size w w' ∧ L.LV w' (Fr w w') a' cap') := by
    refine (Copy_ok (dctT L) _ w.heap.size w (Nat.le_refl _) (Tm.V_of9 hL) he).mono ?_
    rintro e w' ⟨v', rfl, hb, hv⟩
    simp only [dctT, Tm.V] at hv
    obtain ⟨_, _, _, _, _, _, _, _, h9, _⟩ := hv
    obtain ⟨a', cap', rfl, h1, h2⟩ := h9 trivial
    exact ⟨a', cap', rfl, hb, ⟨h1, h2⟩⟩
  clear hL he
  go_enter Tryz.func95, Tryz.ntmps95
  go_wp2_with fail
  refine HC.out.mono ?_
  rintro e w1 ⟨a', cap', rfl, hb1, hL1⟩
  have HB : Hid (Below w.heap.size w w1 ∧ L.LV w1 (Fr w w1) a' cap') := ⟨hb1, hL1⟩
  have HT : Hid (∀ T, ThS (w1.alloc (.cells #[.int .u64 id, .slice a' L.len cap'] T)) (Fr w (w1.alloc (.cells #[.int .u64 id, .slice a' L.len cap'] T))) w1.heap.size id L) := fun T =>
    ⟨⟨HB.out.1.size, by simp⟩, by simp, a', cap', by simp, L.LV_same (fun k hk => Below.heap_alloc _ _ _ hk.2) (fun k hk => ⟨hk.1, Nat.lt_of_lt_of_le hk.2 (by simp)⟩) a' cap' HB.out.2⟩
  clear hb1 hL1 HC
  go_wp2_with fail
  go_ret2
  exact ⟨_, rfl, HB.out.1.alloc HB.out.1.size _, HT.out _⟩

/-- a record that can be -/
theorem rec_ok {tm : Tm} {w : World} {B : Nat → Prop} {rv : Option Addr} (hv : tm.V w B (.iface 31 (.pointer rv))) (he : tm.all.e = 0) :
    ∃ b i f tx by' rf l fs c vr g a cap, tm = .mk 10 b i f tx by' rf l fs c vr ∧ rv = some ⟨g, 0, none⟩ ∧ B g ∧ w.cell? ⟨g, 0, none⟩ = some (.string c) ∧ w.cell? ⟨g, 1, none⟩ = some (.int .i64 vr) ∧ w.cell? ⟨g, 2, none⟩ = some (.slice a fs.len cap) ∧ fs.LV w B a cap ∧ c.size ≤ 32 ∧ (dctT fs).all.e = 0 := by
  cases tm with
  | mk k b i f tx by' rf l fs c vr =>
    have hw : ((Tm.mk k b i f tx by' rf l fs c vr).wk 1 0 0).e = 0 := he
    by_cases h0 : Sp.ent k 0 1 = 0
    · obtain ⟨k1, k10, _, _⟩ := Sp.ent_zero h0
      have hk : k = 10 := by
        simp only [Tm.V] at hv
        obtain ⟨h1, h2, h3, h4, h5, h6, h7, h8, h9, _⟩ := hv
        rcases (by omega : k = 1 ∨ k = 2 ∨ k = 3 ∨ k = 4 ∨ k = 5 ∨ k = 6 ∨ k = 7 ∨ k = 8 ∨ k = 9 ∨ k = 10) with rfl | rfl | rfl | rfl | rfl | rfl | rfl | rfl | rfl | rfl
        · cases h1 rfl
        · cases h2 rfl
        · cases h3 rfl
        · cases (h4 rfl).1
        · cases (h5 rfl).1
        · obtain ⟨_, _, e, _⟩ := h6 rfl; cases e
        · cases h7 rfl
        · obtain ⟨_, _, e, _⟩ := h8 rfl; cases e
        · obtain ⟨_, _, e, _⟩ := h9 rfl; cases e
        · rfl
      subst hk
      by_cases hh : Sp.headR c vr = 0
      · rw [Tm.wk_10 h0 hh] at hw
        simp only [Tm.V] at hv
        obtain ⟨_, _, _, _, _, _, _, _, _, h10, _⟩ := hv
        obtain ⟨g, a, cap, e, hg, c0, c1, c2, hc, hL, hF⟩ := h10 trivial
        injection e with _ e
        injection e with e
        refine ⟨b, i, f, tx, by', rf, l, fs, c, vr, g, a, cap, rfl, e, hg, c0, c1, c2, ⟨hL, hF⟩, ?_, ?_⟩
        · unfold Sp.headR at hh
          split at hh
          · cases hh
          · rename_i hn
            simp [Sp.isNm] at hn
            omega
        · show ((dctT fs).wk 1 0 0).e = 0
          unfold dctT
          rw [Tm.wk_9 (by decide)]
          exact hw
      · rw [Tm.wk_10' h0 hh] at hw
        exact absurd hw hh
    · rw [Tm.wk_ent h0] at hw
      exact absurd hw h0
end Go.Proofs.YtjlhmgopmdcopaaGreat

/- Ghost.load: the reason; with OK the ghost has a copy of the record. -/
namespace Go.Proofs.YtjlhmgopmdcopaaGreat
open Go.RowKit

theorem Kx.setg {g o : Nat} {a w : World} (h : Kx (· = g) a w) (v : Value) : Kx (· = g) a (w.setCell ⟨g, o, none⟩ v) := h.set (c := g) (.inl rfl) v
/-- why a load ends so -/
def whyOf (pk er : Int) (tm : Tm) : Int := if pk = 0 then (if er = 0 then tm.all.e else er) else 9

section
variable (F : Nat) (fst cap : Array Value) (g : Nat) (id la : Int) (pk pe er : Int) (tm : Tm) (N : Nat → Prop) (Qn : World → Prop) (w : World)
/-- what is asked of a fetch -/
def Fet : Prop := (∀ W, Sem.run Tryz.prog (callFunc F (fst.push (.int .u64 id) ++ cap)) W = .ok (.enter F (fst.push (.int .u64 id) ++ cap)) W) ∧ (∀ j, N j → j < w.heap.size ∧ j ≠ g) ∧ Stb w.heap.size g Qn ∧
  (∀ W, Kx (· = g) w W → w.heap.size + 5 ≤ W.heap.size → Calls Tryz.prog F (fst.push (.int .u64 id) ++ cap) W fun e w' => FG w.heap.size g pk pe er tm e w' ∧ Kx N W w' ∧ Qn w')
end
theorem load_call {F : Nat} {fst cap : Array Value} {g : Nat} {id la : Int} {pk pe er : Int} {tm : Tm} {N : Nat → Prop} {Qn : World → Prop} {w : World} {pl ol nw : Option Addr} (hG : Gh w g (gc id (.func (.func F) fst cap) false la ⟨#[]⟩ 0 none pl ol nw)) (hF : Fet F fst cap g id pk pe er tm N Qn w) :
    Calls Tryz.prog 93 #[.pointer (some ⟨g, 0, none⟩)] w fun e w' => ∃ rv er', e = .returned (.tuple #[.pointer rv, .int .i64 er']) ∧ (er' ≠ 0 → whyOf pk er tm = er') ∧ (er' = 0 → whyOf pk er tm = tm.all.e ∧ tm.V w' (Vg g w') (.iface 31 (.pointer rv))) ∧ Kx N w w' ∧ Qn w' ∧ Gh w' g (gc id (.func (.func F) fst cap) false la ⟨#[]⟩ 0 none pl ol nw) := by
  refine (gcall_any F fst cap g id la _ _ _ _ _ _ pk pe er tm N Qn w hG hF.1 hF.2.1 hF.2.2.1 hF.2.2.2).mono ?_
  rintro e w' ⟨rv, er', rfl, he, hv, hk, hq⟩
  refine ⟨rv, er', rfl, fun h => ?_, fun h => ⟨?_, hv h⟩, hk, hq, hG.keep (hk.block g hG.lt (fun h => (hF.2.1 g h).2 rfl))⟩
  · unfold whyOf
    by_cases hp : pk = 0
    · rw [if_pos hp] at he ⊢; subst he; rw [if_neg h]
    · rw [if_neg hp] at he ⊢; exact he.symm
  · unfold whyOf
    by_cases hp : pk = 0
    · rw [if_pos hp] at he ⊢; rw [if_pos (by omega)]
    · rw [if_neg hp] at he; omega

set_option maxRecDepth 100000 in
set_option maxHeartbeats 2000000 in
theorem load_bad {F : Nat} {fst cap : Array Value} {g : Nat} {id la : Int} {pk pe er : Int} {tm : Tm} {N : Nat → Prop} {Qn : World → Prop} {w : World} (hG : Gh w g (gc id (.func (.func F) fst cap) false la ⟨#[]⟩ 0 none)) (hF : Fet F fst cap g id pk pe er tm N Qn w) (hw : whyOf pk er tm ≠ 0) :
    Calls Tryz.prog 70 #[.pointer (some ⟨g, 0, none⟩)] w fun e w' => e = .returned (.int .i64 (whyOf pk er tm)) ∧ Kx N w w' ∧ Qn w' ∧ Gh w' g (gc id (.func (.func F) fst cap) false la ⟨#[]⟩ 0 none) := by
  have HC : Hid (Calls Tryz.prog 93 #[.pointer (some ⟨g, 0, none⟩)] w fun e w' => ∃ rv er', e = .returned (.tuple #[.pointer rv, .int .i64 er']) ∧ (er' ≠ 0 → whyOf pk er tm = er') ∧ (er' = 0 → whyOf pk er tm = tm.all.e ∧ tm.V w' (Vg g w') (.iface 31 (.pointer rv))) ∧ Kx N w w' ∧ Qn w' ∧ Gh w' g (gc id (.func (.func F) fst cap) false la ⟨#[]⟩ 0 none)) := load_call hG hF
  have HN : Hid (∀ j, N j → j < w.heap.size ∧ j ≠ g) := hF.2.1
  have HQ : Hid (Stb w.heap.size g Qn) := hF.2.2.1
  have HL : Hid (g < w.heap.size) := hG.lt
  clear hG hF
  generalize whyOf pk er tm = why at HC hw ⊢
  go_enter Tryz.func70, Tryz.ntmps70
  go_wp2_with fail
  refine HC.out.mono ?_
  rintro e w1 ⟨rv, er', rfl, h1, h2, hk, hq, hg⟩
  have HR : Hid (Kx N w w1 ∧ Qn w1 ∧ Gh w1 g (gc id (.func (.func F) fst cap) false la ⟨#[]⟩ 0 none)) := ⟨hk, hq, hg⟩
  by_cases hz : er' = 0
  · obtain ⟨ha, hv⟩ := h2 hz
    subst hz
    have hb : (why != 0) = true := by simp [hw]
    have HK : Hid (Calls Tryz.prog 6 #[.iface 31 (.pointer rv)] w1 fun e w' => e = .returned (.tuple #[.int .i64 tm.cAt, .int .i64 why]) ∧ Below w1.heap.size w1 w') := by
      rw [ha]; exact Check_any tm _ w1.heap.size w1 (Nat.le_refl _) (tm.V_same (Same.refl _ _) (fun k hk => hk.1) _ hv)
    clear h1 h2 hk hq hg ha hv HC
    go_wp2_with fail
    refine HK.out.mono ?_
    rintro e w2 ⟨rfl, hb2⟩
    have hs := hb2.size
    have HR2 : Hid (Kx N w w2 ∧ Qn w2 ∧ Gh w2 g (gc id (.func (.func F) fst cap) false la ⟨#[]⟩ 0 none)) := ⟨HR.out.1.trans (.of hb2), HQ.out w1 w2 hb2.size (fun k hk _ _ => hb2.block k hk) HR.out.2.1, HR.out.2.2.keep (hb2.block g (Nat.lt_of_lt_of_le HL.out HR.out.1.size))⟩
    clear hb2 hs HK
    go_wp2_with fail
    go_ret
    exact ⟨rfl, HR2.out⟩
  · have hb : (er' != 0) = true := by simp [hz]
    have HW : Hid (why = er') := h1 hz
    clear h1 h2 hk hq hg HC hz
    go_wp2_with fail
    go_ret
    exact ⟨by rw [HW.out]; rfl, HR.out⟩

def Tm.cOf : Tm → ByteArray | .mk _ _ _ _ _ _ _ _ _ c _ => c
def Tm.vOf : Tm → Int | .mk _ _ _ _ _ _ _ _ _ _ v => v
/-- a ghost that is loaded with the record of a term: its Thing lies in the blocks of B -/
def GL (w : World) (B : Nat → Prop) (g : Nat) (id : Int) (fn : Value) (la : Int) (tm : Tm) : Prop := ∃ fb, (dctT tm.fields).all.e = 0 ∧ Gh w g (gc id fn false la tm.cOf tm.vOf (some ⟨fb, 0, none⟩)) ∧ ThS w B fb id tm.fields

set_option maxRecDepth 100000 in
set_option maxHeartbeats 4000000 in
theorem load_ok {F : Nat} {fst cap : Array Value} {g : Nat} {id la : Int} {pk pe er : Int} {tm : Tm} {N : Nat → Prop} {Qn : World → Prop} {w : World} (hi : (id == 0) = false) (hG : Gh w g (gc id (.func (.func F) fst cap) false la ⟨#[]⟩ 0 none)) (hF : Fet F fst cap g id pk pe er tm N Qn w) (hw : whyOf pk er tm = 0) :
    Calls Tryz.prog 70 #[.pointer (some ⟨g, 0, none⟩)] w fun e w' => e = .returned (.int .i64 0) ∧ Kx (fun j => N j ∨ j = g) w w' ∧ Qn w' ∧ GL w' (Fr w w') g id (.func (.func F) fst cap) la tm := by
  have HC : Hid (Calls Tryz.prog 93 #[.pointer (some ⟨g, 0, none⟩)] w fun e w' => ∃ rv er', e = .returned (.tuple #[.pointer rv, .int .i64 er']) ∧ (er' ≠ 0 → whyOf pk er tm = er') ∧ (er' = 0 → whyOf pk er tm = tm.all.e ∧ tm.V w' (Vg g w') (.iface 31 (.pointer rv))) ∧ Kx N w w' ∧ Qn w' ∧ Gh w' g (gc id (.func (.func F) fst cap) false la ⟨#[]⟩ 0 none)) := load_call hG hF
  have HN : Hid (∀ j, N j → j < w.heap.size ∧ j ≠ g) := hF.2.1
  have HQ : Hid (Stb w.heap.size g Qn) := hF.2.2.1
  have HL : Hid (g < w.heap.size) := hG.lt
  rw [hw] at HC
  clear hG hF hw
  have hpq : ∀ W, (binOp .neq 69 (.pointer none) (.pointer none)).run Tryz.prog W = .ok (.bool false) W := fun W => by kernel_rfl
  have hpg : ∀ x y W, (eqGuard .neq 69 x y (.pointer none) (.pointer none)).run Tryz.prog W = .ok () W := fun x y W => by kernel_rfl
  go_enter Tryz.func70, Tryz.ntmps70
  go_wp2_with fail
  refine HC.out.mono ?_
  rintro e w1 ⟨rv, er', rfl, h1, h2, hk, hq, hg⟩
  obtain rfl : er' = 0 := by by_cases h : er' = 0; exact h; exact absurd (h1 h).symm h
  obtain ⟨ha, hv⟩ := h2 rfl
  obtain ⟨b0, i0, f0, tx0, by0, rf0, l0, fs, c, vr, rb, af, cf, rfl, rfl, hrb, c0, c1, c2, hLV, hcs, hde⟩ := rec_ok hv ha.symm
  have HK : Hid (Calls Tryz.prog 6 #[.iface 31 (.pointer (some ⟨rb, 0, none⟩))] w1 fun e w' => e = .returned (.tuple #[.int .i64 (Tm.mk 10 b0 i0 f0 tx0 by0 rf0 l0 fs c vr).cAt, .int .i64 0]) ∧ Below w1.heap.size w1 w') := by
    have := Check_any (Tm.mk 10 b0 i0 f0 tx0 by0 rf0 l0 fs c vr) _ w1.heap.size w1 (Nat.le_refl _) (Tm.V_same (Same.refl _ _) (fun k hk => hk.1) _ _ hv); rw [← ha] at this; exact this
  have HR : Hid (Kx N w w1 ∧ Qn w1 ∧ Gh w1 g (gc id (.func (.func F) fst cap) false la ⟨#[]⟩ 0 none)) := ⟨hk, hq, hg⟩
  have HV : Hid (Vg g w1 rb ∧ w1.cell? ⟨rb, 0, none⟩ = some (.string c) ∧ w1.cell? ⟨rb, 1, none⟩ = some (.int .i64 vr) ∧ w1.cell? ⟨rb, 2, none⟩ = some (.slice af fs.len cf) ∧ fs.LV w1 (Vg g w1) af cf ∧ c.size ≤ 32 ∧ (dctT fs).all.e = 0) := ⟨hrb, c0, c1, c2, hLV, hcs, hde⟩
  clear h1 h2 hk hq hg ha hv hrb c0 c1 c2 hLV hcs hde HC
  generalize (Tm.mk 10 b0 i0 f0 tx0 by0 rf0 l0 fs c vr).cAt = at0 at HK
  go_wp2_with fail
  refine HK.out.mono ?_
  rintro e w2 ⟨rfl, hb2⟩
  have hs := hb2.size
  have hs1 := HR.out.1.size
  have hgr : g ≠ rb := Ne.symm HV.out.1.2
  have hrl : rb < w1.heap.size := HV.out.1.1
  -- everything that the walk reads, in every world that leaves w2's blocks as they are
  have HW : Hid (∀ W, Below w2.heap.size w2 W → W.cell? ⟨rb, 0, none⟩ = some (.string c) ∧ W.cell? ⟨rb, 1, none⟩ = some (.int .i64 vr) ∧ W.cell? ⟨rb, 2, none⟩ = some (.slice af fs.len cf) ∧ Gh W g (gc id (.func (.func F) fst cap) false la ⟨#[]⟩ 0 none) ∧ fs.LV W (Vg g w1) af cf) := by
    intro W hW
    have hb : Below w1.heap.size w1 W := hb2.trans (hW.mono hs)
    refine ⟨by rw [hb.cell (p := ⟨rb, 0, none⟩) hrl]; exact HV.out.2.1, by rw [hb.cell (p := ⟨rb, 1, none⟩) hrl]; exact HV.out.2.2.1, by rw [hb.cell (p := ⟨rb, 2, none⟩) hrl]; exact HV.out.2.2.2.1, HR.out.2.2.keep (hb.block g (by have := HL.out; omega)), fs.LV_same (fun k hk => hb.block k hk.1) (fun _ h => h) af cf HV.out.2.2.2.2.1⟩
  have HB2 : Hid (Below w1.heap.size w1 w2) := hb2
  have HCl : Hid (∀ W, Calls Tryz.prog 94 #[.string c] W fun e w' => e = .returned (.string c) ∧ Below W.heap.size W w') := fun W => sClone_any c W (by have := HV.out.2.2.2.2.2.1; omega)
  obtain ⟨r0, r1, r2, rg, _⟩ := HW.out w2.drew (Below.refl _ _).drew
  have HRg : Hid (Gh w2.drew g (gc id (.func (.func F) fst cap) false la ⟨#[]⟩ 0 none)) := rg
  clear hb2 hs hs1 HK rg hrl
  go_wp2_with fail
  go_region_with ((go_at_call 94; refine (HCl.out _).mono ?_; rintro e w3 ⟨rfl, hb3⟩; have HB3 : Hid (Below w2.heap.size w2 w3) := (Below.refl _ _).drew.trans hb3; obtain ⟨s0, s1, s2, sg, _⟩ := HW.out w3 HB3.out; have s4 := sg.c4; have s5 := (sg.s4 c).c5; have z4 := sg.free 4; have z5 := (sg.s4 c).free 5; clear hb3 sg s0 s2))
  all_goals
    have HX : Hid (∃ X3, (w3.setCell ⟨g, 4, none⟩ (.string c)).setCell ⟨g, 5, none⟩ (.int .i64 vr) = X3 ∧ Gh X3 g (gc id (.func (.func F) fst cap) false la c vr none) ∧ Kx (· = g) w2 X3 ∧ X3.cell? ⟨rb, 2, none⟩ = some (.slice af fs.len cf) ∧ fs.LV X3 (Vg g w1) af cf) := by
      obtain ⟨_, _, q2, qg, qL⟩ := HW.out w3 HB3.out
      have hk3 : Kx (· = g) w2 ((w3.setCell ⟨g, 4, none⟩ (.string c)).setCell ⟨g, 5, none⟩ (.int .i64 vr)) := (Kx.setg (Kx.of HB3.out) _).setg _
      have far : ∀ k, k ≠ g → ((w3.setCell ⟨g, 4, none⟩ (.string c)).setCell ⟨g, 5, none⟩ (.int .i64 vr)).heap[k]? = w3.heap[k]? := fun k hk => (Below.heap_setCell _ _ _ _ hk).trans (Below.heap_setCell _ _ _ _ hk)
      refine ⟨_, rfl, (qg.s4 c).s5 vr, hk3, ?_, fs.LV_same (fun k hk => far k hk.2) (fun _ h => h) af cf qL⟩
      rw [World.cell?_of_block (w := w3) (far rb (fun h => hgr h.symm))]; exact q2
    obtain ⟨X3, hX3, hXg, hXk, hX2, hXL⟩ := HX.out
    rw [hX3]
    clear HX hX3 HCl s1 s4 s5 z4 z5
    have x0 := hXg.c0
    have HX3 : Hid (Gh X3 g (gc id (.func (.func F) fst cap) false la c vr none) ∧ Kx (· = g) w2 X3) := ⟨hXg, hXk⟩
    have HNw : Hid (Calls Tryz.prog 95 #[.int .u64 id, .slice af fs.len cf] X3.drew fun e w' => ∃ b, e = .returned (.tuple #[.pointer (some ⟨b, 0, none⟩), .int .i64 0]) ∧ Below X3.heap.size X3.drew w' ∧ ThS w' (Fr X3 w') b id fs) := by
      refine New_fr id fs af cf X3.drew hi (fs.LV_same (w := X3) (w' := X3.drew) (B := Vg g w1) (fun _ _ => rfl) (fun k hk => ?_) af cf hXL) HV.out.2.2.2.2.2.2
      have h1 := HB2.out.size
      have h2 := hXk.size
      show k < X3.heap.size
      exact Nat.lt_of_lt_of_le (Nat.lt_of_lt_of_le hk.1 h1) h2
    clear hXg hXk hXL r0 r1 r2 HRg
    go_wp2_with fail
    go_region_with ((go_at_call 95; refine HNw.out.mono ?_; rintro e w4 ⟨fb, rfl, hb4, hT⟩; have HT4 : Hid (Below X3.heap.size X3 w4 ∧ ThS w4 (Fr X3 w4) fb id fs) := ⟨(Below.refl _ _).drew.trans hb4, hT⟩; have hg4 : Gh w4 g (gc id (.func (.func F) fst cap) false la c vr none) := HX3.out.1.keep (hb4.block g HX3.out.1.lt); have y6 := hg4.c6; have z6 := hg4.free 6; have y7 := (hg4.s6 (some ⟨fb, 0, none⟩)).c7; have HG4 : Hid (Gh w4 g (gc id (.func (.func F) fst cap) false la c vr none)) := hg4; clear hb4 hT hg4))
    all_goals
      go_wp2_with fail
      go_ret
      have hl := HL.out
      have hl1 := HR.out.1.size
      have hl2 := HB2.out.size
      have hl3 := HX3.out.2.size
      have hk4 : Kx (· = g) w2 (w4.setCell ⟨g, 6, none⟩ (.pointer (some ⟨fb, 0, none⟩))) := (HX3.out.2.trans (.of HT4.out.1)).setg _
      have hk5 : Kx (fun j => N j ∨ j = g) w (w4.setCell ⟨g, 6, none⟩ (.pointer (some ⟨fb, 0, none⟩))) := ((HR.out.1.trans (.of HB2.out)).mono fun j h => .inl h).trans (hk4.mono fun j h => .inr h)
      refine ⟨rfl, hk5, HQ.out w1 _ (by have := hk4.size; omega) (fun k hk hn _ => ?_) HR.out.2.1, fb, HV.out.2.2.2.2.2.2, HG4.out.s6 _, HT4.out.2.keep (fun k hk => Below.heap_setCell _ _ _ _ (by show k ≠ g; have := hk.1; omega)) (fun k hk => ⟨by have := hk.1; omega, by simpa [World.setCell] using hk.2⟩)⟩
      exact (hk4.block k (by omega) hn).trans (HB2.out.block k hk)
end Go.Proofs.YtjlhmgopmdcopaaGreat

/- Thing.Get of a name that it has not; of any name. -/
namespace Go.Proofs.YtjlhmgopmdcopaaGreat
open Go.RowKit

theorem cmpS_zero' {a b : ByteArray} : Sp.cmpS a b = 0 ↔ a = b := by
  unfold Sp.cmpS
  rw [cmp_eq_zero]
  constructor
  · intro h
    have h2 : a.data = b.data := Array.ext' h
    cases a; cases b; simp at h2; rw [h2]
  · rintro rfl; rfl

theorem up_cut (nm : ByteArray) : (l : List ByteArray) → Sp.up l → nm ∉ l → ∃ J, J ≤ l.length ∧ ∀ (h : Nat) n, l[h]? = some n → (Sp.cmpS n nm < 0 ↔ h < J) ∧ Sp.cmpS n nm ≠ 0
  | [], _, _ => ⟨0, Nat.le_refl _, fun h n hn => by simp at hn⟩
  | a :: l, hu, hn => by
    obtain ⟨hl, ha⟩ := Sp.up_tail hu
    have hna : Sp.cmpS a nm ≠ 0 := fun h => hn (by rw [cmpS_zero'.1 h]; exact List.mem_cons_self)
    obtain ⟨J, hJ, hJ2⟩ := up_cut nm l hl (fun h => hn (List.mem_cons_of_mem _ h))
    by_cases hc : Sp.cmpS a nm < 0
    · refine ⟨J + 1, by simp; omega, fun h n hh => ?_⟩
      cases h with
      | zero => simp at hh; subst hh; exact ⟨⟨fun _ => by omega, fun _ => hc⟩, hna⟩
      | succ h => simp at hh; have := hJ2 h n hh; exact ⟨⟨fun h1 => by have := this.1.1 h1; omega, fun h1 => this.1.2 (by omega)⟩, this.2⟩
    · refine ⟨0, Nat.zero_le _, fun h n hh => ?_⟩
      cases h with
      | zero => simp at hh; subst hh; exact ⟨⟨fun h1 => absurd h1 hc, fun h1 => by omega⟩, hna⟩
      | succ h =>
        simp at hh
        refine ⟨⟨fun h1 => ?_, fun h1 => by omega⟩, (hJ2 h n hh).2⟩
        have h2 : Sp.cmpS a n < 0 := ha n (List.mem_of_getElem? hh)
        have h3 := cmpS_tri a n nm
        exact absurd (h3.2.1 h2 (by omega)) hc

set_option maxRecDepth 100000 in
set_option maxHeartbeats 2000000 in
theorem search_none (a : Option Addr) (cap : Nat) (nm : ByteArray) (w : World) :
    Calls Tryz.prog 61 #[.slice a 0 cap, .string nm, .func (.func 62) #[] #[]] w fun e w' => e = .returned (.tuple #[.int .i64 0, .bool false]) ∧ Below w.heap.size w w' := by
  go_enter Tryz.func61, Tryz.ntmps61
  go_wp2_with fail
  go_loopw [9, 10] (fun x y wr => x = .int .i64 0 ∧ y = .int .i64 0 ∧ Hid (Below w.heap.size w wr)) (fun x y _ => (intOf y).toNat - (intOf x).toNat)
  case atStart => exact ⟨rfl, rfl, Below.refl _ _⟩
  case round =>
    obtain ⟨rfl, rfl, HB⟩ := hrel
    go_wp2_with fail
    go_ret2
    exact ⟨rfl, HB.out⟩

set_option maxRecDepth 100000 in
set_option maxHeartbeats 2000000 in
theorem search_no (g N cap J : Nat) (ns : List ByteArray) (vs : List Value) (nm : ByteArray) (w : World) (hN : ns.length = N) (hl : N ≤ 4096) (hJ : J ≤ N) (hU : ∀ (h : Nat) n, ns[h]? = some n → (Sp.cmpS n nm < 0 ↔ h < J) ∧ Sp.cmpS n nm ≠ 0) (hR : Rw w g ns vs) :
    Calls Tryz.prog 61 #[.slice (some ⟨g, 0, none⟩) N cap, .string nm, .func (.func 62) #[] #[]] w fun e w' => e = .returned (.tuple #[.int .i64 (J : Int), .bool false]) ∧ Below w.heap.size w w' := by
  have HJN : Hid (J ≤ N) := hJ
  have HC : Hid (∀ (h : Nat), h < N → ∃ n v, ns[h]? = some n ∧ vs[h]? = some v ∧ ∀ W, Calls Tryz.prog 62 #[.agg #[.string n, v], .string nm] W fun e w' => e = .returned (.int .i64 (Sp.cmpS n nm)) ∧ Below W.heap.size W w') := by
    intro h hh
    have hn : ns[h]? = some ns[h] := List.getElem?_eq_getElem (by omega)
    have hv : vs[h]? = some (vs[h]'(by have := hR.1; omega)) := List.getElem?_eq_getElem (by have := hR.1; omega)
    exact ⟨_, _, hn, hv, fun W => Get_1_any _ _ _ (hR.2 h _ _ hn hv).2.2 W⟩
  have HU : Hid (∀ (h : Nat) n, ns[h]? = some n → (Sp.cmpS n nm < 0 ↔ h < J) ∧ Sp.cmpS n nm ≠ 0) := hU
  have HR : Hid (∀ W, Below w.heap.size w W → Rw W g ns vs) := fun W hW => hR.keep hW
  have HL : Hid (N ≤ 4096) := hl
  clear hN hl hU hJ hR
  go_enter Tryz.func61, Tryz.ntmps61
  go_wp2_with fail
  go_loopw [9, 10] (fun x y wr => ∃ (i j : Nat), x = .int .i64 (i : Int) ∧ y = .int .i64 (j : Int) ∧ i ≤ J ∧ J ≤ j ∧ j ≤ N ∧ Hid (Below w.heap.size w wr)) (fun x y _ => (intOf y).toNat - (intOf x).toNat)
  case atStart => exact ⟨0, N, rfl, rfl, Nat.zero_le _, HJN.out, Nat.le_refl _, Below.refl _ _⟩
  case round =>
    obtain ⟨i, j, rfl, rfl, hiJ, hJj, hjN, HB⟩ := hrel
    rcases Nat.lt_or_ge i j with hlt | hge
    · have hij : (i : Int) < (j : Int) := by omega
      have HLl := HL.out
      obtain ⟨n, v, hn, hv, hcall⟩ := HC.out ((i + j) / 2) (by omega)
      obtain ⟨c0, c1, _⟩ := (HR.out wr HB.out).2 _ _ _ hn hv
      have HCl : Hid (∀ W, Calls Tryz.prog 62 #[.agg #[.string n, v], .string nm] W fun e w' => e = .returned (.int .i64 (Sp.cmpS n nm)) ∧ Below W.heap.size W w') := hcall
      have HU1 : Hid (Sp.cmpS n nm < 0 ↔ (i + j) / 2 < J) := (HU.out _ n hn).1
      clear hn hv hcall
      generalize Sp.cmpS n nm = q at HCl HU1
      go_wp2_with fail
      refine (HCl.out _).mono ?_
      rintro e w1 ⟨rfl, hb1⟩
      have HB1 : Hid (Below w.heap.size w w1) := HB.out.trans (hb1.mono HB.out.size)
      clear hb1 c0 c1
      by_cases hc : q < 0
      · have hx := HU1.out.1 hc
        go_wp2_with fail
        exact ⟨⟨(i + j) / 2 + 1, j, by simp, rfl, by omega, hJj, hjN, HB1⟩, by simp [intOf]; omega⟩
      · have hx : ¬ (i + j) / 2 < J := fun h => hc (HU1.out.2 h)
        go_wp2_with fail
        exact ⟨⟨i, (i + j) / 2, rfl, by simp, hiJ, by omega, by omega, HB1⟩, by simp [intOf]; omega⟩
    · have hij : ¬ (i : Int) < (j : Int) := by omega
      obtain rfl : J = i := by omega
      obtain rfl : J = j := by omega
      rcases Nat.lt_or_ge J N with hJlt | hJge
      · obtain ⟨n, v, hn, hv, hcall⟩ := HC.out J hJlt
        obtain ⟨c0, c1, _⟩ := (HR.out wr HB.out).2 _ _ _ hn hv
        have HCl : Hid (∀ W, Calls Tryz.prog 62 #[.agg #[.string n, v], .string nm] W fun e w' => e = .returned (.int .i64 (Sp.cmpS n nm)) ∧ Below W.heap.size W w') := hcall
        have hz : Sp.cmpS n nm ≠ 0 := (HU.out _ n hn).2
        have hlt : (J : Int) < (N : Int) := by omega
        have hzb : (Sp.cmpS n nm == 0) = false := by simp [hz]
        clear hn hv hcall
        generalize Sp.cmpS n nm = q at HCl hz hzb
        go_wp2_with fail
        refine (HCl.out _).mono ?_
        rintro e w1 ⟨rfl, hb1⟩
        have HB1 : Hid (Below w.heap.size w w1) := HB.out.trans (hb1.mono HB.out.size)
        clear hb1 c0 c1
        go_wp2_with fail
        go_ret2
        exact ⟨rfl, HB1.out⟩
      · have hlt : ¬ (J : Int) < (N : Int) := by omega
        go_wp2_with fail
        go_ret2
        exact ⟨rfl, HB.out⟩

set_option maxRecDepth 100000 in
set_option maxHeartbeats 2000000 in
theorem Get_no (b : Nat) (id : Int) (L : TmF) (nm : ByteArray) (w : World) (hT : Th w b id L) (hu : Sp.up L.names) (hl : L.len ≤ 4096) (hno : nm ∉ L.names) :
    Calls Tryz.prog 39 #[.pointer (some ⟨b, 0, none⟩), .string nm] w fun e w' => e = .returned (.tuple #[.nilIface, .bool false]) ∧ Below w.heap.size w w' := by
  obtain ⟨t0, a, cap, t1, hLV⟩ := hT
  have HS : Hid (∃ J : Nat, Calls Tryz.prog 61 #[.slice a L.len cap, .string nm, .func (.func 62) #[] #[]] w fun e w' => e = .returned (.tuple #[.int .i64 (J : Int), .bool false]) ∧ Below w.heap.size w w') := by
    rcases Nat.eq_zero_or_pos L.len with h0 | h0
    · rw [h0]; exact ⟨0, search_none a cap nm w⟩
    · obtain ⟨g, rfl, hcap⟩ := L.LV_at hLV h0
      obtain ⟨vs, hvl, hrow⟩ := L.V_row 0 hLV.2
      have hrw : Rw w g L.names vs := ⟨hvl, fun j n v h1 h2 => by have := hrow j n v h1 h2; rw [Nat.zero_add] at this; exact ⟨this.1, this.2.1, this.2.2.1⟩⟩
      obtain ⟨J, hJ, hJ2⟩ := up_cut nm L.names hu hno
      exact ⟨J, search_no g L.len cap J L.names vs nm w (by rw [TmF.names_len]) hl (by rw [TmF.names_len] at hJ; exact hJ) hJ2 hrw⟩
  obtain ⟨J, hS⟩ := HS.out
  have HS2 : Hid (Calls Tryz.prog 61 #[.slice a L.len cap, .string nm, .func (.func 62) #[] #[]] w fun e w' => e = .returned (.tuple #[.int .i64 (J : Int), .bool false]) ∧ Below w.heap.size w w') := hS
  have hq : ∀ W, (binOp .eql 68 (.pointer (some ⟨b, 0, none⟩)) (.pointer none)).run Tryz.prog W = .ok (.bool false) W := fun W => by kernel_rfl
  have hgq : ∀ x y W, (eqGuard .eql 68 x y (.pointer (some ⟨b, 0, none⟩)) (.pointer none)).run Tryz.prog W = .ok () W := fun x y W => by kernel_rfl
  clear t0 hLV hu hl hno HS hS
  go_enter Tryz.func39, Tryz.ntmps39
  go_wp2_with fail
  refine HS2.out.mono ?_
  rintro e w1 ⟨rfl, hb1⟩
  have HB1 : Hid (Below w.heap.size w w1) := hb1
  clear hb1 t1 HS2
  go_wp2_with fail
  go_ret2
  exact ⟨rfl, HB1.out⟩

end Go.Proofs.YtjlhmgopmdcopaaGreat

/- Ghosts: New, Loaded, Last, Forget, Load, Get, Class, Version. -/
namespace Go.Proofs.YtjlhmgopmdcopaaGreat
open Go.RowKit

set_option maxRecDepth 100000 in
set_option maxHeartbeats 2000000 in
theorem gNew_any (id : Int) (F : Nat) (cap : Array Value) (w : World) (hi : (id == 0) = false) :
    Calls Tryz.prog 7 #[.int .u64 id, .func (.func F) #[] cap] w fun e w' => e = .returned (.tuple #[.pointer (some ⟨w.heap.size, 0, none⟩), .int .i64 0]) ∧ w' = w.alloc (.cells (gc id (.func (.func F) #[] cap) false 0 ⟨#[]⟩ 0 none) 71) := by
  have hfn : ∀ W, Sem.run Tryz.prog (binOp .eql 39 (.func (.func F) #[] cap) .nilFunc) W = .ok (.bool false) W := fun W => by kernel_rfl
  have hfg : ∀ x y W, Sem.run Tryz.prog (eqGuard .eql 39 x y (.func (.func F) #[] cap) .nilFunc) W = .ok () W := fun x y W => by kernel_rfl
  go_enter Tryz.func7, Tryz.ntmps7
  go_wp2_with fail
  go_ret2
  exact ⟨rfl, rfl⟩

section
variable {w : World} {g : Nat} {id : Int} {fn : Value} {la : Int} {cl : ByteArray} {vr : Int}
set_option maxRecDepth 100000 in
set_option maxHeartbeats 2000000 in
theorem Loaded_no {pl ol nw : Option Addr} (h : Gh w g (gc id fn false la cl vr none pl ol nw)) : Calls Tryz.prog 19 #[.pointer (some ⟨g, 0, none⟩)] w fun e w' => e = .returned (.bool false) ∧ w = w' := by
  have hq : ∀ W, (binOp .neq 68 (.pointer none) (.pointer none)).run Tryz.prog W = .ok (.bool false) W := fun W => by kernel_rfl
  have hgq : ∀ x y W, (eqGuard .neq 68 x y (.pointer none) (.pointer none)).run Tryz.prog W = .ok () W := fun x y W => by kernel_rfl
  have c6 := h.c6
  clear h
  go_enter Tryz.func19, Tryz.ntmps19
  go_wp2_with fail
  go_ret
  exact ⟨rfl, rfl⟩
set_option maxRecDepth 100000 in
set_option maxHeartbeats 2000000 in
theorem Loaded_yes {fb : Nat} {pl ol nw : Option Addr} (h : Gh w g (gc id fn false la cl vr (some ⟨fb, 0, none⟩) pl ol nw)) : Calls Tryz.prog 19 #[.pointer (some ⟨g, 0, none⟩)] w fun e w' => e = .returned (.bool true) ∧ w = w' := by
  have hq : ∀ W, (binOp .neq 68 (.pointer (some ⟨fb, 0, none⟩)) (.pointer none)).run Tryz.prog W = .ok (.bool true) W := fun W => by kernel_rfl
  have hgq : ∀ x y W, (eqGuard .neq 68 x y (.pointer (some ⟨fb, 0, none⟩)) (.pointer none)).run Tryz.prog W = .ok () W := fun x y W => by kernel_rfl
  have c6 := h.c6
  clear h
  go_enter Tryz.func19, Tryz.ntmps19
  go_wp2_with fail
  go_ret
  exact ⟨rfl, rfl⟩
set_option maxRecDepth 100000 in
set_option maxHeartbeats 2000000 in
theorem unload_any (lo : Bool) {fp : Option Addr} (hl : ∀ W, Gh W g (gc id fn false la cl vr fp) → Calls Tryz.prog 19 #[.pointer (some ⟨g, 0, none⟩)] W fun e w' => e = .returned (.bool lo) ∧ W = w') (h : Gh w g (gc id fn false la cl vr fp)) :
    Calls Tryz.prog 40 #[.pointer (some ⟨g, 0, none⟩)] w fun e w' => e = .returned (.tuple #[]) ∧ Gh w' g (gc id fn false la ⟨#[]⟩ 0 none) ∧ Kx (· = g) w w' := by
  have hpq : ∀ W, (binOp .neq 69 (.pointer none) (.pointer none)).run Tryz.prog W = .ok (.bool false) W := fun W => by kernel_rfl
  have hpg : ∀ x y W, (eqGuard .neq 69 x y (.pointer none) (.pointer none)).run Tryz.prog W = .ok () W := fun x y W => by kernel_rfl
  have HL : Hid (∀ W, Gh W g (gc id fn false la cl vr fp) → Calls Tryz.prog 19 #[.pointer (some ⟨g, 0, none⟩)] W fun e w' => e = .returned (.bool lo) ∧ W = w') := hl
  have HG : Hid (Gh w g (gc id fn false la cl vr fp)) := h
  have c7 := h.c7
  obtain ⟨X1, hX1⟩ : ∃ X, w.setCell ⟨g, 4, none⟩ (.string ⟨#[]⟩) = X := ⟨_, rfl⟩
  obtain ⟨X2, hX2⟩ : ∃ X, X1.setCell ⟨g, 5, none⟩ (.int .i64 0) = X := ⟨_, rfl⟩
  obtain ⟨X3, hX3⟩ : ∃ X, X2.setCell ⟨g, 6, none⟩ (.pointer none) = X := ⟨_, rfl⟩
  have g1 : Gh X1 g (gc id fn false la ⟨#[]⟩ vr fp) := by rw [← hX1]; exact h.s4 _
  have g2 : Gh X2 g (gc id fn false la ⟨#[]⟩ 0 fp) := by rw [← hX2]; exact g1.s5 _
  have g3 : Gh X3 g (gc id fn false la ⟨#[]⟩ 0 none) := by rw [← hX3]; exact g2.s6 _
  have k3 : Kx (· = g) w X3 := by rw [← hX3, ← hX2, ← hX1]; exact ((Kx.setg (Kx.refl _ w) _).setg _).setg _
  have HR : Hid (Gh X3 g (gc id fn false la ⟨#[]⟩ 0 none) ∧ Kx (· = g) w X3) := ⟨g3, k3⟩
  have c4 := h.c4
  have z4 := h.free 4
  have c5 := g1.c5
  have z5 := g1.free 5
  have c6 := g2.c6
  have z6 := g2.free 6
  clear h hl g1 g2 g3 k3
  cases lo
  all_goals
    go_enter Tryz.func40, Tryz.ntmps40
    go_wp2_with (go_at_call 19; refine (HL.out _ HG.out).mono ?_; rintro e w' ⟨rfl, rfl⟩)
    go_end0
    exact ⟨rfl, HR.out⟩
set_option maxRecDepth 100000 in
set_option maxHeartbeats 2000000 in
theorem Forget_of {fp : Option Addr} {R : World → Prop} (h : Gh w g (gc id fn false la cl vr fp)) (hu : Calls Tryz.prog 40 #[.pointer (some ⟨g, 0, none⟩)] w fun e w' => e = .returned (.tuple #[]) ∧ R w') :
    Calls Tryz.prog 21 #[.pointer (some ⟨g, 0, none⟩)] w fun e w' => e = .returned (.int .i64 0) ∧ R w' := by
  have HU : Hid (Calls Tryz.prog 40 #[.pointer (some ⟨g, 0, none⟩)] w fun e w' => e = .returned (.tuple #[]) ∧ R w') := hu
  have c2 := h.c2
  clear h hu
  go_enter Tryz.func21, Tryz.ntmps21
  go_wp2_with fail
  refine HU.out.mono ?_
  rintro e w1 ⟨rfl, hr⟩
  have HR : Hid (R w1) := hr
  clear hr c2
  go_wp2_with fail
  go_ret
  exact ⟨rfl, HR.out⟩
end

theorem Forget_no {w : World} {g : Nat} {id : Int} {fn : Value} {la : Int} {cl : ByteArray} {vr : Int} (h : Gh w g (gc id fn false la cl vr none)) :
    Calls Tryz.prog 21 #[.pointer (some ⟨g, 0, none⟩)] w fun e w' => e = .returned (.int .i64 0) ∧ Gh w' g (gc id fn false la ⟨#[]⟩ 0 none) ∧ Kx (· = g) w w' := Forget_of h (unload_any false (fun _ h => Loaded_no h) h)
theorem Forget_yes {w : World} {g : Nat} {id : Int} {fn : Value} {la : Int} {cl : ByteArray} {vr : Int} {fb : Nat} (h : Gh w g (gc id fn false la cl vr (some ⟨fb, 0, none⟩))) :
    Calls Tryz.prog 21 #[.pointer (some ⟨g, 0, none⟩)] w fun e w' => e = .returned (.int .i64 0) ∧ Gh w' g (gc id fn false la ⟨#[]⟩ 0 none) ∧ Kx (· = g) w w' := Forget_of h (unload_any true (fun _ h => Loaded_yes h) h)

set_option maxRecDepth 100000 in
set_option maxHeartbeats 2000000 in
theorem Load_has {w : World} {g : Nat} {id : Int} {fn : Value} {la : Int} {cl : ByteArray} {vr : Int} {fb : Nat} {pl ol nw : Option Addr} (h : Gh w g (gc id fn false la cl vr (some ⟨fb, 0, none⟩) pl ol nw)) :
    Calls Tryz.prog 51 #[.pointer (some ⟨g, 0, none⟩)] w fun e w' => e = .returned (.int .i64 0) ∧ w = w' := by
  have HL : Hid (Calls Tryz.prog 19 #[.pointer (some ⟨g, 0, none⟩)] w fun e w' => e = .returned (.bool true) ∧ w = w') := Loaded_yes h
  have c2 := h.c2
  clear h
  go_enter Tryz.func51, Tryz.ntmps51
  go_wp2_with (go_at_call 19; refine HL.out.mono ?_; rintro e w' ⟨rfl, rfl⟩)
  go_ret
  exact ⟨rfl, rfl⟩

set_option maxRecDepth 100000 in
set_option maxHeartbeats 2000000 in
theorem Load_of {w : World} {g : Nat} {id : Int} {fn : Value} {la : Int} {cl : ByteArray} {vr : Int} {why : Int} {R : World → Prop} {pl ol nw : Option Addr} (h : Gh w g (gc id fn false la cl vr none pl ol nw))
    (hl : Calls Tryz.prog 70 #[.pointer (some ⟨g, 0, none⟩)] w fun e w' => e = .returned (.int .i64 why) ∧ (∃ bz' la' cl' vr' fp' pl' ol' nw', Gh w' g (gc id fn bz' la' cl' vr' fp' pl' ol' nw')) ∧ R w') :
    Calls Tryz.prog 51 #[.pointer (some ⟨g, 0, none⟩)] w fun e w' => e = .returned (.int .i64 why) ∧ ∃ w1, R w1 ∧ w' = w1.setCell ⟨g, 3, none⟩ (.int .i64 why) := by
  have HL : Hid (Calls Tryz.prog 19 #[.pointer (some ⟨g, 0, none⟩)] w fun e w' => e = .returned (.bool false) ∧ w = w') := Loaded_no h
  have HD : Hid (Calls Tryz.prog 70 #[.pointer (some ⟨g, 0, none⟩)] w fun e w' => e = .returned (.int .i64 why) ∧ (∃ bz' la' cl' vr' fp' pl' ol' nw', Gh w' g (gc id fn bz' la' cl' vr' fp' pl' ol' nw')) ∧ R w') := hl
  have c2 := h.c2
  clear h hl
  go_enter Tryz.func51, Tryz.ntmps51
  go_wp2_with (go_at_call 19; refine HL.out.mono ?_; rintro e w' ⟨rfl, rfl⟩)
  refine HD.out.mono ?_
  rintro e w1 ⟨rfl, ⟨bz', la', cl', vr', fp', pl', ol', nw', hg⟩, hr⟩
  have HR : Hid (R w1) := hr
  have c3 := hg.c3
  have z3 := hg.free 3
  have s3 := (hg.s3 why).c3
  clear hr hg c2
  go_wp2_with fail
  go_ret
  exact ⟨rfl, w1, HR.out, rfl⟩

theorem Load_ok {F : Nat} {fst cap : Array Value} {g : Nat} {id la : Int} {pk pe er : Int} {tm : Tm} {N : Nat → Prop} {Qn : World → Prop} {w : World} (hi : (id == 0) = false) (hG : Gh w g (gc id (.func (.func F) fst cap) false la ⟨#[]⟩ 0 none)) (hF : Fet F fst cap g id pk pe er tm N Qn w) (hw : whyOf pk er tm = 0) :
    Calls Tryz.prog 51 #[.pointer (some ⟨g, 0, none⟩)] w fun e w' => e = .returned (.int .i64 0) ∧ Kx (fun j => N j ∨ j = g) w w' ∧ Qn w' ∧ GL w' (Fr w w') g id (.func (.func F) fst cap) 0 tm := by
  have hl := hG.lt
  refine (Load_of (why := 0) (R := fun w' => Kx (fun j => N j ∨ j = g) w w' ∧ Qn w' ∧ GL w' (Fr w w') g id (.func (.func F) fst cap) la tm) hG ((load_ok hi hG hF hw).mono ?_)).mono ?_
  · rintro e w' ⟨rfl, h1, h2, h3⟩
    obtain ⟨fb, a, b, c⟩ := h3
    exact ⟨rfl, ⟨_, _, _, _, _, _, _, _, b⟩, h1, h2, fb, a, b, c⟩
  · rintro e w' ⟨rfl, w1, ⟨h1, h2, fb, a, b, c⟩, rfl⟩
    refine ⟨rfl, h1.set (c := g) (.inl (.inr rfl)) _, hF.2.2.1 w1 _ (by simp [World.setCell]) (fun k _ hn _ => Below.heap_setCell _ _ _ _ hn) h2, fb, a, b.s3 0, c.keep (fun k hk => Below.heap_setCell _ _ _ _ (by show k ≠ g; have := hk.1; omega)) (fun k hk => ⟨hk.1, by simpa [World.setCell] using hk.2⟩)⟩

theorem Load_bad {F : Nat} {fst cap : Array Value} {g : Nat} {id la : Int} {pk pe er : Int} {tm : Tm} {N : Nat → Prop} {Qn : World → Prop} {w : World} (hG : Gh w g (gc id (.func (.func F) fst cap) false la ⟨#[]⟩ 0 none)) (hF : Fet F fst cap g id pk pe er tm N Qn w) (hw : whyOf pk er tm ≠ 0) :
    Calls Tryz.prog 51 #[.pointer (some ⟨g, 0, none⟩)] w fun e w' => e = .returned (.int .i64 (whyOf pk er tm)) ∧ Kx (fun j => N j ∨ j = g) w w' ∧ Qn w' ∧ Gh w' g (gc id (.func (.func F) fst cap) false (whyOf pk er tm) ⟨#[]⟩ 0 none) := by
  have hl := hG.lt
  refine (Load_of (why := whyOf pk er tm) (R := fun w' => Kx N w w' ∧ Qn w' ∧ Gh w' g (gc id (.func (.func F) fst cap) false la ⟨#[]⟩ 0 none)) hG ((load_bad hG hF hw).mono ?_)).mono ?_
  · rintro e w' ⟨rfl, h1, h2, h3⟩
    exact ⟨rfl, ⟨_, _, _, _, _, _, _, _, h3⟩, h1, h2, h3⟩
  · rintro e w' ⟨rfl, w1, ⟨h1, h2, h3⟩, rfl⟩
    exact ⟨rfl, (h1.mono fun j h => .inl h).set (c := g) (.inl (.inr rfl)) _, hF.2.2.1 w1 _ (by simp [World.setCell]) (fun k _ hn _ => Below.heap_setCell _ _ _ _ hn) h2, h3.s3 _⟩

set_option maxRecDepth 100000 in
set_option maxHeartbeats 2000000 in
theorem asked_of {w : World} {g : Nat} {er : Int} {P : World → Prop} (hl : Calls Tryz.prog 51 #[.pointer (some ⟨g, 0, none⟩)] w fun e w' => e = .returned (.int .i64 er) ∧ w'.cell? ⟨g, 7, none⟩ = some (.pointer none) ∧ P w') :
    Calls Tryz.prog 29 #[.pointer (some ⟨g, 0, none⟩)] w fun e w' => e = .returned (.tuple #[]) ∧ P w' := by
  have HL : Hid (Calls Tryz.prog 51 #[.pointer (some ⟨g, 0, none⟩)] w fun e w' => e = .returned (.int .i64 er) ∧ w'.cell? ⟨g, 7, none⟩ = some (.pointer none) ∧ P w') := hl
  have hpq : ∀ W, (binOp .neq 69 (.pointer none) (.pointer none)).run Tryz.prog W = .ok (.bool false) W := fun W => by kernel_rfl
  have hpg : ∀ x y W, (eqGuard .neq 69 x y (.pointer none) (.pointer none)).run Tryz.prog W = .ok () W := fun x y W => by kernel_rfl
  clear hl
  go_enter Tryz.func29, Tryz.ntmps29
  go_wp2_with fail
  refine HL.out.mono ?_
  rintro e w1 ⟨rfl, c7, hp⟩
  have HP : Hid (P w1) := hp
  clear hp HL
  by_cases hz : er = 0
  · subst hz
    go_wp2_with fail
    go_end0
    exact ⟨rfl, HP.out⟩
  · have hb : (er == 0) = false := by simp [hz]
    go_wp2_with fail
    go_end0
    exact ⟨rfl, HP.out⟩

set_option maxRecDepth 100000 in
set_option maxHeartbeats 2000000 in
theorem Class_of {w : World} {g : Nat} {c : ByteArray} {P : World → Prop} (hl : Calls Tryz.prog 29 #[.pointer (some ⟨g, 0, none⟩)] w fun e w' => e = .returned (.tuple #[]) ∧ P w') (hc : ∀ w', P w' → w'.cell? ⟨g, 4, none⟩ = some (.string c)) :
    Calls Tryz.prog 11 #[.pointer (some ⟨g, 0, none⟩)] w fun e w' => e = .returned (.string c) ∧ P w' := by
  have HL : Hid (Calls Tryz.prog 29 #[.pointer (some ⟨g, 0, none⟩)] w fun e w' => e = .returned (.tuple #[]) ∧ P w') := hl
  have HC : Hid (∀ w', P w' → w'.cell? ⟨g, 4, none⟩ = some (.string c)) := hc
  clear hl hc
  go_enter Tryz.func11, Tryz.ntmps11
  go_wp2_with fail
  refine HL.out.mono ?_
  rintro e w1 ⟨rfl, hp⟩
  have HP : Hid (P w1) := hp
  have c4 := HC.out w1 hp
  clear hp HL
  go_wp2_with fail
  go_ret
  exact ⟨rfl, HP.out⟩

set_option maxRecDepth 100000 in
set_option maxHeartbeats 2000000 in
theorem Version_of {w : World} {g : Nat} {c : Int} {P : World → Prop} (hl : Calls Tryz.prog 29 #[.pointer (some ⟨g, 0, none⟩)] w fun e w' => e = .returned (.tuple #[]) ∧ P w') (hc : ∀ w', P w' → w'.cell? ⟨g, 5, none⟩ = some (.int .i64 c)) :
    Calls Tryz.prog 12 #[.pointer (some ⟨g, 0, none⟩)] w fun e w' => e = .returned (.int .i64 c) ∧ P w' := by
  have HL : Hid (Calls Tryz.prog 29 #[.pointer (some ⟨g, 0, none⟩)] w fun e w' => e = .returned (.tuple #[]) ∧ P w') := hl
  have HC : Hid (∀ w', P w' → w'.cell? ⟨g, 5, none⟩ = some (.int .i64 c)) := hc
  clear hl hc
  go_enter Tryz.func12, Tryz.ntmps12
  go_wp2_with fail
  refine HL.out.mono ?_
  rintro e w1 ⟨rfl, hp⟩
  have HP : Hid (P w1) := hp
  have c4 := HC.out w1 hp
  clear hp HL
  go_wp2_with fail
  go_ret
  exact ⟨rfl, HP.out⟩

set_option maxRecDepth 100000 in
set_option maxHeartbeats 2000000 in
theorem gGet_of {w : World} {g : Nat} {nm : ByteArray} {P : World → Prop} {R : Value → Bool → World → Prop} (hl : Calls Tryz.prog 29 #[.pointer (some ⟨g, 0, none⟩)] w fun e w' => e = .returned (.tuple #[]) ∧ P w')
    (hc : ∀ w', P w' → ∃ fp, w'.cell? ⟨g, 6, none⟩ = some (.pointer fp) ∧ Calls Tryz.prog 39 #[.pointer fp, .string nm] w' fun e w2 => ∃ v k, e = .returned (.tuple #[v, .bool k]) ∧ R v k w2) :
    Calls Tryz.prog 20 #[.pointer (some ⟨g, 0, none⟩), .string nm] w fun e w' => ∃ v k, e = .returned (.tuple #[v, .bool k]) ∧ R v k w' := by
  have HL : Hid (Calls Tryz.prog 29 #[.pointer (some ⟨g, 0, none⟩)] w fun e w' => e = .returned (.tuple #[]) ∧ P w') := hl
  have HC : Hid (∀ w', P w' → ∃ fp, w'.cell? ⟨g, 6, none⟩ = some (.pointer fp) ∧ Calls Tryz.prog 39 #[.pointer fp, .string nm] w' fun e w2 => ∃ v k, e = .returned (.tuple #[v, .bool k]) ∧ R v k w2) := hc
  clear hl hc
  go_enter Tryz.func20, Tryz.ntmps20
  go_wp2_with fail
  refine HL.out.mono ?_
  rintro e w1 ⟨rfl, hp⟩
  obtain ⟨fp, c6, hcall⟩ := HC.out w1 hp
  have HG : Hid (Calls Tryz.prog 39 #[.pointer fp, .string nm] w1 fun e w2 => ∃ v k, e = .returned (.tuple #[v, .bool k]) ∧ R v k w2) := hcall
  clear hp HL HC hcall
  go_wp2_with fail
  refine HG.out.mono ?_
  rintro e w2 ⟨v, k, rfl, hr⟩
  have HR : Hid (R v k w2) := hr
  clear hr HG c6
  go_wp2_with fail
  go_ret2
  exact ⟨v, k, rfl, HR.out⟩
end Go.Proofs.YtjlhmgopmdcopaaGreat

