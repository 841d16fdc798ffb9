/- (*shape).asType: its first region. -/
import Derived.Test.YtjdjpbdfchhcfaaGreatKE46
import Derived.Test.YtjdjpbdfchhcfaaGreatKE49
import Derived.Test.YtjdjpbdfchhcfaaGreatKE51
import Derived.Laws.CopyOwn
namespace Go.Proofs.YtjdjpbdfchhcfaaGreat
open Go.RowKit

abbrev shc (k o : Int) (v : Value) (s : Int) (vp vn vk : Value) (op : Bool) (c : ByteArray) (x y : Int) : Array Value := #[.int .i64 k, .int .i64 o, v, .int .i64 s, vp, vn, vk, .bool op, .string c, .int .i64 x, .int .i64 y]
abbrev acs (k o : Int) (vk : Value) (op : Bool) (c : ByteArray) : Array Value := #[.int .i64 k, .int .i64 o, .int .i64 0, .bool false, .int .i64 0, .float .f64 0, .string { data := #[] }, .slice none 0 0, .int .u64 0, .slice none 0 0, .slice none 0 0, .string { data := #[] }, .int .i64 0, .slice none 0 0, .slice none 0 0, vk, .bool op, .string c]
theorem acs_one (k o : Int) (a : Option Addr) (m cap : Nat) (op : Bool) (c : ByteArray) : (acs k o (.slice a m cap) op c).all (·.oneCell') = true := by kernel_rfl
abbrev acs2 (k o : Int) (vp vn vk : Value) (op : Bool) (c : ByteArray) : Array Value := #[.int .i64 k, .int .i64 o, .int .i64 0, .bool false, .int .i64 0, .float .f64 0, .string { data := #[] }, .slice none 0 0, .int .u64 0, .slice none 0 0, .slice none 0 0, .string { data := #[] }, .int .i64 0, vp, vn, vk, .bool op, .string c]
theorem acs2_in {k o : Int} {p : TyL} {n : List ByteArray} {l : List Bool} {op : Bool} {c : ByteArray} {w : World} {B : Nat → Prop} {ap an ak : Option Addr} {cp cn ck : Nat} (hk : 1 ≤ k ∧ k ≤ 8) (ho : 0 ≤ o ∧ o ≤ 10) (hp : p.len ≤ 70368744177664) (hn : n.length ≤ 70368744177664) (hl : l.length ≤ 140737488355328) (hc : c.size ≤ 140737488355328)
    (h1 : p.In w B ap 0) (h2 : NamesAt w B an n) (h3 : BoolsAt w B ak l) : (Ty.mk k o tm0 p n l op c).In w B (acs2 k o (.slice ap p.len cp) (.slice an n.length cn) (.slice ak l.length ck) op c) := by
  simp only [tm0, Ty.In, acs2]
  refine ⟨0, false, 0, 0, ⟨#[]⟩, none, 0, 0, 0, none, 0, 0, none, 0, 0, ⟨#[]⟩, 0, ap, cp, an, cn, ak, ck, rfl, ?_, by omega, by omega, ⟨hp, hn, hl, hc⟩, h1, h2, h3⟩
  simp only [Tm.In]
  refine ⟨none, 0, none, 0, none, 0, rfl, ?_, fun j hj => ?_, by simp [TmL.In], by simp [TmF.In]⟩
  · constructor <;> first | decide | simp [TmL.len, TmF.len]
  · simp at hj
theorem acs2_one (k o : Int) (a1 a2 a3 : Option Addr) (n1 n2 n3 c1 c2 c3 : Nat) (op : Bool) (c : ByteArray) : (acs2 k o (.slice a1 n1 c1) (.slice a2 n2 c2) (.slice a3 n3 c3) op c).all (·.oneCell') = true := by kernel_rfl
theorem Tryz.infoY : (Tryz.prog.info? 34).map (fun i => (i.zero, i.size, i.bytes)) = some (some (.agg (acs2 0 0 (.slice none 0 0) (.slice none 0 0) (.slice none 0 0) false { data := #[] })), 18, 264) := by kernel_rfl
theorem Tryz.undYs : Tryz.prog.underlying 30 = some (.slice 34) := by kernel_rfl
mutual
def Ty.B4 : Ty → Prop | .mk k _ t p _ _ _ _ => (k = 4 → t.Bdd) ∧ (Sp.parted k = true → p.B4)
def TyL.B4 : TyL → Prop | .nil => True | .cons t l => t.B4 ∧ l.B4
end
def AsE (t : Ty) (w : World) (e : Ending) (w' : World) : Prop := ∃ cs t', e = .returned (.agg cs) ∧ Below w.heap.size w w' ∧ Ty.In w' (Fr w w') t' cs ∧ t.al t'
def AsC (N : Nat) : Prop := ∀ (t : Ty), t.sz ≤ N → t.ok = true → t.cnt ≤ 16384 → t.B4 → ∀ (b B : Nat) (w : World), B ≤ w.heap.size → t.Sh w (Lo B) b → Calls Tryz.prog 29 #[.pointer (some ⟨b, 0, none⟩)] w (AsE t w)
def X1 (a : Option Addr) (l : List Bool) : World → (Nat → Prop) → Prop := fun W S => BoolsAt W S a l
def X2 (a an : Option Addr) (l : List Bool) (n : List ByteArray) (q : TyL) (cs : List (Array Value)) : World → (Nat → Prop) → Prop := fun W S => BoolsAt W S a l ∧ NamesAt W S an n ∧ q.PIn W S cs
theorem X1.st {a : Option Addr} {l : List Bool} {W W' : World} {S S' : Nat → Prop} (h : X1 a l W S) (hs : Same S W W') (hB : ∀ k, S k → S' k) : X1 a l W' S' := BoolsAt.same h hs hB
theorem X2.st {a an : Option Addr} {l : List Bool} {n : List ByteArray} {q : TyL} {cs : List (Array Value)} {W W' : World} {S S' : Nat → Prop} (h : X2 a an l n q cs W S) (hs : Same S W W') (hB : ∀ k, S k → S' k) : X2 a an l n q cs W' S' := ⟨h.1.same hs hB, h.2.1.same hs hB, TyL.PIn_same hs hB q cs h.2.2⟩
theorem RQ.next {a : Option Addr} {l : List Bool} {w wr : World} {TB : Nat} {k o : Int} {vk : Value} {op : Bool} {c : ByteArray} {v : Value} {n : List ByteArray} (h : RQ 9 1 14 (X1 a l) w wr TB (acs2 k o (.slice none 0 0) (.slice none 0 0) vk op c) v n.length (n.map Value.string)) (hs : ∀ s ∈ n, s.size ≤ 140737488355328) :
    ∃ an cn, v = .slice an n.length cn ∧ RQ 34 18 13 (X2 a an l n .nil []) w wr TB (acs2 k o (.slice none 0 0) (.slice an n.length cn) vk op c) (.slice none 0 0) 0 [] := by
  have up : ∀ q, AB w wr TB v q → AB w wr TB (.slice none 0 0) q := fun q hq => ⟨hq.1, hq.2.1, hq.2.2.1, by simp [Value.ownBlock]⟩
  have hb := BoolsAt.same h.x (Same.refl _ _) up
  have hbx := h.bx
  rcases h.own.2 with ⟨rfl, h0⟩ | ⟨g, cap, cur, rfl, hg, -⟩
  · have hn : n = [] := List.eq_nil_of_length_eq_zero h0
    subst hn
    exact ⟨none, 0, rfl, ⟨⟨rfl, .inl ⟨rfl, rfl⟩⟩, hbx, by simp [Value.ownBlock], h.tb, h.rb, h.bel, ⟨hb, fun i s hi => by simp at hi, trivial⟩⟩⟩
  · refine ⟨some ⟨g, 0, none⟩, cap, rfl, ⟨⟨rfl, .inl ⟨rfl, rfl⟩⟩, hbx, by simp [Value.ownBlock], h.tb, h.rb, h.bel, ⟨hb, fun i s hi => ?_, trivial⟩⟩⟩
    have hc := h.own.cells (g := g) rfl i (.string s) (by simp [hi])
    rw [addr_add] at hc
    have hlt := h.own.lt g rfl
    exact ⟨g, 0, rfl, ⟨hlt.1, hlt.2, fun e => h.ne (by simp [Value.ownBlock, e]), by simp [Value.ownBlock]⟩, hc, hs s (List.mem_of_getElem? hi)⟩
theorem RQ.all {a an : Option Addr} {l : List Bool} {n : List ByteArray} {q : TyL} {cs : List (Array Value)} {w wr : World} {TB : Nat} {k o : Int} {cn ck : Nat} {op : Bool} {c : ByteArray} {v : Value} (h : RQ 34 18 13 (X2 a an l n q cs) w wr TB (acs2 k o (.slice none 0 0) (.slice an n.length cn) (.slice a l.length ck) op c) v q.len (cs.flatMap (·.toList)))
    (hk : 1 ≤ k ∧ k ≤ 8) (ho : 0 ≤ o ∧ o ≤ 10) (hp : q.len ≤ 70368744177664) (hn : n.length ≤ 70368744177664) (hl : l.length ≤ 140737488355328) (hc : c.size ≤ 140737488355328) :
    ∃ ap cp, v = .slice ap q.len cp ∧ (Ty.mk k o tm0 q n l op c).In wr (fun x => w.heap.size + 1 ≤ x ∧ x < wr.heap.size ∧ x ≠ TB) (acs2 k o (.slice ap q.len cp) (.slice an n.length cn) (.slice a l.length ck) op c) := by
  have up : ∀ x, AB w wr TB v x → (fun x => w.heap.size + 1 ≤ x ∧ x < wr.heap.size ∧ x ≠ TB) x := fun x hx => ⟨hx.1, hx.2.1, hx.2.2.1⟩
  obtain ⟨h1, h2, h3⟩ := X2.st h.x (Same.refl _ _) up
  have hlen := TyL.PIn_len _ _ h3
  rcases h.own.2 with ⟨rfl, h0⟩ | ⟨g, cap, cur, rfl, hg, -⟩
  · refine ⟨none, 0, by rw [h0], acs2_in hk ho hp hn hl hc ?_ h2 h1⟩
    cases q with
    | nil => simp [TyL.In]
    | cons _ _ => simp [TyL.len] at h0
  · have hlt := h.own.lt g rfl
    refine ⟨some ⟨g, 0, none⟩, cap, rfl, acs2_in hk ho hp hn hl hc (TyL.PIn_in ⟨hlt.1, hlt.2, fun e => h.ne (by simp [Value.ownBlock, e])⟩ q cs 0 h3 (fun i d hi x hx => ?_)) h2 h1⟩
    have hf := flat18 cs hlen.2 i d hi x hx
    have hdz := hlen.2 d (List.mem_of_getElem? hi)
    have hcell := h.own.cells (g := g) rfl (i * 18 + x) (d[x]'(by omega)) (by rw [hf]; exact Array.getElem?_eq_getElem _)
    rw [addr_add] at hcell
    rw [show 0 + (0 + i) * 18 + x = 0 + (i * 18 + x) by omega, hcell]
    exact (Array.getElem?_eq_getElem _).symm
def AF (k o : Int) (op : Bool) (c : ByteArray) (l : List Bool) (w : World) (TB : Nat) (a : Option Addr) (cap : Nat) (W : World) : Prop :=
  Below w.heap.size w W ∧ (∃ z : Array Value, z.size = 18 ∧ W.heap[w.heap.size]? = some (.cells z 34 (0, 0))) ∧ W.heap[TB]? = some (.cells (acs k o (.slice a l.length cap) op c) 34 (0, 0)) ∧ (w.heap.size + 1 ≤ TB ∧ TB < W.heap.size) ∧ BoolsAt W (fun k => w.heap.size + 1 ≤ k ∧ k < W.heap.size ∧ k ≠ TB) a l
theorem af_fin {k o : Int} {op : Bool} {c : ByteArray} {l : List Bool} {w W0 W : World} {TB : Nat} {a : Option Addr} {cap : Nat} {za : Array Value} (h0 : W0.heap.size = w.heap.size + 1) (hW0 : Below w.heap.size w W0 ∧ ∃ z : Array Value, z.size = 18 ∧ W0.heap[w.heap.size]? = some (.cells z 34 (0, 0))) (hS : Below W0.heap.size W0 W) (hA : W.heap[TB]? = some (.cells za 34 (0, 0))) (hge : W0.heap.size ≤ TB)
    (hb : BoolsAt W (fun k => w.heap.size + 1 ≤ k ∧ k < W.heap.size ∧ k ≠ TB) a l) : AF k o op c l w TB a cap (W.setRow TB (acs k o (.slice a l.length cap) op c)) := by
  have hlt : TB < W.heap.size := (Array.getElem?_eq_some_iff.1 hA).1
  have hsz : (W.setRow TB (acs k o (.slice a l.length cap) op c)).heap.size = W.heap.size := by simp [World.setRow]
  obtain ⟨z, hz1, hz2⟩ := hW0.2
  refine ⟨below_setRow (hW0.1.trans (hS.mono hW0.1.size)) (by omega) _, ⟨z, hz1, ?_⟩, setRow_heap _ _ _ _ _ _ hA, ⟨by omega, by rw [hsz]; exact hlt⟩, ?_⟩
  · rw [setRow_other _ _ _ _ (by omega), hS.block _ (by omega)]; exact hz2
  · rw [hsz]; exact hb.same (fun q hq => setRow_other _ _ _ _ hq.2.2) (fun q hq => hq)
theorem wp_cutG {γ : Type} {P : Program} {C : Code} {Q : Exit → Act → World → Prop} {a : Act} {w : World} (vs : γ → List (Tmp × Value)) (F : γ → World → Prop)
    (h1 : C.wp P (fun e a' W => e = .normal ∧ ∃ g, a' = (vs g).foldl (fun a x => a.put (some x.1) x.2) a ∧ F g W) a w)
    (h2 : ∀ g W, F g W → Q .normal ((vs g).foldl (fun a x => a.put (some x.1) x.2) a) W) : C.wp P Q a w :=
  Code.wp_mono (fun e a' W h => by obtain ⟨rfl, g, rfl, hF⟩ := h; exact h2 g W hF) h1

theorem AF.rq {k o : Int} {op : Bool} {c : ByteArray} {l : List Bool} {w W : World} {TB : Nat} {a : Option Addr} {cap : Nat} (h : AF k o op c l w TB a cap W) : RQ 9 1 14 (X1 a l) w W TB (acs2 k o (.slice none 0 0) (.slice none 0 0) (.slice a l.length cap) op c) (.slice none 0 0) 0 [] :=
  ⟨⟨rfl, .inl ⟨rfl, rfl⟩⟩, h.2.2.1, by simp [Value.ownBlock], h.2.2.2.1, h.2.1, h.1, BoolsAt.same h.2.2.2.2 (Same.refl _ _) (fun q hq => ⟨hq.1, hq.2.1, hq.2.2, by simp [Value.ownBlock]⟩)⟩

set_option maxRecDepth 100000 in
set_option maxHeartbeats 8000000 in
theorem as_walk (N : Nat) (HC : AsC N) (k o s x y : Int) (v : Value) (ap an ak : Option Addr) (cp cn ck : Nat) (p : TyL) (n : List ByteArray) (l : List Bool) (op : Bool) (c : ByteArray) (b B : Nat) (w : World) (hB : B ≤ w.heap.size) (hb : b < B)
    (hh : w.heap[b]? = some (.cells (shc k o v s (.slice ap p.len cp) (.slice an n.length cn) (.slice ak l.length ck) op c x y) 102 (0, 0))) (hl : BoolsAt w (Lo B) ak l) (hll : l.length ≤ 4096) (hc : c.size ≤ 1000)
    (hk : 1 ≤ k ∧ k ≤ 8) (ho : 0 ≤ o ∧ o ≤ 10) (hp : p.Sh w (Lo B) ap 0) (hpN : p.sz ≤ N) (hpo : p.ok = true) (hpc : p.cnt ≤ 16384) (hpb : p.B4) (hn : NamesAt w (Lo B) an n) (hnl : n.length ≤ 4096) (hk4 : k ≠ 4) :
    Calls Tryz.prog 29 #[.pointer (some ⟨b, 0, none⟩)] w fun e w' => ∃ cs p', e = .returned (.agg cs) ∧ Below w.heap.size w w' ∧ p.al p' ∧ (Ty.mk k o tm0 p' n l op c).In w' (Fr w w') cs := by
  have hbw : b < w.heap.size := Nat.lt_of_lt_of_le hb hB
  obtain ⟨W0, hW0⟩ : ∃ W0, W0 = w.alloc (.cells (acs 0 0 (.slice none 0 0) false { data := #[] }) 34) := ⟨_, rfl⟩
  have hz0 : W0.heap.size = w.heap.size + 1 := by rw [hW0]; simp
  have HW0 : Hid (Below w.heap.size w W0 ∧ ∃ z : Array Value, z.size = 18 ∧ W0.heap[w.heap.size]? = some (.cells z 34 (0, 0))) := ⟨by rw [hW0]; exact (Below.refl _ _).alloc (Nat.le_refl _) _, _, rfl, by rw [hW0]; exact heap_alloc_new w _⟩
  have HCL : Hid (∀ W, Below W0.heap.size W0 W → W.cell? ⟨b, 0, none⟩ = some (.int .i64 k) ∧ W.cell? ⟨b, 1, none⟩ = some (.int .i64 o) ∧ W.cell? ⟨b, 6, none⟩ = some (.slice ak l.length ck) ∧ W.cell? ⟨b, 7, none⟩ = some (.bool op) ∧ W.cell? ⟨b, 8, none⟩ = some (.string c)) := fun W hW => by
    have hk : W.heap[b]? = some (.cells (shc k o v s (.slice ap p.len cp) (.slice an n.length cn) (.slice ak l.length ck) op c x y) 102 (0, 0)) := by rw [hW.block b (by omega), HW0.out.1.block b hbw]; exact hh
    refine ⟨?_, ?_, ?_, ?_, ?_⟩ <;> (rw [cell_of_row _ _ _ _ _ _ hk]; rfl)
  have HCl : Hid (∀ W, Below W0.heap.size W0 W → Calls Tryz.prog 58 #[.slice ak l.length ck] W fun e w' => ∃ a cap, e = .returned (.slice a l.length cap) ∧ Below W.heap.size W w' ∧ BoolsAt w' (Fr W w') a l) := fun W hW => by
    have hbW : Below w.heap.size w W := HW0.out.1.trans (hW.mono (by omega))
    exact boolClone_any l ak ck (Lo B) W (Sub.lo (by have := hbW.size; omega)) (hl.same (fun q hq => hbW.block q (Nat.lt_of_lt_of_le hq hB)) (fun _ h => h)) (by omega)
  have HSc : Hid (∀ W, Calls Tryz.prog 59 #[.string c] W fun e w' => e = .returned (.string c) ∧ Below W.heap.size W w') := fun W => sClone_any c W (by omega)
  go_enter Tryz.func29, Tryz.ntmps29
  go_wp2_with fail
  rw [← hW0]
  refine wp_cutG (fun (g : Nat × Option Addr × Nat) => [(8, .pointer (some ⟨b, 0, none⟩)), (9, .pointer (some ⟨b, 0, none⟩)), (10, .pointer (some ⟨b, 0, none⟩)), (11, .int .i64 k), (12, .pointer (some ⟨b, 0, none⟩)), (13, .pointer (some ⟨b, 0, none⟩)), (14, .pointer (some ⟨b, 1, none⟩)), (15, .int .i64 o), (16, .pointer (some ⟨b, 0, none⟩)), (17, .pointer (some ⟨b, 0, none⟩)), (18, .pointer (some ⟨b, 6, none⟩)), (19, .slice ak l.length ck), (20, .slice g.2.1 l.length g.2.2), (21, .pointer (some ⟨b, 0, none⟩)), (22, .pointer (some ⟨b, 0, none⟩)), (23, .pointer (some ⟨b, 7, none⟩)), (24, .bool op), (25, .pointer (some ⟨b, 0, none⟩)), (26, .pointer (some ⟨b, 0, none⟩)), (27, .pointer (some ⟨b, 8, none⟩)), (28, .string c), (29, .string c), (30, .agg (acs k o (.slice g.2.1 l.length g.2.2) op c)), (3, .pointer (some ⟨g.1, 0, none⟩))]) (fun g W => AF k o op c l w g.1 g.2.1 g.2.2 W) ?_ ?_
  · refine wp_region_held_drew (S := fun W => Below W0.heap.size W0 W) (by kernel_rfl) (Below.refl _ _).drew (fun hHeld => ?_)
    have hS : Below W0.heap.size W0 W0.drew := (Below.refl _ _).drew
    generalize W0.drew = WD at hS hHeld ⊢
    refine tkH (i := 0) (v := ?_) rfl (by kernel_rfl) (by rfl) ?_ (by assumption) ?_
    rotate_left
    · intro W hSw; obtain ⟨e0, e1, e6, e7, e8⟩ := HCL.out W hSw; go_simp; try (with_reducible rfl)
    simp only [Act.put, lsA, lsB, lsC]
    refine tkH (i := 1) (v := ?_) rfl (by kernel_rfl) (by rfl) ?_ (by assumption) ?_
    rotate_left
    · intro W hSw; obtain ⟨e0, e1, e6, e7, e8⟩ := HCL.out W hSw; go_simp; try (with_reducible rfl)
    simp only [Act.put, lsA, lsB, lsC]
    refine tkH (i := 2) (v := ?_) rfl (by kernel_rfl) (by rfl) ?_ (by assumption) ?_
    rotate_left
    · intro W hSw; obtain ⟨e0, e1, e6, e7, e8⟩ := HCL.out W hSw; go_simp; try (with_reducible rfl)
    simp only [Act.put, lsA, lsB, lsC]
    refine tkH (i := 3) (v := ?_) rfl (by kernel_rfl) (by rfl) ?_ (by assumption) ?_
    rotate_left
    · intro W hSw; obtain ⟨e0, e1, e6, e7, e8⟩ := HCL.out W hSw; go_simp; try (with_reducible rfl)
    simp only [Act.put, lsA, lsB, lsC]
    refine tkH (i := 4) (v := ?_) rfl (by kernel_rfl) (by rfl) ?_ (by assumption) ?_
    rotate_left
    · intro W hSw; obtain ⟨e0, e1, e6, e7, e8⟩ := HCL.out W hSw; go_simp; try (with_reducible rfl)
    simp only [Act.put, lsA, lsB, lsC]
    refine tkH (i := 5) (v := ?_) rfl (by kernel_rfl) (by rfl) ?_ (by assumption) ?_
    rotate_left
    · intro W hSw; obtain ⟨e0, e1, e6, e7, e8⟩ := HCL.out W hSw; go_simp; try (with_reducible rfl)
    simp only [Act.put, lsA, lsB, lsC]
    refine tkH (i := 6) (v := ?_) rfl (by kernel_rfl) (by rfl) ?_ (by assumption) ?_
    rotate_left
    · intro W hSw; obtain ⟨e0, e1, e6, e7, e8⟩ := HCL.out W hSw; go_simp; try (with_reducible rfl)
    simp only [Act.put, lsA, lsB, lsC]
    refine tkH (i := 7) (v := ?_) rfl (by kernel_rfl) (by rfl) ?_ (by assumption) ?_
    rotate_left
    · intro W hSw; obtain ⟨e0, e1, e6, e7, e8⟩ := HCL.out W hSw; go_simp; try (with_reducible rfl)
    simp only [Act.put, lsA, lsB, lsC]
    refine tkH (i := 8) (v := ?_) rfl (by kernel_rfl) (by rfl) ?_ (by assumption) ?_
    rotate_left
    · intro W hSw; obtain ⟨e0, e1, e6, e7, e8⟩ := HCL.out W hSw; go_simp; try (with_reducible rfl)
    simp only [Act.put, lsA, lsB, lsC]
    refine tkH (i := 9) (v := ?_) rfl (by kernel_rfl) (by rfl) ?_ (by assumption) ?_
    rotate_left
    · intro W hSw; obtain ⟨e0, e1, e6, e7, e8⟩ := HCL.out W hSw; go_simp; try (with_reducible rfl)
    simp only [Act.put, lsA, lsB, lsC]
    refine tkH (i := 10) (v := ?_) rfl (by kernel_rfl) (by rfl) ?_ (by assumption) ?_
    rotate_left
    · intro W hSw; obtain ⟨e0, e1, e6, e7, e8⟩ := HCL.out W hSw; go_simp; try (with_reducible rfl)
    simp only [Act.put, lsA, lsB, lsC]
    refine tkH (i := 11) (v := ?_) rfl (by kernel_rfl) (by rfl) ?_ (by assumption) ?_
    rotate_left
    · intro W hSw; obtain ⟨e0, e1, e6, e7, e8⟩ := HCL.out W hSw; go_simp; try (with_reducible rfl)
    simp only [Act.put, lsA, lsB, lsC]
    refine tkH (i := 13) (v := ?_) rfl (by kernel_rfl) (by rfl) ?_ (by assumption) ?_
    rotate_left
    · intro W hSw; obtain ⟨e0, e1, e6, e7, e8⟩ := HCL.out W hSw; go_simp; try (with_reducible rfl)
    simp only [Act.put, lsA, lsB, lsC]
    refine tkH (i := 14) (v := ?_) rfl (by kernel_rfl) (by rfl) ?_ (by assumption) ?_
    rotate_left
    · intro W hSw; obtain ⟨e0, e1, e6, e7, e8⟩ := HCL.out W hSw; go_simp; try (with_reducible rfl)
    simp only [Act.put, lsA, lsB, lsC]
    refine tkH (i := 15) (v := ?_) rfl (by kernel_rfl) (by rfl) ?_ (by assumption) ?_
    rotate_left
    · intro W hSw; obtain ⟨e0, e1, e6, e7, e8⟩ := HCL.out W hSw; go_simp; try (with_reducible rfl)
    simp only [Act.put, lsA, lsB, lsC]
    refine tkH (i := 16) (v := ?_) rfl (by kernel_rfl) (by rfl) ?_ (by assumption) ?_
    rotate_left
    · intro W hSw; obtain ⟨e0, e1, e6, e7, e8⟩ := HCL.out W hSw; go_simp; try (with_reducible rfl)
    simp only [Act.put, lsA, lsB, lsC]
    refine tkH (i := 17) (v := ?_) rfl (by kernel_rfl) (by rfl) ?_ (by assumption) ?_
    rotate_left
    · intro W hSw; obtain ⟨e0, e1, e6, e7, e8⟩ := HCL.out W hSw; go_simp; try (with_reducible rfl)
    simp only [Act.put, lsA, lsB, lsC]
    refine tkH (i := 18) (v := ?_) rfl (by kernel_rfl) (by rfl) ?_ (by assumption) ?_
    rotate_left
    · intro W hSw; obtain ⟨e0, e1, e6, e7, e8⟩ := HCL.out W hSw; go_simp; try (with_reducible rfl)
    simp only [Act.put, lsA, lsB, lsC]
    refine tkH (i := 19) (v := ?_) rfl (by kernel_rfl) (by rfl) ?_ (by assumption) ?_
    rotate_left
    · intro W hSw; obtain ⟨e0, e1, e6, e7, e8⟩ := HCL.out W hSw; go_simp; try (with_reducible rfl)
    simp only [Act.put, lsA, lsB, lsC]
    refine tkH (i := 20) (v := ?_) rfl (by kernel_rfl) (by rfl) ?_ (by assumption) ?_
    rotate_left
    · intro W hSw; obtain ⟨e0, e1, e6, e7, e8⟩ := HCL.out W hSw; go_simp; try (with_reducible rfl)
    simp only [Act.put, lsA, lsB, lsC]
    refine wpAnyH_ready (rs := [12, 23]) (by kernel_rfl) (by simp) (arC rfl (fun K hK => ?_) (arC rfl (fun K hK => ?_) AllReadyH.nil))
    · go_simp
      refine (HCl.out _ (by assumption)).mono ?_
      rintro e w1 ⟨a', cap', rfl, hbw1, hbo⟩
      have hSw1 : Below W0.heap.size W0 w1 := hS.trans (hbw1.mono hS.size)
      go_wp2_with fail
      refine hK.out _ _ hSw1 (fun _ => ?_)
      clear hK K
      try simp only [Act.put, lsA, lsB, lsC]
      refine wpAnyH_ready (rs := [21, 23]) (by kernel_rfl) (by simp) (arC rfl (fun K hK => ?_) (arC rfl (fun K hK => ?_) AllReadyH.nil))
      · have hSp := hSw1
        go_simp
        refine (HSc.out _).mono ?_
        rintro e w2 ⟨rfl, hbw2⟩
        have hSw2 : Below W0.heap.size W0 w2 := hSp.trans (hbw2.mono hSp.size)
        go_wp2_with fail
        refine hK.out _ _ hSw2 (fun _ => ?_)
        clear hK K
        try simp only [Act.put, lsA, lsB, lsC]
        refine tkH (i := 22) (v := ?_) rfl (by kernel_rfl) (by rfl) ?_ (by assumption) ?_
        rotate_left
        · intro W hSw; obtain ⟨e0, e1, e6, e7, e8⟩ := HCL.out W hSw; go_simp; try (with_reducible rfl)
        simp only [Act.put, lsA, lsB, lsC]
        refine wpAnyH_ready (rs := [23]) (by kernel_rfl) (by simp) (arC rfl (fun K hK => ?_) AllReadyH.nil)
        rw [if_pos (by rfl)]
        refine wp_alloc_type rfl (fun za hz => ?_)
        have hA := heap_alloc_new (w2) (.cells za 34)
        have hSa := (hSw2).alloc (hSw2).size (.cells za 34)
        refine hK.out _ _ hSa (fun _ => ?_)
        clear hK K
        try simp only [Act.put, lsA, lsB, lsC]
        have hge : W0.heap.size ≤ w2.heap.size := hSw2.size
        refine wpAnyH_ready (rs := [24]) (by kernel_rfl) (by simp) (arC rfl (fun K hK => ?_) AllReadyH.nil)
        rw [if_pos (by rfl)]
        refine wp_store_row 34 _ _ rfl (w2.heap.size) (acs k o (.slice a' l.length cap') op c) rfl rfl 34 za hA ysz hz (acs_one k o a' l.length cap' op c) ?_
        refine hK.out _ _ (below_setRow hSa hge _) (fun _ => ?_)
        clear hK K
        try simp only [Act.put]
        refine wpAnyH_done (by kernel_rfl) ?_ _
        refine ⟨rfl, (w2.heap.size, a', cap'), ?_, af_fin hz0 HW0.out hSa hA hge (hbo.same (fun q hq => ((hbw2.alloc hbw2.size _).block q hq.2)) (fun q hq => ⟨by have := hq.1; have := hS.size; omega, by have := hq.2; have := hbw2.size; simp; omega, by have := hq.2; have := hbw2.size; omega⟩))⟩
        simp only [List.foldl, lsA, lsB, lsC]
      · rw [if_pos (by rfl)]
        refine wp_alloc_type rfl (fun za hz => ?_)
        have hA := heap_alloc_new (w1) (.cells za 34)
        have hSa := (hSw1).alloc (hSw1).size (.cells za 34)
        refine hK.out _ _ hSa (fun _ => ?_)
        clear hK K
        try simp only [Act.put, lsA, lsB, lsC]
        have hSp := hSa
        refine wpAnyH_ready (rs := [21]) (by kernel_rfl) (by simp) (arC rfl (fun K hK => ?_) AllReadyH.nil)
        go_simp
        refine (HSc.out _).mono ?_
        rintro e w2 ⟨rfl, hbw2⟩
        have hSw2 : Below W0.heap.size W0 w2 := hSp.trans (hbw2.mono hSp.size)
        go_wp2_with fail
        refine hK.out _ _ hSw2 (fun _ => ?_)
        clear hK K
        try simp only [Act.put, lsA, lsB, lsC]
        refine tkH (i := 22) (v := ?_) rfl (by kernel_rfl) (by rfl) ?_ (by assumption) ?_
        rotate_left
        · intro W hSw; obtain ⟨e0, e1, e6, e7, e8⟩ := HCL.out W hSw; go_simp; try (with_reducible rfl)
        simp only [Act.put, lsA, lsB, lsC]
        have hge : W0.heap.size ≤ w1.heap.size := hSw1.size
        have hA2 := (hbw2.block w1.heap.size (by simp)).trans hA
        refine wpAnyH_ready (rs := [24]) (by kernel_rfl) (by simp) (arC rfl (fun K hK => ?_) AllReadyH.nil)
        rw [if_pos (by rfl)]
        refine wp_store_row 34 _ _ rfl (w1.heap.size) (acs k o (.slice a' l.length cap') op c) rfl rfl 34 za hA2 ysz hz (acs_one k o a' l.length cap' op c) ?_
        refine hK.out _ _ (below_setRow hSw2 hge _) (fun _ => ?_)
        clear hK K
        try simp only [Act.put]
        refine wpAnyH_done (by kernel_rfl) ?_ _
        refine ⟨rfl, (w1.heap.size, a', cap'), ?_, af_fin hz0 HW0.out hSw2 hA2 hge (hbo.same (fun q hq => (hbw2.block q (by have := hq.2; simp; omega)).trans (old_alloc _ hq.2)) (fun q hq => ⟨by have := hq.1; have := hS.size; omega, by have := hq.2; have := hbw2.size; simp at this; omega, by have := hq.2; omega⟩))⟩
        simp only [List.foldl, lsA, lsB, lsC]
    · have hWD := hS.size
      rw [if_pos (by rfl)]
      refine wp_alloc_type rfl (fun za hz => ?_)
      have hA := heap_alloc_new (WD) (.cells za 34)
      have hSa := (hS).alloc (hS).size (.cells za 34)
      refine hK.out _ _ hSa (fun _ => ?_)
      clear hK K
      try simp only [Act.put, lsA, lsB, lsC]
      have hS0 := hS
      have hS := hSa
      refine wpAnyH_ready (rs := [12]) (by kernel_rfl) (by simp) (arC rfl (fun K hK => ?_) AllReadyH.nil)
      go_simp
      refine (HCl.out _ (by assumption)).mono ?_
      rintro e w1 ⟨a', cap', rfl, hbw1, hbo⟩
      have hSw1 : Below W0.heap.size W0 w1 := hS.trans (hbw1.mono hS.size)
      go_wp2_with fail
      refine hK.out _ _ hSw1 (fun _ => ?_)
      clear hK K
      try simp only [Act.put, lsA, lsB, lsC]
      have hSp := hSw1
      refine wpAnyH_ready (rs := [21]) (by kernel_rfl) (by simp) (arC rfl (fun K hK => ?_) AllReadyH.nil)
      go_simp
      refine (HSc.out _).mono ?_
      rintro e w2 ⟨rfl, hbw2⟩
      have hSw2 : Below W0.heap.size W0 w2 := hSp.trans (hbw2.mono hSp.size)
      go_wp2_with fail
      refine hK.out _ _ hSw2 (fun _ => ?_)
      clear hK K
      try simp only [Act.put, lsA, lsB, lsC]
      refine tkH (i := 22) (v := ?_) rfl (by kernel_rfl) (by rfl) ?_ (by assumption) ?_
      rotate_left
      · intro W hSw; obtain ⟨e0, e1, e6, e7, e8⟩ := HCL.out W hSw; go_simp; try (with_reducible rfl)
      simp only [Act.put, lsA, lsB, lsC]
      have hge : W0.heap.size ≤ WD.heap.size := hWD
      have hA2 := (hbw2.block WD.heap.size (by have := hbw1.size; simp at this; omega)).trans ((hbw1.block WD.heap.size (by simp)).trans hA)
      refine wpAnyH_ready (rs := [24]) (by kernel_rfl) (by simp) (arC rfl (fun K hK => ?_) AllReadyH.nil)
      rw [if_pos (by rfl)]
      refine wp_store_row 34 _ _ rfl (WD.heap.size) (acs k o (.slice a' l.length cap') op c) rfl rfl 34 za hA2 ysz hz (acs_one k o a' l.length cap' op c) ?_
      refine hK.out _ _ (below_setRow hSw2 hge _) (fun _ => ?_)
      clear hK K
      try simp only [Act.put]
      refine wpAnyH_done (by kernel_rfl) ?_ _
      refine ⟨rfl, (WD.heap.size, a', cap'), ?_, af_fin hz0 HW0.out hSw2 hA2 hge (hbo.same (fun q hq => hbw2.block q hq.2) (fun q hq => ⟨by have := hq.1; simp at this; omega, by have := hq.2; have := hbw2.size; omega, by have := hq.1; simp at this; omega⟩))⟩
      simp only [List.foldl, lsA, lsB, lsC]
  · rintro ⟨TB, a', cap'⟩ W hF
    obtain ⟨i0, ji, jz0, jz1, jz2⟩ := info_parts Tryz.infoS
    obtain ⟨i1, ki, kz0, kz1, kz2⟩ := info_parts Tryz.infoY
    have HRQ := AF.rq hF
    have hbW : Below w.heap.size w W := hF.1
    have hTBW : w.heap.size + 1 ≤ TB := hF.2.2.2.1.1
    have HSH : Hid (∀ V, Below w.heap.size w V → V.cell? ⟨b, 0, none⟩ = some (.int .i64 k) ∧ V.cell? ⟨b, 4, none⟩ = some (.slice ap p.len cp) ∧ V.cell? ⟨b, 5, none⟩ = some (.slice an n.length cn)) := fun V hV => by
      have hq : V.heap[b]? = some (.cells (shc k o v s (.slice ap p.len cp) (.slice an n.length cn) (.slice ak l.length ck) op c x y) 102 (0, 0)) := by rw [hV.block b hbw]; exact hh
      refine ⟨?_, ?_, ?_⟩ <;> (rw [cell_of_row _ _ _ _ _ _ hq]; rfl)
    have HScn : Hid (∀ V (s : ByteArray), s.size ≤ 140737488355328 → Calls Tryz.prog 59 #[.string s] V fun e w' => e = .returned (.string s) ∧ Below V.heap.size V w') := fun V s hs => sClone_any s V hs
    have HNM : Hid (NamesAt w (Lo B) an n ∧ B ≤ w.heap.size) := ⟨hn, hB⟩
    have HNS : Hid (∀ s ∈ n, s.size ≤ 140737488355328) := fun s hs => by
      obtain ⟨i, hi', rfl⟩ := List.mem_iff_getElem.1 hs
      obtain ⟨_, _, _, _, _, h⟩ := hn i _ (List.getElem?_eq_getElem hi')
      exact h
    have HPT : Hid (p.Sh w (Lo B) ap 0 ∧ p.ok = true ∧ p.cnt ≤ 16384 ∧ p.B4 ∧ p.len ≤ 16384) := ⟨hp, hpo, hpc, hpb, by have := p.len_cnt; omega⟩
    have HCH : Hid (AsC N) := HC
    have HR0 : Hid _ := HRQ
    obtain ⟨s0, -, s5⟩ := HSH.out W hbW
    clear hF HRQ hn hp hpo hpc hpb HC hh hl HCl HSc HCL HW0 hW0 hz0 W0
    simp only [List.foldl, Act.put, lsA, lsB, lsC]
    go_wp2_with fail
    go_loopw [50] (fun i wr => ∃ (j : Nat) (v1 : Value), i = .int .i64 (j : Int) ∧ j ≤ n.length ∧ Hid (RQ 9 1 14 (X1 a' l) w wr TB (acs2 k o (.slice none 0 0) (.slice none 0 0) (.slice a' l.length cap') op c) v1 j ((n.take j).map Value.string))) (fun i _ => n.length - (intOf i).toNat)
    case atStart => exact ⟨0, .slice none 0 0, rfl, Nat.zero_le _, by simp only [List.take_zero, List.map_nil]; exact HR0.out⟩
    case round =>
     obtain ⟨j, v1, rfl, hj, HK⟩ := hrel
     clear HR0 s0 s5
     have hTB := HK.out.tb.2
     have hzw := HK.out.bel.size
     by_cases hjl : j < n.length
     · obtain ⟨s1, hs1e⟩ : ∃ s1, n[j]? = some s1 := ⟨_, List.getElem?_eq_getElem hjl⟩
       have hs1 : s1 ∈ n := List.mem_of_getElem? hs1e
       obtain ⟨g, o', hae, hg, hc', -⟩ := HNM.out.1 j s1 hs1e
       subst hae
       have hgl : g < w.heap.size := Nat.lt_of_lt_of_le hg HNM.out.2
       have e0 : wr.cell? ⟨g, o' + j, none⟩ = some (.string s1) := by rw [HK.out.bel.cell (p := ⟨g, o' + j, none⟩) hgl]; exact hc'
       have q14 : wr.cell? ⟨TB, 14, none⟩ = some v1 := by rw [cell_of_row _ _ _ _ _ _ HK.out.bx]; rfl
       have hi0 : (0 : Int) ≤ (j : Int) := Int.natCast_nonneg _
       have hi1 : (j : Int) < (n.length : Int) := by omega
       have HTK : Hid ((n.take (j + 1)).map Value.string = (n.take j).map Value.string ++ [.string s1]) := by
         show _ = _
         rw [List.take_add_one, hs1e]; simp
       clear hc' hs1e hg
       go_wp2_with fail
       refine wp_region_mark (fun W => W.cell? ⟨TB, 14, none⟩ = some v1) 7 (by kernel_rfl) ?_
       have hHeld : wr.drew.cell? ⟨TB, 14, none⟩ = some v1 := q14
       refine tkF (i := 0) (v := ?_) rfl (by kernel_rfl) (by rfl) ?_ (.inr (by assumption)) ?_
       rotate_left
       · intro W hSw; go_simp; try (with_reducible rfl)
       simp only [Act.put, lsA, lsB, lsC]
       refine tkM (i := 1) (v := ?_) [5] rfl (by kernel_rfl) (by rfl) ?_ (by assumption) ?_
       rotate_left
       · intro W hSw; (try dsimp only at hSw); go_simp; try (with_reducible rfl)
       simp only [Act.put, lsA, lsB, lsC]
       refine tkF (i := 2) (v := ?_) rfl (by kernel_rfl) (by rfl) ?_ (.inr (by assumption)) ?_
       rotate_left
       · intro W hSw; go_simp; try (with_reducible rfl)
       simp only [Act.put, lsA, lsB, lsC]
       refine tkO (i := 3) (by kernel_rfl) rfl (fun K hK => ?_)
       go_simp
       refine (HScn.out _ s1 (HNS.out s1 hs1)).mono ?_
       rintro e w1 ⟨rfl, hb1⟩
       have hbr : Below wr.heap.size wr w1 := (Below.refl _ _).drew.trans hb1
       have hzr := hbr.size
       have hH1 : w1.cell? ⟨TB, 14, none⟩ = some v1 := by rw [hbr.cell (p := ⟨TB, 14, none⟩) hTB]; exact q14
       have H1 : Hid (Below wr.heap.size wr w1) := hbr
       clear hb1 hbr
       go_wp2_with fail
       clear hHeld
       have hHeld := hH1
       refine hK.out _ _ (.inr hHeld) ?_
       clear hK K
       clear hH1
       refine tkO (i := 4) (by kernel_rfl) rfl (fun K hK => ?_)
       go_simp
       have hH2 : (w1.alloc (.cells #[.string s1] 9)).cell? ⟨TB, 14, none⟩ = some v1 := by rw [World.cell?_alloc_some _ _ _ (by rw [hHeld]; rfl)]; exact hHeld
       clear hHeld
       have hHeld := hH2
       refine hK.out _ _ (.inr hHeld) ?_
       clear hK K
       clear hH2
       refine tkO (i := 5) (by kernel_rfl) rfl (fun K hK => ?_)
       refine step_append_lies _ (by rfl) _ _ 31 (by rfl) (w.heap.size + 1) 9 i0 _ 1 16 Tryz.undStr ji jz0 jz1 jz2 rfl (by omega) v1 j ((n.take j).map Value.string) (by rfl) ((owns_below H1.out HK.out.own).alloc _) ⟨w1.heap.size, 0, none⟩ 1 1 [.string s1] (by rfl) (by rfl) (block_cells (heap_alloc_new w1 _)) (fun u hu => by simp at hu; subst hu; rfl) (by omega) (by unfold maxLen; omega) (by omega) (by simp; omega) (w1.heap.size + 1) (by simp) ?_
       intro g' c' w3 hown3 hgrow3 hor3 hlt3
       have HST := HK.out.step (X' := X1 a' l) X1.st (W2 := w1.alloc (.cells #[.string s1] 9)) (H1.out.alloc H1.out.size _) (X1.st HK.out.x (fun q hq => (H1.out.alloc H1.out.size (.cells #[.string s1] 9)).block q hq.2.1) (fun q hq => .inl hq)) hown3 hgrow3 (by simpa using hor3)
       have f3 : w3.cell? ⟨TB, 14, none⟩ = some v1 := by rw [cell_of_row _ _ _ _ _ _ HST.1]; rfl
       have z3 := Lib.frozen_of_heap HST.1 14
       have HS3 : Hid _ := HST.2
       clear hown3 hgrow3 hor3 HST
       clear hHeld
       have hHeld := f3
       refine hK.out _ _ (.inr hHeld) ?_
       clear hK K
       try simp only [Act.put, lsA, lsB, lsC]
       refine tkF (i := 6) (v := ?_) rfl (by kernel_rfl) (by rfl) ?_ (.inr (by assumption)) ?_
       rotate_left
       · intro W hSw; go_simp; try (with_reducible rfl)
       simp only [Act.put, lsA, lsB, lsC]
       refine tkO (i := 7) (by kernel_rfl) rfl (fun K hK => ?_)
       go_simp
       refine hK.out _ _ (.inl (by kernel_rfl)) ?_
       clear hK K
       refine wpAnyM_done (by kernel_rfl) ?_ _
       go_wp2_with fail
       go_roundw
       case rel => exact ⟨j + 1, _, by go_num, by omega, by rw [HTK.out]; exact HS3.out⟩
       case measure => simp [intOf]; omega
     · have hje : j = n.length := by omega
       subst hje
       rw [List.take_length] at HK
       obtain ⟨an', cn', rfl, hq⟩ := HK.out.next HNS.out
       obtain ⟨-, s4, -⟩ := HSH.out wr HK.out.bel
       have HR2 : Hid _ := hq
       clear hq HK
       go_wp2_with fail
       go_loopw [67] (fun i w2 => ∃ (j : Nat) (v1 : Value) (u q0 q : TyL) (cs : List (Array Value)), i = .int .i64 (j : Int) ∧ u.len + j = p.len ∧ u.sz ≤ N ∧ Hid (RQ 34 18 13 (X2 a' an' l n q cs) w w2 TB (acs2 k o (.slice none 0 0) (.slice an' n.length cn') (.slice a' l.length cap') op c) v1 j (cs.flatMap (·.toList)) ∧ p = q0.app u ∧ q0.al q ∧ q.len = j ∧ u.ok = true ∧ u.cnt ≤ 16384 ∧ u.B4 ∧ u.Sh w (Lo B) ap j)) (fun i _ => p.len - (intOf i).toNat)
       case atStart => exact ⟨0, .slice none 0 0, p, .nil, .nil, [], rfl, rfl, hpN, ⟨HR2.out, rfl, trivial, rfl, HPT.out.2.1, HPT.out.2.2.1, HPT.out.2.2.2.1, HPT.out.1⟩⟩
       case round =>
        obtain ⟨j, v1, u, q0, q, cs, rfl, hj, huN, HK⟩ := hrel
        clear HR2 s4
        have hTB := HK.out.1.tb.2
        have hzw := HK.out.1.bel.size
        have hpl := HPT.out.2.2.2.2
        cases u with
        | nil =>
          have hj' : p.len ≤ j := by simp [TyL.len] at hj; omega
          obtain ⟨hq, e0, e2, e3, -⟩ := HK.out
          have e1 : p = q0 := by rw [e0]; exact TyL.app_nil _
          clear e0
          subst e1
          have hql := TyL.al_len _ _ e2
          rw [← e3] at hq
          obtain ⟨ap', cp', rfl, hin⟩ := hq.all hk ho (by omega) (by omega) (by omega) (by omega)
          obtain ⟨z, hzs, hzr⟩ := hq.rb
          have hbx := hq.bx
          have HLd : Hid ((loadVar 34 ⟨TB, 0, none⟩).run Tryz.prog wr = .ok (.agg (acs2 k o (.slice ap' q.len cp') (.slice an' n.length cn') (.slice a' l.length cap') op c)) wr) := yld rfl hbx
          have HSt : Hid ((storeVar 34 ⟨w.heap.size, 0, none⟩ (.agg (acs2 k o (.slice ap' q.len cp') (.slice an' n.length cn') (.slice a' l.length cap') op c))).run Tryz.prog wr = .ok () (wr.setRow w.heap.size (acs2 k o (.slice ap' q.len cp') (.slice an' n.length cn') (.slice a' l.length cap') op c))) := run_storeVar_row wr w.heap.size 34 34 z _ hzr ysz hzs (acs2_one _ _ _ _ _ _ _ _ _ _ _ _ _)
          have hr := setRow_heap wr w.heap.size z (acs2 k o (.slice ap' q.len cp') (.slice an' n.length cn') (.slice a' l.length cap') op c) _ _ hzr
          have hbw9 : Below w.heap.size w (wr.setRow w.heap.size (acs2 k o (.slice ap' q.len cp') (.slice an' n.length cn') (.slice a' l.length cap') op c)) := below_setRow hq.bel (Nat.le_refl _) _
          have hin9 : (Ty.mk k o tm0 q n l op c).In (wr.setRow w.heap.size (acs2 k o (.slice ap' q.len cp') (.slice an' n.length cn') (.slice a' l.length cap') op c)) (Fr w (wr.setRow w.heap.size (acs2 k o (.slice ap' q.len cp') (.slice an' n.length cn') (.slice a' l.length cap') op c))) (acs2 k o (.slice ap' q.len cp') (.slice an' n.length cn') (.slice a' l.length cap') op c) := Ty.In_same (fun x hx => setRow_other _ _ _ _ (by have := hx.1; omega)) (fun x hx => ⟨by have := hx.1; omega, by have := hx.2.1; simp [World.setRow]; omega⟩) _ _ hin
          have H9 : Hid (Below w.heap.size w (wr.setRow w.heap.size (acs2 k o (.slice ap' q.len cp') (.slice an' n.length cn') (.slice a' l.length cap') op c)) ∧ p.al q ∧ (Ty.mk k o tm0 q n l op c).In (wr.setRow w.heap.size (acs2 k o (.slice ap' q.len cp') (.slice an' n.length cn') (.slice a' l.length cap') op c)) (Fr w (wr.setRow w.heap.size (acs2 k o (.slice ap' q.len cp') (.slice an' n.length cn') (.slice a' l.length cap') op c))) (acs2 k o (.slice ap' q.len cp') (.slice an' n.length cn') (.slice a' l.length cap') op c)) := ⟨hbw9, e2, hin9⟩
          have HR9 : Hid ((wr.setRow w.heap.size (acs2 k o (.slice ap' q.len cp') (.slice an' n.length cn') (.slice a' l.length cap') op c)).heap[w.heap.size]? = some (.cells (acs2 k o (.slice ap' q.len cp') (.slice an' n.length cn') (.slice a' l.length cap') op c) 34 (0, 0))) := hr
          generalize wr.setRow w.heap.size (acs2 k o (.slice ap' q.len cp') (.slice an' n.length cn') (.slice a' l.length cap') op c) = W9 at HSt H9 HR9
          clear hq e2 hin hzs hzr hbx hr hbw9 hin9 HK hj hpl hnl hll hc hql e3
          clear hTB hzw hk ho HPT HNM HNS HScn HSH HCH
          go_wp2_with (first | ((with_reducible refine ld_row ?_ ?_ HLd.out ?_); rfl; rfl) | ((with_reducible refine st_row ?_ ?_ ?_ HSt.out ?_); rfl; rfl; rfl))
          refine bodyPost_ret (results_cell_row Tryz.results29 _ W9 _ _ _ _ _ rfl HR9.out Tryz.underlying34 rfl ysz) rfl ?_
          exact ⟨_, q, rfl, H9.out⟩
        | cons t1 u' =>
          obtain ⟨hq, e1, e2, e3, hok, hcn, hb4, hsh⟩ := HK.out
          simp only [TyL.Sh] at hsh
          obtain ⟨g, o', b1, hae, hg, hc', hs1, hsh'⟩ := hsh
          subst hae
          have hj1 : j < p.len := by simp [TyL.len] at hj; omega
          have HJ : Hid (u'.len + (j + 1) = p.len) := by show _ = _; simp [TyL.len] at hj; omega
          have hN1 : t1.sz ≤ N ∧ u'.sz ≤ N := by simp [TyL.sz] at huN; omega
          simp only [TyL.ok, Bool.and_eq_true] at hok
          have hcp := Ty.cnt_pos t1
          have hcp2 := TyL.cnt_pos u'
          simp only [TyL.cnt] at hcn
          have hgl : g < w.heap.size := Nat.lt_of_lt_of_le hg HNM.out.2
          have e0 : wr.cell? ⟨g, o' + j, none⟩ = some (.pointer (some ⟨b1, 0, none⟩)) := by rw [hq.bel.cell (p := ⟨g, o' + j, none⟩) hgl]; exact hc'
          have q13 : wr.cell? ⟨TB, 13, none⟩ = some v1 := by rw [cell_of_row _ _ _ _ _ _ hq.bx]; rfl
          have hi0 : (0 : Int) ≤ (j : Int) := Int.natCast_nonneg _
          have hi1 : (j : Int) < (p.len : Int) := by omega
          have HT : Hid (∀ V, Below wr.heap.size wr V → Calls Tryz.prog 29 #[.pointer (some ⟨b1, 0, none⟩)] V (AsE t1 V)) := fun V hV => by
            have hbV : Below w.heap.size w V := hq.bel.trans (hV.mono hq.bel.size)
            exact HCH.out t1 hN1.1 hok.1 (by omega) hb4.1 b1 B V (Nat.le_trans HNM.out.2 hbV.size) (t1.Sh_same (fun x hx => hbV.block x (Nat.lt_of_lt_of_le hx HNM.out.2)) (fun _ h => h) b1 hs1)
          have HK2 : Hid (p = q0.app (.cons t1 u') ∧ q0.al q ∧ q.len = j ∧ u'.ok = true ∧ u'.cnt ≤ 16384 ∧ u'.B4 ∧ u'.Sh w (Lo B) (some ⟨g, o', none⟩) (j + 1)) := ⟨e1, e2, e3, hok.2, by omega, hb4.2, hsh'⟩
          clear hq e1 e2 e3 hok hcn hb4 hs1 hsh' hc' hg hj huN hcp hcp2
          go_wp2_with fail
          refine wp_region_mark (fun W => W.cell? ⟨TB, 13, none⟩ = some v1) 7 (by kernel_rfl) ?_
          have hHeld : wr.drew.cell? ⟨TB, 13, none⟩ = some v1 := q13
          refine tkF (i := 0) (v := ?_) rfl (by kernel_rfl) (by rfl) ?_ (.inr (by assumption)) ?_
          rotate_left
          · intro W hSw; go_simp; try (with_reducible rfl)
          simp only [Act.put, lsA, lsB, lsC]
          refine tkM (i := 1) (v := ?_) [5] rfl (by kernel_rfl) (by rfl) ?_ (by assumption) ?_
          rotate_left
          · intro W hSw; (try dsimp only at hSw); go_simp; try (with_reducible rfl)
          simp only [Act.put, lsA, lsB, lsC]
          refine tkF (i := 2) (v := ?_) rfl (by kernel_rfl) (by rfl) ?_ (.inr (by assumption)) ?_
          rotate_left
          · intro W hSw; go_simp; try (with_reducible rfl)
          simp only [Act.put, lsA, lsB, lsC]
          refine tkO (i := 3) (by kernel_rfl) rfl (fun K hK => ?_)
          go_simp
          refine (HT.out _ (Below.refl _ _).drew).mono ?_
          rintro e w1 ⟨ct, t', rfl, hb1, hin, hal⟩
          have hbr : Below wr.heap.size wr w1 := (Below.refl _ _).drew.trans hb1
          have hzr := hbr.size
          obtain ⟨hcz, hco⟩ := Ty.In_cells hin
          have hH1 : w1.cell? ⟨TB, 13, none⟩ = some v1 := by rw [hbr.cell (p := ⟨TB, 13, none⟩) hTB]; exact q13
          have H1 : Hid (Below wr.heap.size wr w1 ∧ t'.In w1 (Fr wr w1) ct ∧ t1.al t' ∧ ct.size = 18 ∧ ct.all (·.oneCell') = true) := ⟨hbr, hin, hal, hcz, hco⟩
          clear hb1 hbr hin hal hco
          go_wp2_with fail
          clear hHeld
          have hHeld := hH1
          refine hK.out _ _ (.inr hHeld) ?_
          clear hK K
          clear hH1
          refine tkO (i := 4) (by kernel_rfl) rfl (fun K hK => ?_)
          refine bsl_up (vs := #[(0, .agg ct)]) (by rfl) (by rfl) (ybs1 w1 hcz) ?_
          have hH2 : (w1.alloc (.cells ct 34)).cell? ⟨TB, 13, none⟩ = some v1 := by rw [World.cell?_alloc_some _ _ _ (by rw [hHeld]; rfl)]; exact hHeld
          clear hHeld
          have hHeld := hH2
          refine hK.out _ _ (.inr hHeld) ?_
          clear hK K
          clear hH2
          try simp only [Act.put, lsA, lsB, lsC]
          refine tkO (i := 5) (by kernel_rfl) rfl (fun K hK => ?_)
          refine step_append_lies _ (by rfl) _ _ 30 (by rfl) (w.heap.size + 1) 34 i1 _ 18 264 Tryz.undYs ki kz0 kz1 kz2 rfl (by omega) v1 j (cs.flatMap (·.toList)) (by rfl) ((owns_below H1.out.1 HK.out.1.own).alloc _) ⟨w1.heap.size, 0, none⟩ 1 1 ct.toList (by rfl) (by simp [hcz]) (block_cells (heap_alloc_new w1 _)) (fun u hu => (Array.all_eq_true_iff_forall_mem.1 H1.out.2.2.2.2) u (by simpa using hu)) (by omega) (by have := HPT.out.2.2.2.2; unfold maxLen; omega) (by have := HPT.out.2.2.2.2; omega) (by simp; omega) (w1.heap.size + 1) (by simp) ?_
          intro g' c' w3 hown3 hgrow3 hor3 hlt3
          have hx2 : X2 a' an' l n (q.app (.cons t' .nil)) (cs ++ [ct]) (w1.alloc (.cells ct 34)) (fun x => AB w wr TB v1 x ∨ Fr wr (w1.alloc (.cells ct 34)) x) := by
            have hb2 := H1.out.1.alloc H1.out.1.size (.cells ct 34)
            obtain ⟨u1, u2, u3⟩ := X2.st HK.out.1.x (fun x hx => hb2.block x hx.2.1) (fun x hx => (.inl hx : AB w wr TB v1 x ∨ Fr wr (w1.alloc (.cells ct 34)) x))
            exact ⟨u1, u2, TyL.PIn_snoc (t'.In_same (B := Fr wr w1) (fun x hx => old_alloc _ hx.2) (fun x hx => .inr ⟨hx.1, by have := hx.2; simp; omega⟩) ct H1.out.2.1) _ _ u3⟩
          rw [show cs.flatMap (·.toList) ++ ct.toList = (cs ++ [ct]).flatMap (·.toList) by simp] at hown3
          have HST := HK.out.1.step (X' := X2 a' an' l n (q.app (.cons t' .nil)) (cs ++ [ct])) X2.st (H1.out.1.alloc H1.out.1.size _) hx2 hown3 hgrow3 (by simpa using hor3)
          have f3 : w3.cell? ⟨TB, 13, none⟩ = some v1 := by rw [cell_of_row _ _ _ _ _ _ HST.1]; rfl
          have z3 := Lib.frozen_of_heap HST.1 13
          have HS3 : Hid _ := HST.2
          clear hown3 hgrow3 hor3 HST hx2
          clear hHeld
          have hHeld := f3
          refine hK.out _ _ (.inr hHeld) ?_
          clear hK K
          try simp only [Act.put, lsA, lsB, lsC]
          refine tkF (i := 6) (v := ?_) rfl (by kernel_rfl) (by rfl) ?_ (.inr (by assumption)) ?_
          rotate_left
          · intro W hSw; go_simp; try (with_reducible rfl)
          simp only [Act.put, lsA, lsB, lsC]
          refine tkO (i := 7) (by kernel_rfl) rfl (fun K hK => ?_)
          go_simp
          refine hK.out _ _ (.inl (by kernel_rfl)) ?_
          clear hK K
          refine wpAnyM_done (by kernel_rfl) ?_ _
          go_wp2_with fail
          go_roundw
          case rel => exact ⟨j + 1, _, u', q0.app (.cons t1 .nil), q.app (.cons t' .nil), cs ++ [ct], by go_num, HJ.out, hN1.2, ⟨HS3.out, by rw [TyL.app_assoc]; exact HK2.out.1, TyL.al_app _ _ _ _ HK2.out.2.1 ⟨H1.out.2.2.1, trivial⟩, by rw [TyL.app_len, HK2.out.2.2.1]; rfl, HK2.out.2.2.2⟩⟩
          case measure => simp [intOf]; omega
end Go.Proofs.YtjdjpbdfchhcfaaGreat

