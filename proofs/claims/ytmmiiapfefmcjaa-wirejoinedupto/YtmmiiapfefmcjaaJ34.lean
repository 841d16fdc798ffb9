/- Bytes that a row holds. -/
import Derived.Test.YtmmiiapfefmcjaaJ31
import Derived.Test.YtmmiiapfefmcjaaJ7
import Derived.Test.YtmmiiapfefmcjaaJ11
import Derived.Test.YtmmiiapfefmcjaaJ14
import Derived.Test.YtmmiiapfefmcjaaJ3
namespace Go.Proofs.Ytmmiiapfefmcjaa
open Go.RowKit

/-- bytes that can be read -/
def Rd (w : World) (a : Option Addr) (xs : List Int) : Prop := ∀ j u, xs[j]? = some u → ∃ g, a = some ⟨g, 0, none⟩ ∧ g < w.heap.size ∧ w.cell? ⟨g, j, none⟩ = some (.int .u8 u)
theorem Outs.rd {w : World} {base : Nat} {a : Option Addr} {cap : Nat} {xs : List Int} (h : Outs w base a cap xs) : Rd w a xs := fun j u hu => by
  have hp : 0 < xs.length := by
    cases xs with
    | nil => simp at hu
    | cons => simp
  obtain ⟨g, rfl⟩ := h.some hp
  refine ⟨g, rfl, (h.1.lt g rfl).2, ?_⟩
  have := h.1.cells (g := g) rfl j (.int .u8 u) (by simp only [u8s, List.getElem?_map, hu, Option.map_some])
  rw [addr_add] at this; simpa using this
theorem Rd.same {w w' : World} {a : Option Addr} {xs : List Int} (h : Rd w a xs) (hb : Below w.heap.size w w') : Rd w' a xs := fun j u hu => by
  obtain ⟨g, e, hg, hc⟩ := h j u hu
  exact ⟨g, e, Nat.lt_of_lt_of_le hg hb.size, by rw [hb.cell (p := ⟨g, j, none⟩) hg]; exact hc⟩

end Go.Proofs.Ytmmiiapfefmcjaa

/- tenonlaw03.full: it writes into its own row and new memory alone. -/
namespace Go.Proofs.Ytmmiiapfefmcjaa
open Go.RowKit

end Go.Proofs.Ytmmiiapfefmcjaa

/- What writing over a value does to memory: cells of its rows are as they were, or hold something plain of the row's own type. -/
namespace Go.Proofs.Ytmmiiapfefmcjaa
open Go.RowKit

/-- a value that holds no memory -/
def Lf (v : Value) : Prop := v = .nilIface ∨ (∃ T x, v = .iface T x ∧ T ≠ 23 ∧ T ≠ 70 ∧ T ≠ 72 ∧ T ≠ 74) ∨ v = .iface 74 (.pointer none)
/-- what may be written into a cell of a row of type e -/
def Fits (e : TypeId) (j : Nat) (y : Value) : Prop :=
  (e = 20 ∧ Lf y) ∨ (e = 5 ∧ ∃ b, y = .int .u8 b ∧ 0 ≤ b ∧ b ≤ 255) ∨ (e = 109 ∧ ((j % 2 = 0 ∧ ∃ s, y = .string s) ∨ (j % 2 = 1 ∧ Lf y))) ∨
  (e = 76 ∧ ((j = 0 ∧ ∃ s, y = .string s) ∨ (j = 1 ∧ ∃ i, y = .int .i64 i)))
/-- a block of cells whose cells are as they were, or fit -/
def DgB (o o' : Option Obj) : Prop := o' = o ∨ ∃ cur cur' e, o = some (.cells cur e (0, 0)) ∧ o' = some (.cells cur' e (0, 0)) ∧ cur'.size = cur.size ∧ ∀ j y, cur'[j]? = some y → cur[j]? = some y ∨ Fits e j y
/-- w' is w, but that the blocks of B may have been written over -/
structure Dg (B : Nat → Prop) (w w' : World) : Prop where
  os : w'.os = w.os
  tape : w'.tape = w.tape
  output : w'.output = w.output
  size : w.heap.size ≤ w'.heap.size
  far : ∀ k, k < w.heap.size → ¬ B k → w'.heap[k]? = w.heap[k]?
  near : ∀ k, B k → DgB w.heap[k]? w'.heap[k]?

theorem DgB.refl (o : Option Obj) : DgB o o := .inl rfl
theorem DgB.trans {a b c : Option Obj} (h : DgB a b) (k : DgB b c) : DgB a c := by
  rcases h with rfl | ⟨cur, cur', e, h1, h2, h3, h4⟩
  · exact k
  · rcases k with rfl | ⟨cu, cu', e', k1, k2, k3, k4⟩
    · exact .inr ⟨cur, cur', e, h1, h2, h3, h4⟩
    · rw [h2] at k1
      simp only [Option.some.injEq, Obj.cells.injEq] at k1
      obtain ⟨rfl, rfl, _⟩ := k1
      refine .inr ⟨cur, cu', e, h1, k2, by omega, fun j y hy => ?_⟩
      rcases k4 j y hy with k5 | k5
      · exact h4 j y k5
      · exact .inr k5
theorem Dg.refl (B : Nat → Prop) (w : World) : Dg B w w := ⟨rfl, rfl, rfl, Nat.le_refl _, fun _ _ _ => rfl, fun _ _ => .inl rfl⟩
theorem Dg.trans {B : Nat → Prop} {a b c : World} (h : Dg B a b) (k : Dg B b c) : Dg B a c :=
  ⟨k.os.trans h.os, k.tape.trans h.tape, k.output.trans h.output, Nat.le_trans h.size k.size, fun i hi hn => (k.far i (Nat.lt_of_lt_of_le hi h.size) hn).trans (h.far i hi hn), fun i hi => (h.near i hi).trans (k.near i hi)⟩
theorem Dg.of_below {B : Nat → Prop} {w w' : World} (h : Below w.heap.size w w') (hB : Sub B w) : Dg B w w' :=
  ⟨h.os, h.tape, h.output, h.size, fun k hk _ => h.block k hk, fun k hk => .inl (h.block k (hB k hk))⟩
theorem Dg.sub {B : Nat → Prop} {w w' : World} (h : Dg B w w') (hB : Sub B w) : Sub B w' := fun k hk => Nat.lt_of_lt_of_le (hB k hk) h.size
/-- one cell of a row written over -/
theorem Dg.set {B : Nat → Prop} {w : World} {g j : Nat} {cur : Array Value} {e : TypeId} {v : Value} (hg : B g) (h : w.heap[g]? = some (.cells cur e (0, 0))) (hf : Fits e j v) : Dg B w (w.setCell ⟨g, j, none⟩ v) := by
  refine ⟨rfl, rfl, rfl, by simp, fun k hk hn => Below.heap_setCell w ⟨g, j, none⟩ v k (fun e => hn (by rw [e]; exact hg)), fun k hk => ?_⟩
  by_cases hkg : k = g
  · subst hkg
    refine .inr ⟨cur, _, e, h, heap_setCell_same w k j _ _ v h, by simp, fun i y hy => ?_⟩
    by_cases hij : i = j
    · subst hij
      have hi : i < cur.size := by
        have := (Array.getElem?_eq_some_iff.1 hy).1
        simpa using this
      have : (cur.setIfInBounds i v)[i]? = some v := by simp [hi]
      rw [this] at hy
      injection hy with hy
      subst hy
      exact .inr hf
    · left
      rw [Array.getElem?_setIfInBounds_ne (fun e => hij e.symm)] at hy
      exact hy
  · exact .inl (Below.heap_setCell w ⟨g, j, none⟩ v k hkg)

/-- a slice that is a whole row of B, each of its values with P -/
def Rowk (w : World) (B : Nat → Prop) (e : TypeId) (size : Nat) (a : Option Addr) (n cap : Nat) (P : Nat → Value → Prop) : Prop :=
  (a = none ∧ n = 0 ∧ cap = 0) ∨ ∃ g cur, a = some ⟨g, 0, none⟩ ∧ B g ∧ w.heap[g]? = some (.cells cur e (0, 0)) ∧ n ≤ cap ∧ cap ≤ maxLen ∧ cur.size = cap * size ∧ ∀ j, j < n * size → ∃ x, cur[j]? = some x ∧ P j x
theorem Rowk.dg {w w' : World} {B : Nat → Prop} {e : TypeId} {size : Nat} {a : Option Addr} {n cap : Nat} {P P' : Nat → Value → Prop} (h : Rowk w B e size a n cap P) (hd : Dg B w w') (hP : ∀ j x, P j x → P' j x) (hF : ∀ j y, Fits e j y → P' j y) : Rowk w' B e size a n cap P' := by
  rcases h with h | ⟨g, cur, h1, h2, h3, h4, h5, h6, h7⟩
  · exact .inl h
  · right
    rcases hd.near g h2 with e1 | ⟨c0, c1, e', e1, e2, e3, e4⟩
    · exact ⟨g, cur, h1, h2, e1.trans h3, h4, h5, h6, fun j hj => by obtain ⟨x, hx, hp⟩ := h7 j hj; exact ⟨x, hx, hP j x hp⟩⟩
    · rw [h3] at e1
      simp only [Option.some.injEq, Obj.cells.injEq] at e1
      obtain ⟨rfl, rfl, _⟩ := e1
      refine ⟨g, c1, h1, h2, e2, h4, h5, e3.trans h6, fun j hj => ?_⟩
      obtain ⟨x, hx, hp⟩ := h7 j hj
      have hlt : j < c1.size := by rw [e3]; exact (Array.getElem?_eq_some_iff.1 hx).1
      refine ⟨c1[j], by simp [hlt], ?_⟩
      rcases e4 j c1[j] (by simp [hlt]) with k | k
      · rw [hx] at k; injection k with k; rw [← k]; exact hP j x hp
      · exact hF j _ k
theorem Rowk.own {w : World} {B : Nat → Prop} {e : TypeId} {size : Nat} {a : Option Addr} {n cap : Nat} {P : Nat → Value → Prop} (h : Rowk w B e size a n cap P) : ∀ k, (Value.slice a n cap).ownBlock = some k → B k := by
  intro k hk
  rcases h with ⟨rfl, rfl, rfl⟩ | ⟨g, cur, rfl, h2, _⟩
  · simp [Value.ownBlock] at hk
  · simp only [Value.ownBlock, Option.some.injEq] at hk; subst hk; exact h2

/-- the value is nil or of some type -/
def Shp (x : Value) : Prop := x = .nilIface ∨ ∃ T y, x = .iface T y
def isU8 (_ : Nat) (x : Value) : Prop := ∃ b, x = .int .u8 b ∧ 0 ≤ b ∧ b ≤ 255
theorem Lf.shp {v : Value} (h : Lf v) : Shp v := by
  rcases h with h | ⟨T, x, h, _⟩ | h
  · exact .inl h
  · exact .inr ⟨T, x, h⟩
  · exact .inr ⟨_, _, h⟩
/-- a value that can be written over, at most n deep -/
def Ws (w : World) (B : Nat → Prop) : Nat → Value → Prop
  | 0, v => Lf v
  | n + 1, v => Lf v ∨ (∃ a len cap, v = .iface 23 (.slice a len cap) ∧ len ≤ 65536 ∧ Rowk w B 5 1 a len cap isU8) ∨
    (∃ a len cap, v = .iface 70 (.slice a len cap) ∧ len ≤ 4096 ∧ Rowk w B 20 1 a len cap (fun _ x => Ws w B n x ∧ Shp x)) ∨
    (∃ a len cap, v = .iface 72 (.slice a len cap) ∧ len ≤ 4096 ∧ Rowk w B 109 2 a len cap (fun j x => (j % 2 = 0 → ∃ s, x = .string s) ∧ (j % 2 = 1 → Ws w B n x ∧ Shp x))) ∨
    (∃ g cur a len cap, v = .iface 74 (.pointer (some ⟨g, 0, none⟩)) ∧ B g ∧ w.heap[g]? = some (.cells cur 76 (0, 0)) ∧ (∃ s, cur[0]? = some (.string s)) ∧ (∃ i, cur[1]? = some (.int .i64 i)) ∧ cur[2]? = some (.slice a len cap) ∧ len ≤ 4096 ∧
      Rowk w B 109 2 a len cap (fun j x => (j % 2 = 0 → ∃ s, x = .string s) ∧ (j % 2 = 1 → Ws w B n x ∧ Shp x)))
def WsF (w : World) (B : Nat → Prop) (n : Nat) (a : Option Addr) (len cap : Nat) : Prop := Rowk w B 109 2 a len cap (fun j x => (j % 2 = 0 → ∃ s, x = .string s) ∧ (j % 2 = 1 → Ws w B n x ∧ Shp x))
theorem Ws.lf {w : World} {B : Nat → Prop} {n : Nat} {v : Value} (h : Lf v) : Ws w B n v := by
  cases n with
  | zero => exact h
  | succ n => exact .inl h
theorem fits_list {w : World} {B : Nat → Prop} {n j : Nat} {y : Value} (h : Fits 20 j y) : Ws w B n y ∧ Shp y := by
  rcases h with ⟨_, h⟩ | ⟨h, _⟩ | ⟨h, _⟩ | ⟨h, _⟩
  · exact ⟨Ws.lf h, h.shp⟩
  all_goals exact absurd h (by decide)
theorem fits_field {w : World} {B : Nat → Prop} {n j : Nat} {y : Value} (h : Fits 109 j y) : (j % 2 = 0 → ∃ s, y = .string s) ∧ (j % 2 = 1 → Ws w B n y ∧ Shp y) := by
  rcases h with ⟨h, _⟩ | ⟨h, _⟩ | ⟨_, h⟩ | ⟨h, _⟩
  · exact absurd h (by decide)
  · exact absurd h (by decide)
  · rcases h with ⟨h1, h2⟩ | ⟨h1, h2⟩
    · exact ⟨fun _ => h2, fun h => by omega⟩
    · exact ⟨fun h => by omega, fun _ => ⟨Ws.lf h2, h2.shp⟩⟩
  · exact absurd h (by decide)
theorem fits_u8 {j : Nat} {y : Value} (h : Fits 5 j y) : isU8 j y := by
  rcases h with ⟨h, _⟩ | ⟨_, h⟩ | ⟨h, _⟩ | ⟨h, _⟩
  · exact absurd h (by decide)
  · exact h
  · exact absurd h (by decide)
  · exact absurd h (by decide)
theorem Ws.dg {w w' : World} {B : Nat → Prop} (hd : Dg B w w') : ∀ n v, Ws w B n v → Ws w' B n v
  | 0, _, h => h
  | n + 1, v, h => by
    have hl : ∀ (j : Nat) x, Ws w B n x ∧ Shp x → Ws w' B n x ∧ Shp x := fun _ x hx => ⟨Ws.dg hd n x hx.1, hx.2⟩
    have hf : ∀ (j : Nat) x, ((j % 2 = 0 → ∃ s, x = .string s) ∧ (j % 2 = 1 → Ws w B n x ∧ Shp x)) → ((j % 2 = 0 → ∃ s, x = .string s) ∧ (j % 2 = 1 → Ws w' B n x ∧ Shp x)) := fun j x hx => ⟨hx.1, fun e => hl j x (hx.2 e)⟩
    rcases h with h | ⟨a, len, cap, h1, h2, h3⟩ | ⟨a, len, cap, h1, h2, h3⟩ | ⟨a, len, cap, h1, h2, h3⟩ | ⟨g, cur, a, len, cap, h1, h2, h3, h4, h5, h6, h7, h8⟩
    · exact .inl h
    · exact .inr (.inl ⟨a, len, cap, h1, h2, h3.dg hd (fun _ _ h => h) (fun _ _ h => fits_u8 h)⟩)
    · exact .inr (.inr (.inl ⟨a, len, cap, h1, h2, h3.dg hd hl (fun _ _ h => fits_list h)⟩))
    · exact .inr (.inr (.inr (.inl ⟨a, len, cap, h1, h2, h3.dg hd hf (fun _ _ h => fits_field h)⟩)))
    · refine .inr (.inr (.inr (.inr ?_)))
      rcases hd.near g h2 with e1 | ⟨c0, c1, e', e1, e2, e3, e4⟩
      · exact ⟨g, cur, a, len, cap, h1, h2, e1.trans h3, h4, h5, h6, h7, h8.dg hd hf (fun _ _ h => fits_field h)⟩
      · rw [h3] at e1
        simp only [Option.some.injEq, Obj.cells.injEq] at e1
        obtain ⟨rfl, rfl, _⟩ := e1
        have hz : 2 < c1.size := by rw [e3]; exact (Array.getElem?_eq_some_iff.1 h6).1
        have key : ∀ j (hj : j < c1.size), cur[j]? = some c1[j] ∨ Fits 76 j c1[j] := fun j hj => e4 j _ (by simp [hj])
        refine ⟨g, c1, a, len, cap, h1, h2, e2, ?_, ?_, ?_, h7, h8.dg hd hf (fun _ _ h => fits_field h)⟩
        · obtain ⟨s, hs⟩ := h4
          rcases key 0 (by omega) with k | k
          · exact ⟨s, by rw [hs] at k; injection k with k; rw [k]; simp⟩
          · rcases k with ⟨k, _⟩ | ⟨k, _⟩ | ⟨k, _⟩ | ⟨_, ⟨_, s', k⟩ | ⟨k, _⟩⟩
            · exact absurd k (by decide)
            · exact absurd k (by decide)
            · exact absurd k (by decide)
            · exact ⟨s', by rw [← k]; simp⟩
            · omega
        · obtain ⟨s, hs⟩ := h5
          rcases key 1 (by omega) with k | k
          · exact ⟨s, by rw [hs] at k; injection k with k; rw [k]; simp⟩
          · rcases k with ⟨k, _⟩ | ⟨k, _⟩ | ⟨k, _⟩ | ⟨_, ⟨k, _⟩ | ⟨_, s', k⟩⟩
            · exact absurd k (by decide)
            · exact absurd k (by decide)
            · exact absurd k (by decide)
            · omega
            · exact ⟨s', by rw [← k]; simp⟩
        · rcases key 2 hz with k | k
          · rw [h6] at k; injection k with k; rw [k]; simp [hz]
          · rcases k with ⟨k, _⟩ | ⟨k, _⟩ | ⟨k, _⟩ | ⟨_, ⟨k, _⟩ | ⟨k, _⟩⟩
            · exact absurd k (by decide)
            · exact absurd k (by decide)
            · exact absurd k (by decide)
            · omega
            · omega
end Go.Proofs.Ytmmiiapfefmcjaa

/- tenonmake.Spoil and spoilt: whatever a value holds is written over, and nothing else. -/
namespace Go.Proofs.Ytmmiiapfefmcjaa
open Go.RowKit

/-- the contract of Spoil at values at most n deep -/
def SpC (n : Nat) : Prop := ∀ (v : Value) (B : Nat → Prop) (w : World), Ws w B n v → Sub B w → Calls Try.prog 16 #[v] w fun e w' => e = .returned (.tuple #[]) ∧ Dg B w w'

theorem Dg.alloc {B : Nat → Prop} {w0 w : World} (h : Dg B w0 w) (hB : Sub B w0) (o : Obj) : Dg B w0 (w.alloc o) := h.trans (Dg.of_below ((Below.refl _ _).alloc (Nat.le_refl _) _) (h.sub hB))
/-- what the loops that append carry -/
structure Grw (B : Nat → Prop) (w wr : World) (e : TypeId) (size : Nat) (v : Value) (n : Nat) (xs : List Value) : Prop where
  own : wr.ownsRow 0 e size v n xs
  blk : ∀ q, v.ownBlock = some q → B q ∨ w.heap.size ≤ q
  dg : Dg B w wr
theorem Grw.step {B : Nat → Prop} {w wr w3 : World} {e : TypeId} {size : Nat} {v v' : Value} {n : Nat} {xs ys : List Value} {o : Obj} {g cap : Nat} (h : Grw B w wr e size v n xs) (hB : Sub B w) (hv : v' = .slice (some ⟨g, 0, none⟩) (n + 1) cap) (ho : w3.ownsRow 0 e size v' (n + 1) ys) (hor : v.ownBlock = some g ∨ (wr.alloc o).heap.size ≤ g)
    (hd : ∀ (B : Nat → Prop) (w0 : World), Dg B w0 (wr.alloc o) → (∀ k, v.ownBlock = some k → B k ∨ w0.heap.size ≤ k) → Sub B w0 → Dg B w0 w3) : Grw B w w3 e size v' (n + 1) ys := by
  refine ⟨ho, fun q hq => ?_, hd B w (h.dg.alloc hB o) h.blk hB⟩
  subst hv
  simp only [Value.ownBlock, Option.some.injEq] at hq
  subst hq
  rcases hor with h1 | h1
  · exact h.blk g h1
  · right; have := h.dg.size; simp at h1; omega

end Go.Proofs.Ytmmiiapfefmcjaa

/- tenonmake.Spoil at lists; spoilt; Spoil at dicts and records, and at whatever value. -/
namespace Go.Proofs.Ytmmiiapfefmcjaa
open Go.RowKit

def nmSpoilt : ByteArray := ⟨#[115, 112, 111, 105, 108, 116]⟩
end Go.Proofs.Ytmmiiapfefmcjaa

/- tenonmake.Spoil at records, and at whatever value can be. -/
namespace Go.Proofs.Ytmmiiapfefmcjaa
open Go.RowKit

theorem Ws.rec {w : World} {B : Nat → Prop} {n g : Nat} (h : Ws w B (n + 1) (.iface 74 (.pointer (some ⟨g, 0, none⟩)))) :
    ∃ cur a len cap, B g ∧ w.heap[g]? = some (.cells cur 76 (0, 0)) ∧ (∃ s, cur[0]? = some (.string s)) ∧ (∃ i, cur[1]? = some (.int .i64 i)) ∧ cur[2]? = some (.slice a len cap) ∧ len ≤ 4096 ∧ WsF w B n a len cap := by
  rcases h with h | ⟨a, len, cap, h1, h2, h3⟩ | ⟨a, len, cap, h1, h2, h3⟩ | ⟨a, len, cap, h1, h2, h3⟩ | ⟨g', cur, a, len, cap, h1, h2, h3, h4, h5, h6, h7, h8⟩
  · rcases h with h | ⟨T, x, h, _, _, _, h4⟩ | h
    · simp at h
    · injection h with h; exact absurd h.symm h4
    · simp at h
  · injection h1 with h1; exact absurd h1 (by decide)
  · injection h1 with h1; exact absurd h1 (by decide)
  · injection h1 with h1; exact absurd h1 (by decide)
  · simp only [Value.iface.injEq, Value.pointer.injEq, Option.some.injEq, Addr.mk.injEq, and_true, true_and] at h1
    subst h1
    exact ⟨cur, a, len, cap, h2, h3, h4, h5, h6, h7, h8⟩

theorem Ws.up {w : World} {B : Nat → Prop} : ∀ n m v, n ≤ m → Ws w B n v → Ws w B m v
  | 0, m, v, _, h => Ws.lf h
  | n + 1, 0, _, h, _ => by omega
  | n + 1, m + 1, v, hm, h => by
    have hl : ∀ (j : Nat) x, Ws w B n x ∧ Shp x → Ws w B m x ∧ Shp x := fun _ x hx => ⟨Ws.up n m x (by omega) hx.1, hx.2⟩
    have hf : ∀ (j : Nat) x, ((j % 2 = 0 → ∃ s, x = .string s) ∧ (j % 2 = 1 → Ws w B n x ∧ Shp x)) → ((j % 2 = 0 → ∃ s, x = .string s) ∧ (j % 2 = 1 → Ws w B m x ∧ Shp x)) := fun j x hx => ⟨hx.1, fun e => hl j x (hx.2 e)⟩
    have hd := Dg.refl B w
    rcases h with h | ⟨a, len, cap, h1, h2, h3⟩ | ⟨a, len, cap, h1, h2, h3⟩ | ⟨a, len, cap, h1, h2, h3⟩ | ⟨g, cur, a, len, cap, h1, h2, h3, h4, h5, h6, h7, h8⟩
    · exact .inl h
    · exact .inr (.inl ⟨a, len, cap, h1, h2, h3⟩)
    · exact .inr (.inr (.inl ⟨a, len, cap, h1, h2, h3.dg hd hl (fun _ _ h => fits_list h)⟩))
    · exact .inr (.inr (.inr (.inl ⟨a, len, cap, h1, h2, h3.dg hd hf (fun _ _ h => fits_field h)⟩)))
    · exact .inr (.inr (.inr (.inr ⟨g, cur, a, len, cap, h1, h2, h3, h4, h5, h6, h7, h8.dg hd hf (fun _ _ h => fits_field h)⟩)))
end Go.Proofs.Ytmmiiapfefmcjaa

/- A value that can be can be written over; worlds that are alike but for some blocks. -/
namespace Go.Proofs.Ytmmiiapfefmcjaa
open Go.RowKit


/-- w' is w with blocks more; those of w that D does not name are as they were -/
structure Far (D : Nat → Prop) (w w' : World) : Prop where
  os : w'.os = w.os
  tape : w'.tape = w.tape
  output : w'.output = w.output
  size : w.heap.size ≤ w'.heap.size
  block : ∀ k, k < w.heap.size → ¬ D k → w'.heap[k]? = w.heap[k]?
theorem Far.of {D : Nat → Prop} {w w' : World} (h : Below w.heap.size w w') : Far D w w' := ⟨h.os, h.tape, h.output, h.size, fun k hk _ => h.block k hk⟩
theorem Far.call {D : Nat → Prop} {w w1 w2 : World} (h : Far D w w1) (k : Below w1.heap.size w1 w2) : Far D w w2 :=
  ⟨k.os.trans h.os, k.tape.trans h.tape, k.output.trans h.output, Nat.le_trans h.size k.size, fun i hi hn => (k.block i (Nat.lt_of_lt_of_le hi h.size)).trans (h.block i hi hn)⟩
theorem Far.dg {D E : Nat → Prop} {w w1 w2 : World} (h : Far D w w1) (k : Dg E w1 w2) (hE : ∀ k, E k → D k) : Far D w w2 :=
  ⟨k.os.trans h.os, k.tape.trans h.tape, k.output.trans h.output, Nat.le_trans h.size k.size, fun i hi hn => (k.far i (Nat.lt_of_lt_of_le hi h.size) (fun e => hn (hE i e))).trans (h.block i hi hn)⟩
theorem Far.mono {D E : Nat → Prop} {w w1 : World} (h : Far D w w1) (hE : ∀ k, D k → E k) : Far E w w1 := ⟨h.os, h.tape, h.output, h.size, fun i hi hn => h.block i hi (fun e => hn (hE i e))⟩
theorem Far.same {D S : Nat → Prop} {w w1 : World} (h : Far D w w1) (hS : ∀ k, S k → k < w.heap.size ∧ ¬ D k) : Same S w w1 := fun k hk => h.block k (hS k hk).1 (hS k hk).2
theorem Far.below {D : Nat → Prop} {w0 w w1 : World} (h : Far D w w1) (h0 : Below w0.heap.size w0 w) (hD : ∀ k, D k → w0.heap.size ≤ k) : Below w0.heap.size w0 w1 :=
  ⟨h.os.trans h0.os, h.tape.trans h0.tape, h.output.trans h0.output, Nat.le_trans h0.size h.size, fun k hk => (h.block k (Nat.lt_of_lt_of_le hk h0.size) (fun e => by have := hD k e; omega)).trans (h0.block k hk)⟩
end Go.Proofs.Ytmmiiapfefmcjaa

/- Two boxes in new memory, each with a term's eleven cells. -/
namespace Go.Proofs.Ytmmiiapfefmcjaa
open Go.RowKit

def two (w : World) (a b : Array Value) : World := (w.alloc (.cells a 29 (0, 0))).alloc (.cells b 29 (0, 0))
end Go.Proofs.Ytmmiiapfefmcjaa

