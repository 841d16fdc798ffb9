/- What writing over a value does to memory: cells of its rows are as they were, or hold something plain of the row's own type. -/
import Derived.Test.YtkomcebknllaiaaL3
import Derived.Test.YtkomcebknllaiaaL4
namespace Go.Proofs.Ytkomcebknllaiaa
open Go.RowKit

/-- a value that holds no memory -/
def Lf (v : Value) : Prop := v = .nilIface ∨ (∃ T x, v = .iface T x ∧ T ≠ 23 ∧ T ≠ 71 ∧ T ≠ 73 ∧ T ≠ 75) ∨ v = .iface 75 (.pointer none)
/-- what may be written into a cell of a row of type e -/
def Fits (e : TypeId) (j : Nat) (y : Value) : Prop :=
  (e = 20 ∧ Lf y) ∨ (e = 5 ∧ ∃ b, y = .int .u8 b ∧ 0 ≤ b ∧ b ≤ 255) ∨ (e = 112 ∧ ((j % 2 = 0 ∧ ∃ s, y = .string s) ∨ (j % 2 = 1 ∧ Lf y))) ∨
  (e = 77 ∧ ((j = 0 ∧ ∃ s, y = .string s) ∨ (j = 1 ∧ ∃ i, y = .int .i64 i)))
/-- a block of cells whose cells are as they were, or fit -/
def DgB (o o' : Option Obj) : Prop := o' = o ∨ ∃ cur cur' e, o = some (.cells cur e (0, 0)) ∧ o' = some (.cells cur' e (0, 0)) ∧ cur'.size = cur.size ∧ ∀ j y, cur'[j]? = some y → cur[j]? = some y ∨ Fits e j y
/-- w' is w, but that the blocks of B may have been written over -/
structure Dg (B : Nat → Prop) (w w' : World) : Prop where
  os : w'.os = w.os
  tape : w'.tape = w.tape
  output : w'.output = w.output
  size : w.heap.size ≤ w'.heap.size
  far : ∀ k, k < w.heap.size → ¬ B k → w'.heap[k]? = w.heap[k]?
  near : ∀ k, B k → DgB w.heap[k]? w'.heap[k]?

theorem DgB.refl (o : Option Obj) : DgB o o := .inl rfl
theorem DgB.trans {a b c : Option Obj} (h : DgB a b) (k : DgB b c) : DgB a c := by
  rcases h with rfl | ⟨cur, cur', e, h1, h2, h3, h4⟩
  · exact k
  · rcases k with rfl | ⟨cu, cu', e', k1, k2, k3, k4⟩
    · exact .inr ⟨cur, cur', e, h1, h2, h3, h4⟩
    · rw [h2] at k1
      simp only [Option.some.injEq, Obj.cells.injEq] at k1
      obtain ⟨rfl, rfl, _⟩ := k1
      refine .inr ⟨cur, cu', e, h1, k2, by omega, fun j y hy => ?_⟩
      rcases k4 j y hy with k5 | k5
      · exact h4 j y k5
      · exact .inr k5
theorem Dg.refl (B : Nat → Prop) (w : World) : Dg B w w := ⟨rfl, rfl, rfl, Nat.le_refl _, fun _ _ _ => rfl, fun _ _ => .inl rfl⟩
theorem Dg.trans {B : Nat → Prop} {a b c : World} (h : Dg B a b) (k : Dg B b c) : Dg B a c :=
  ⟨k.os.trans h.os, k.tape.trans h.tape, k.output.trans h.output, Nat.le_trans h.size k.size, fun i hi hn => (k.far i (Nat.lt_of_lt_of_le hi h.size) hn).trans (h.far i hi hn), fun i hi => (h.near i hi).trans (k.near i hi)⟩
theorem Dg.of_below {B : Nat → Prop} {w w' : World} (h : Below w.heap.size w w') (hB : Sub B w) : Dg B w w' :=
  ⟨h.os, h.tape, h.output, h.size, fun k hk _ => h.block k hk, fun k hk => .inl (h.block k (hB k hk))⟩
theorem Dg.sub {B : Nat → Prop} {w w' : World} (h : Dg B w w') (hB : Sub B w) : Sub B w' := fun k hk => Nat.lt_of_lt_of_le (hB k hk) h.size
/-- one cell of a row written over -/
theorem Dg.set {B : Nat → Prop} {w : World} {g j : Nat} {cur : Array Value} {e : TypeId} {v : Value} (hg : B g) (h : w.heap[g]? = some (.cells cur e (0, 0))) (hf : Fits e j v) : Dg B w (w.setCell ⟨g, j, none⟩ v) := by
  refine ⟨rfl, rfl, rfl, by simp, fun k hk hn => Below.heap_setCell w ⟨g, j, none⟩ v k (fun e => hn (by rw [e]; exact hg)), fun k hk => ?_⟩
  by_cases hkg : k = g
  · subst hkg
    refine .inr ⟨cur, _, e, h, heap_setCell_same w k j _ _ v h, by simp, fun i y hy => ?_⟩
    by_cases hij : i = j
    · subst hij
      have hi : i < cur.size := by
        have := (Array.getElem?_eq_some_iff.1 hy).1
        simpa using this
      have : (cur.setIfInBounds i v)[i]? = some v := by simp [hi]
      rw [this] at hy
      injection hy with hy
      subst hy
      exact .inr hf
    · left
      rw [Array.getElem?_setIfInBounds_ne (fun e => hij e.symm)] at hy
      exact hy
  · exact .inl (Below.heap_setCell w ⟨g, j, none⟩ v k hkg)

/-- an append onto a row that is owned: old blocks are as they were but the row's own, of which only the cells behind it are written -/
theorem run_app2 {P : Program} (w : World) (t ty e : TypeId) (i : TypeInfo) (z : Value) (size bytes : Nat) (ht : P.underlying t = some (.slice e)) (hi : P.info? e = some i) (hz : i.zero = some z)
    (hsize : i.size = size) (hby : i.bytes = bytes) (hzs : z.cells.size = size) (hsz : 0 < size)
    (v : Value) (n : Nat) (xs : List Value) (hown : w.ownsRow 0 e size v n xs)
    (a : Addr) (m c : Nat) (news : List Value) (hl : news.length = m * size) (hnews : ∀ j u, news[j]? = some u → w.cell? (a.add j) = some u) (h1 : ∀ u ∈ news, u.oneCell' = true) (hm : 0 < m)
    (h63 : n + m ≤ maxLen) (hbytes : (n + m) * bytes ≤ 140737488355328) (hfit : ∀ j u, news[j]? = some u → Fits e (n * size + j) u) :
    ∃ g cap w', (Builtin.append_ #[t, t] ty #[v, .slice (some a) m c]).run P w = .ok (.slice (some ⟨g, 0, none⟩) (n + m) cap) w' ∧ w'.ownsRow 0 e size (.slice (some ⟨g, 0, none⟩) (n + m) cap) (n + m) (xs ++ news) ∧
      (v.ownBlock = some g ∨ w.heap.size ≤ g) ∧ ∀ (B : Nat → Prop) (w0 : World), Dg B w0 w → (∀ k, v.ownBlock = some k → B k ∨ w0.heap.size ≤ k) → Sub B w0 → Dg B w0 w' := by
  obtain ⟨g, cap, w', hr, h2, h3, h4⟩ := run_app (P := P) w 0 t ty e i z size bytes ht hi hz hsize hby hzs hsz v n xs hown a m c news hl hnews h1 hm h63 hbytes (Nat.zero_le _)
  refine ⟨g, cap, w', hr, h2, h4.imp id (fun h => by omega), fun B w0 h0 hB hS => ?_⟩
  have key : ∀ k, v.ownBlock = some k → DgB w.heap[k]? w'.heap[k]? := by
    intro k hk
    subst hsize
    rcases hown.2 with ⟨rfl, rfl⟩ | ⟨g1, cap1, cur, rfl, hbg, hg1, hnc, hcm, hcs, htake⟩
    · simp [Value.ownBlock] at hk
    · simp only [Value.ownBlock, Option.some.injEq] at hk
      subst hk
      by_cases hroom : n + m ≤ cap1
      · have hfit' : n * i.size + news.length ≤ cur.size := by rw [hl, hcs, ← Nat.add_mul]; exact Nat.mul_le_mul_right _ hroom
        have hr' := run_append_room (P := P) w t ty e i ht hi g1 n cap1 cur hg1 a m c news hl hnews h1 hroom hfit'
        rw [hr] at hr'
        injection hr' with _ hw
        rw [hw]
        refine .inr ⟨cur, _, e, hg1, setRow_heap w g1 cur _ e _ hg1, ?_, fun j y hy => ?_⟩
        · simp only [List.size_toArray, List.length_append, List.length_take, List.length_drop, Array.length_toList]; omega
        · simp only [List.getElem?_toArray] at hy
          have hlt : (cur.toList.take (n * i.size)).length = n * i.size := by simp only [List.length_take, Array.length_toList]; omega
          by_cases hj : j < n * i.size
          · left
            rw [List.append_assoc, List.getElem?_append_left (by rw [hlt]; exact hj), List.getElem?_take, if_pos hj] at hy
            simpa using hy
          · by_cases hj2 : j < n * i.size + news.length
            · right
              rw [List.append_assoc, List.getElem?_append_right (by rw [hlt]; omega), hlt, List.getElem?_append_left (by omega)] at hy
              have := hfit _ y hy
              rwa [show n * i.size + (j - n * i.size) = j by omega] at this
            · left
              rw [List.getElem?_append_right (by rw [List.length_append, hlt]; omega), List.length_append, hlt, List.getElem?_drop, show n * i.size + news.length + (j - (n * i.size + news.length)) = j by omega] at hy
              simpa using hy
      · have holds : ∀ j u, xs[j]? = some u → w.cell? ((⟨g1, 0, none⟩ : Addr).add j) = some u := hown.cells (g := g1) rfl
        subst hby
        have hr' := run_append_grow (P := P) w t ty e i z ht hi hz ⟨g1, 0, none⟩ n cap1 xs hown.1 holds a m c news hl hnews (by omega) (by simp only [maxLen] at h63; omega) (growslice_fits (by omega) hbytes)
        rw [hr] at hr'
        injection hr' with _ hw
        rw [hw]
        exact .inl (heap_alloc_old w.drew _ (by
          rcases Nat.lt_or_ge g1 w.heap.size with h | h
          · exact h
          · rw [Array.getElem?_eq_none h] at hg1; simp at hg1))
  refine ⟨h3.os.trans h0.os, h3.tape.trans h0.tape, h3.output.trans h0.output, Nat.le_trans h0.size h3.size, fun k hk hn => (h3.block k (Nat.lt_of_lt_of_le hk h0.size) (fun e => ?_)).trans (h0.far k hk hn), fun k hk => (h0.near k hk).trans ?_⟩
  · rcases hB k e.symm with h | h
    · exact hn h
    · omega
  · by_cases e : some k = v.ownBlock
    · exact key k e.symm
    · exact .inl (h3.block k (Nat.lt_of_lt_of_le (hS k hk) h0.size) e)

theorem wpList_app2 {P : Program} (w : World) {ops : Array Oper} {rest : List Oper} {o : Oper} {a : Act} {Q : Exit → Act → World → Prop} (hgd : o.guard = none) (s x : Operand) (t : TypeId)
    (ho : o.op = .call { callee := .builtin .append, args := #[s, x], argTypes := #[t, t] })
    (e : TypeId) (i : TypeInfo) (z : Value) (size bytes : Nat) (ht : P.underlying t = some (.slice e)) (hi : P.info? e = some i) (hz : i.zero = some z)
    (hsize : i.size = size) (hby : i.bytes = bytes) (hzs : z.cells.size = size) (hsz : 0 < size)
    (v : Value) (n : Nat) (xs : List Value) (hs : a.eval s = v) (hown : w.ownsRow 0 e size v n xs)
    (ad : Addr) (m c : Nat) (news : List Value) (hx : a.eval x = .slice (some ad) m c) (hl : news.length = m * size) (hnews : ∀ j u, news[j]? = some u → w.cell? (ad.add j) = some u) (h1 : ∀ u ∈ news, u.oneCell' = true) (hm : 0 < m)
    (h63 : n + m ≤ maxLen) (hbytes : (n + m) * bytes ≤ 140737488355328) (hfit : ∀ j u, news[j]? = some u → Fits e (n * size + j) u)
    (h : ∀ g cap w', w'.ownsRow 0 e size (.slice (some ⟨g, 0, none⟩) (n + m) cap) (n + m) (xs ++ news) → (v.ownBlock = some g ∨ w.heap.size ≤ g) → (∀ (B : Nat → Prop) (w0 : World), Dg B w0 w → (∀ k, v.ownBlock = some k → B k ∨ w0.heap.size ≤ k) → Sub B w0 → Dg B w0 w') → wpList P ops Q rest (a.put o.dst (.slice (some ⟨g, 0, none⟩) (n + m) cap)) w') : wpList P ops Q (o :: rest) a w := by
  refine wpList_plain hgd fun K hK => ?_
  obtain ⟨g, cap, w', hr, h2, h3, h4⟩ := run_app2 (P := P) w t o.type e i z size bytes ht hi hz hsize hby hzs hsz v n xs hown ad m c news hl hnews h1 hm h63 hbytes hfit
  unfold Oper.wp execOp
  simp only [ho, resolve, invoke, builtin, Sem.run_bind, Sem.run_pure, Result.andThen_ok, List.map_toArray, List.map_cons, List.map_nil, hs, hx, hr]
  exact hK _ _ (h g cap w' h2 h3 h4)

/-- a slice that is a whole row of B, each of its values with P -/
def Rowk (w : World) (B : Nat → Prop) (e : TypeId) (size : Nat) (a : Option Addr) (n cap : Nat) (P : Nat → Value → Prop) : Prop :=
  (a = none ∧ n = 0 ∧ cap = 0) ∨ ∃ g cur, a = some ⟨g, 0, none⟩ ∧ B g ∧ w.heap[g]? = some (.cells cur e (0, 0)) ∧ n ≤ cap ∧ cap ≤ maxLen ∧ cur.size = cap * size ∧ ∀ j, j < n * size → ∃ x, cur[j]? = some x ∧ P j x
theorem Rowk.dg {w w' : World} {B : Nat → Prop} {e : TypeId} {size : Nat} {a : Option Addr} {n cap : Nat} {P P' : Nat → Value → Prop} (h : Rowk w B e size a n cap P) (hd : Dg B w w') (hP : ∀ j x, P j x → P' j x) (hF : ∀ j y, Fits e j y → P' j y) : Rowk w' B e size a n cap P' := by
  rcases h with h | ⟨g, cur, h1, h2, h3, h4, h5, h6, h7⟩
  · exact .inl h
  · right
    rcases hd.near g h2 with e1 | ⟨c0, c1, e', e1, e2, e3, e4⟩
    · exact ⟨g, cur, h1, h2, e1.trans h3, h4, h5, h6, fun j hj => by obtain ⟨x, hx, hp⟩ := h7 j hj; exact ⟨x, hx, hP j x hp⟩⟩
    · rw [h3] at e1
      simp only [Option.some.injEq, Obj.cells.injEq] at e1
      obtain ⟨rfl, rfl, _⟩ := e1
      refine ⟨g, c1, h1, h2, e2, h4, h5, e3.trans h6, fun j hj => ?_⟩
      obtain ⟨x, hx, hp⟩ := h7 j hj
      have hlt : j < c1.size := by rw [e3]; exact (Array.getElem?_eq_some_iff.1 hx).1
      refine ⟨c1[j], by simp [hlt], ?_⟩
      rcases e4 j c1[j] (by simp [hlt]) with k | k
      · rw [hx] at k; injection k with k; rw [← k]; exact hP j x hp
      · exact hF j _ k
theorem Rowk.owns {w : World} {B : Nat → Prop} {e : TypeId} {size : Nat} {a : Option Addr} {n cap : Nat} {P : Nat → Value → Prop} (h : Rowk w B e size a n cap P) : ∃ xs, w.ownsRow 0 e size (.slice a n cap) n xs := by
  rcases h with ⟨rfl, rfl, rfl⟩ | ⟨g, cur, rfl, h2, h3, h4, h5, h6, h7⟩
  · exact ⟨[], by simp, .inl ⟨rfl, rfl⟩⟩
  · refine ⟨cur.toList.take (n * size), ?_, .inr ⟨g, cap, cur, rfl, Nat.zero_le _, h3, h4, h5, h6, rfl⟩⟩
    rw [List.length_take, Array.length_toList, h6]
    have : n * size ≤ cap * size := Nat.mul_le_mul_right _ h4
    omega
theorem Rowk.own {w : World} {B : Nat → Prop} {e : TypeId} {size : Nat} {a : Option Addr} {n cap : Nat} {P : Nat → Value → Prop} (h : Rowk w B e size a n cap P) : ∀ k, (Value.slice a n cap).ownBlock = some k → B k := by
  intro k hk
  rcases h with ⟨rfl, rfl, rfl⟩ | ⟨g, cur, rfl, h2, _⟩
  · simp [Value.ownBlock] at hk
  · simp only [Value.ownBlock, Option.some.injEq] at hk; subst hk; exact h2

/-- the value is nil or of some type -/
def Shp (x : Value) : Prop := x = .nilIface ∨ ∃ T y, x = .iface T y
def isU8 (_ : Nat) (x : Value) : Prop := ∃ b, x = .int .u8 b ∧ 0 ≤ b ∧ b ≤ 255
theorem Lf.shp {v : Value} (h : Lf v) : Shp v := by
  rcases h with h | ⟨T, x, h, _⟩ | h
  · exact .inl h
  · exact .inr ⟨T, x, h⟩
  · exact .inr ⟨_, _, h⟩
/-- a value that can be written over, at most n deep -/
def Ws (w : World) (B : Nat → Prop) : Nat → Value → Prop
  | 0, v => Lf v
  | n + 1, v => Lf v ∨ (∃ a len cap, v = .iface 23 (.slice a len cap) ∧ len ≤ 65536 ∧ Rowk w B 5 1 a len cap isU8) ∨
    (∃ a len cap, v = .iface 71 (.slice a len cap) ∧ len ≤ 4096 ∧ Rowk w B 20 1 a len cap (fun _ x => Ws w B n x ∧ Shp x)) ∨
    (∃ a len cap, v = .iface 73 (.slice a len cap) ∧ len ≤ 4096 ∧ Rowk w B 112 2 a len cap (fun j x => (j % 2 = 0 → ∃ s, x = .string s) ∧ (j % 2 = 1 → Ws w B n x ∧ Shp x))) ∨
    (∃ g cur a len cap, v = .iface 75 (.pointer (some ⟨g, 0, none⟩)) ∧ B g ∧ w.heap[g]? = some (.cells cur 77 (0, 0)) ∧ (∃ s, cur[0]? = some (.string s)) ∧ (∃ i, cur[1]? = some (.int .i64 i)) ∧ cur[2]? = some (.slice a len cap) ∧ len ≤ 4096 ∧
      Rowk w B 112 2 a len cap (fun j x => (j % 2 = 0 → ∃ s, x = .string s) ∧ (j % 2 = 1 → Ws w B n x ∧ Shp x)))
def WsF (w : World) (B : Nat → Prop) (n : Nat) (a : Option Addr) (len cap : Nat) : Prop := Rowk w B 112 2 a len cap (fun j x => (j % 2 = 0 → ∃ s, x = .string s) ∧ (j % 2 = 1 → Ws w B n x ∧ Shp x))
theorem Ws.lf {w : World} {B : Nat → Prop} {n : Nat} {v : Value} (h : Lf v) : Ws w B n v := by
  cases n with
  | zero => exact h
  | succ n => exact .inl h
theorem fits_list {w : World} {B : Nat → Prop} {n j : Nat} {y : Value} (h : Fits 20 j y) : Ws w B n y ∧ Shp y := by
  rcases h with ⟨_, h⟩ | ⟨h, _⟩ | ⟨h, _⟩ | ⟨h, _⟩
  · exact ⟨Ws.lf h, h.shp⟩
  all_goals exact absurd h (by decide)
theorem fits_field {w : World} {B : Nat → Prop} {n j : Nat} {y : Value} (h : Fits 112 j y) : (j % 2 = 0 → ∃ s, y = .string s) ∧ (j % 2 = 1 → Ws w B n y ∧ Shp y) := by
  rcases h with ⟨h, _⟩ | ⟨h, _⟩ | ⟨_, h⟩ | ⟨h, _⟩
  · exact absurd h (by decide)
  · exact absurd h (by decide)
  · rcases h with ⟨h1, h2⟩ | ⟨h1, h2⟩
    · exact ⟨fun _ => h2, fun h => by omega⟩
    · exact ⟨fun h => by omega, fun _ => ⟨Ws.lf h2, h2.shp⟩⟩
  · exact absurd h (by decide)
theorem fits_u8 {j : Nat} {y : Value} (h : Fits 5 j y) : isU8 j y := by
  rcases h with ⟨h, _⟩ | ⟨_, h⟩ | ⟨h, _⟩ | ⟨h, _⟩
  · exact absurd h (by decide)
  · exact h
  · exact absurd h (by decide)
  · exact absurd h (by decide)
theorem Ws.dg {w w' : World} {B : Nat → Prop} (hd : Dg B w w') : ∀ n v, Ws w B n v → Ws w' B n v
  | 0, _, h => h
  | n + 1, v, h => by
    have hl : ∀ (j : Nat) x, Ws w B n x ∧ Shp x → Ws w' B n x ∧ Shp x := fun _ x hx => ⟨Ws.dg hd n x hx.1, hx.2⟩
    have hf : ∀ (j : Nat) x, ((j % 2 = 0 → ∃ s, x = .string s) ∧ (j % 2 = 1 → Ws w B n x ∧ Shp x)) → ((j % 2 = 0 → ∃ s, x = .string s) ∧ (j % 2 = 1 → Ws w' B n x ∧ Shp x)) := fun j x hx => ⟨hx.1, fun e => hl j x (hx.2 e)⟩
    rcases h with h | ⟨a, len, cap, h1, h2, h3⟩ | ⟨a, len, cap, h1, h2, h3⟩ | ⟨a, len, cap, h1, h2, h3⟩ | ⟨g, cur, a, len, cap, h1, h2, h3, h4, h5, h6, h7, h8⟩
    · exact .inl h
    · exact .inr (.inl ⟨a, len, cap, h1, h2, h3.dg hd (fun _ _ h => h) (fun _ _ h => fits_u8 h)⟩)
    · exact .inr (.inr (.inl ⟨a, len, cap, h1, h2, h3.dg hd hl (fun _ _ h => fits_list h)⟩))
    · exact .inr (.inr (.inr (.inl ⟨a, len, cap, h1, h2, h3.dg hd hf (fun _ _ h => fits_field h)⟩)))
    · refine .inr (.inr (.inr (.inr ?_)))
      rcases hd.near g h2 with e1 | ⟨c0, c1, e', e1, e2, e3, e4⟩
      · exact ⟨g, cur, a, len, cap, h1, h2, e1.trans h3, h4, h5, h6, h7, h8.dg hd hf (fun _ _ h => fits_field h)⟩
      · rw [h3] at e1
        simp only [Option.some.injEq, Obj.cells.injEq] at e1
        obtain ⟨rfl, rfl, _⟩ := e1
        have hz : 2 < c1.size := by rw [e3]; exact (Array.getElem?_eq_some_iff.1 h6).1
        have key : ∀ j (hj : j < c1.size), cur[j]? = some c1[j] ∨ Fits 77 j c1[j] := fun j hj => e4 j _ (by simp [hj])
        refine ⟨g, c1, a, len, cap, h1, h2, e2, ?_, ?_, ?_, h7, h8.dg hd hf (fun _ _ h => fits_field h)⟩
        · obtain ⟨s, hs⟩ := h4
          rcases key 0 (by omega) with k | k
          · exact ⟨s, by rw [hs] at k; injection k with k; rw [k]; simp⟩
          · rcases k with ⟨k, _⟩ | ⟨k, _⟩ | ⟨k, _⟩ | ⟨_, ⟨_, s', k⟩ | ⟨k, _⟩⟩
            · exact absurd k (by decide)
            · exact absurd k (by decide)
            · exact absurd k (by decide)
            · exact ⟨s', by rw [← k]; simp⟩
            · omega
        · obtain ⟨s, hs⟩ := h5
          rcases key 1 (by omega) with k | k
          · exact ⟨s, by rw [hs] at k; injection k with k; rw [k]; simp⟩
          · rcases k with ⟨k, _⟩ | ⟨k, _⟩ | ⟨k, _⟩ | ⟨_, ⟨k, _⟩ | ⟨_, s', k⟩⟩
            · exact absurd k (by decide)
            · exact absurd k (by decide)
            · exact absurd k (by decide)
            · omega
            · exact ⟨s', by rw [← k]; simp⟩
        · rcases key 2 hz with k | k
          · rw [h6] at k; injection k with k; rw [k]; simp [hz]
          · rcases k with ⟨k, _⟩ | ⟨k, _⟩ | ⟨k, _⟩ | ⟨_, ⟨k, _⟩ | ⟨k, _⟩⟩
            · exact absurd k (by decide)
            · exact absurd k (by decide)
            · exact absurd k (by decide)
            · omega
            · omega
end Go.Proofs.Ytkomcebknllaiaa

/- tenonmake.Spoil and spoilt: whatever a value holds is written over, and nothing else. -/
namespace Go.Proofs.Ytkomcebknllaiaa
open Go.RowKit

/-- the contract of Spoil at values at most n deep -/
def SpC (n : Nat) : Prop := ∀ (v : Value) (B : Nat → Prop) (w : World), Ws w B n v → Sub B w → Calls Try.prog 16 #[v] w fun e w' => e = .returned (.tuple #[]) ∧ Dg B w w'

set_option maxRecDepth 100000 in
set_option maxHeartbeats 400000 in
theorem spoil_lf (v : Value) (h : Lf v) (B : Nat → Prop) (w : World) : Calls Try.prog 16 #[v] w fun e w' => e = .returned (.tuple #[]) ∧ Dg B w w' := by
  rcases h with rfl | ⟨T, x, rfl, h1, h2, h3, h4⟩ | rfl
  · go_enter Try.func16, Try.ntmps16
    go_wp2_with fail
    go_end0
    exact ⟨rfl, Dg.refl _ _⟩
  · go_enter Try.func16, Try.ntmps16
    go_wp2_with fail
    go_end0
    exact ⟨rfl, Dg.refl _ _⟩
  · go_enter Try.func16, Try.ntmps16
    go_wp2_with fail
    go_end0
    exact ⟨rfl, Dg.refl _ _⟩

theorem wrap_u8_fits (j : Nat) (b : Int) : Fits 5 j (.int .u8 (IntKind.u8.wrap b)) := .inr (.inl ⟨rfl, _, rfl, by rw [IntKind.wrap_u8]; omega, by rw [IntKind.wrap_u8]; omega⟩)
theorem row_cell {w : World} {g : Nat} {cur : Array Value} {e : TypeId} {j : Nat} {x : Value} (h : w.heap[g]? = some (.cells cur e (0, 0))) (hx : cur[j]? = some x) : w.cell? ⟨g, j, none⟩ = some x ∧ w.frozen? ⟨g, j, none⟩ = false :=
  ⟨by rw [cell_of_row _ _ j _ _ _ h]; exact hx, frozen_of_row _ _ j _ _ h⟩
theorem Dg.alloc {B : Nat → Prop} {w0 w : World} (h : Dg B w0 w) (hB : Sub B w0) (o : Obj) : Dg B w0 (w.alloc o) := h.trans (Dg.of_below ((Below.refl _ _).alloc (Nat.le_refl _) _) (h.sub hB))
/-- what the loops that append carry -/
structure Grw (B : Nat → Prop) (w wr : World) (e : TypeId) (size : Nat) (v : Value) (n : Nat) (xs : List Value) : Prop where
  own : wr.ownsRow 0 e size v n xs
  blk : ∀ q, v.ownBlock = some q → B q ∨ w.heap.size ≤ q
  dg : Dg B w wr
theorem Grw.step {B : Nat → Prop} {w wr w3 : World} {e : TypeId} {size : Nat} {v v' : Value} {n : Nat} {xs ys : List Value} {o : Obj} {g cap : Nat} (h : Grw B w wr e size v n xs) (hB : Sub B w) (hv : v' = .slice (some ⟨g, 0, none⟩) (n + 1) cap) (ho : w3.ownsRow 0 e size v' (n + 1) ys) (hor : v.ownBlock = some g ∨ (wr.alloc o).heap.size ≤ g)
    (hd : ∀ (B : Nat → Prop) (w0 : World), Dg B w0 (wr.alloc o) → (∀ k, v.ownBlock = some k → B k ∨ w0.heap.size ≤ k) → Sub B w0 → Dg B w0 w3) : Grw B w w3 e size v' (n + 1) ys := by
  refine ⟨ho, fun q hq => ?_, hd B w (h.dg.alloc hB o) h.blk hB⟩
  subst hv
  simp only [Value.ownBlock, Option.some.injEq] at hq
  subst hq
  rcases hor with h1 | h1
  · exact h.blk g h1
  · right; have := h.dg.size; simp at h1; omega

set_option maxRecDepth 100000 in
set_option maxHeartbeats 1000000 in
theorem spoil_bytes (a : Option Addr) (len cap : Nat) (B : Nat → Prop) (w : World) (hlen : len ≤ 65536) (h : Rowk w B 5 1 a len cap isU8) (hB : Sub B w) :
    Calls Try.prog 16 #[.iface 23 (.slice a len cap)] w fun e w' => e = .returned (.tuple #[]) ∧ Dg B w w' := by
  obtain ⟨i0, hi, hz0, hz1, hz2⟩ := info_parts Try.infoB
  have HR0 : Hid (∀ W, Dg B w W → Rowk W B 5 1 a len cap isU8) := fun W hW => h.dg hW (fun _ _ h => h) (fun _ _ h => fits_u8 h)
  have HB : Hid (Sub B w) := hB
  clear h hB
  go_enter Try.func16, Try.ntmps16
  go_wp2_with fail
  go_loopw [3] (fun x wr => ∃ k : Nat, x = .int .i64 k ∧ k ≤ len ∧ Hid (Dg B w wr)) (fun x _ => len - (intOf x).toNat)
  case atStart => exact ⟨0, rfl, by omega, Dg.refl _ _⟩
  case round =>
    obtain ⟨k, rfl, hk, HD⟩ := hrel
    have hi0 : (0 : Int) ≤ (k : Int) := Int.natCast_nonneg _
    by_cases hkl : k < len
    · have hi1 : (k : Int) < (len : Int) := by omega
      rcases HR0.out wr HD.out with ⟨_, rfl, _⟩ | ⟨g, cur, rfl, h2, h3, h4, h5, h6, h7⟩
      · omega
      · obtain ⟨x, hx, b, rfl, hb0, hb1⟩ := h7 k (by omega)
        obtain ⟨c0, f0⟩ := row_cell h3 hx
        have HN : Hid (∀ y, Dg B w (wr.setCell ⟨g, k, none⟩ (.int .u8 (IntKind.u8.wrap y)))) := fun y => HD.out.trans (Dg.set h2 h3 (wrap_u8_fits k y))
        clear h2 h3 h4 h5 h6 h7 hx
        go_wp2_with fail
        go_roundw
        case rel => exact ⟨k + 1, by go_num, by omega, by first | exact HN.out _ | (rw [show b + 1 = _ from rfl]; exact HN.out _)⟩
        case measure => simp [intOf]; omega
    · have hi1 : ¬ ((k : Int) < (len : Int)) := by omega
      obtain ⟨xs, hxs⟩ := (HR0.out wr HD.out).owns
      have HG0 : Hid (Grw B w wr 5 1 (.slice a (len + 0) cap) (len + 0) xs) := ⟨hxs, fun q hq => .inl ((HR0.out wr HD.out).own q hq), HD.out⟩
      clear hxs
      go_wp2_with fail
      go_loopw [2, 4] (fun v x wr => ∃ (k : Nat) (a' : Option Addr) (cap' : Nat) (ys : List Value), v = .slice a' (len + k) cap' ∧ x = .int .i64 k ∧ k ≤ 20 ∧ Hid (Grw B w wr 5 1 (.slice a' (len + k) cap') (len + k) ys)) (fun _ x _ => 20 - (intOf x).toNat)
      case atStart => exact ⟨0, a, cap, xs, rfl, rfl, by omega, HG0.out⟩
      case round =>
        obtain ⟨k', a', cap', ys, rfl, rfl, hk', HG⟩ := hrel
        have hi0' : (0 : Int) ≤ (k' : Int) := Int.natCast_nonneg _
        by_cases hkl' : k' < 20
        · have hi1' : (k' : Int) < 20 := by omega
          go_wp2_with (at_builtin; refine wpList_app2 _ rfl _ _ 23 rfl 5 i0 (.int .u8 0) 1 1 Try.undB hi hz0 hz1 hz2 rfl (by decide) _ _ ys rfl (HG.out.own.alloc _) ⟨wr.heap.size, 0, none⟩ 1 1 [.int .u8 7] rfl rfl (cell_one_new _ _ _) (fun u hu => by simp at hu; subst hu; rfl) (by decide) (by unfold maxLen; omega) (by omega) (fun j u hu => .inr (.inl ⟨rfl, by cases j <;> simp at hu; exact ⟨7, hu.symm, by decide, by decide⟩⟩)) ?_; intro g' cap2 w3 hown' hor hdg)
          have HN := HG.out.step HB.out rfl hown' hor hdg
          clear hown' hor hdg
          go_roundw
          case rel => exact ⟨k' + 1, some ⟨g', 0, none⟩, cap2, _, rfl, by go_num, by omega, HN⟩
          case measure => simp [intOf]; omega
        · have hi1' : ¬ ((k' : Int) < 20) := by omega
          go_wp2_with fail
          go_end0
          exact ⟨rfl, HG.out.dg⟩
end Go.Proofs.Ytkomcebknllaiaa

