/- What the texts on ways share: appends onto slices of one's own, bytes turned to a text, how a way lies in memory. -/
import Derived.Test.YtghnipbcbbphbaaDoorPClone
import Derived.OwnWalk
import Derived.Laws.Entries
import Derived.Laws.BytesArg
import Derived.Lib.AppendStr
namespace Go.Proofs.YtghnipbcbbphbaaDoor
open Go.RowKit

theorem run_app {P : Program} (w : World) (base : Nat) (t ty e : TypeId) (i : TypeInfo) (z : Value) (size bytes : Nat) (ht : P.underlying t = some (.slice e)) (hi : P.info? e = some i) (hz : i.zero = some z)
    (hsize : i.size = size) (hby : i.bytes = bytes) (hzs : z.cells.size = size) (hsz : 0 < size)
    (v : Value) (n : Nat) (xs : List Value) (hown : w.ownsRow base e size v n xs)
    (a : Addr) (m c : Nat) (news : List Value) (hl : news.length = m * size) (hnews : ∀ j u, news[j]? = some u → w.cell? (a.add j) = some u) (h1 : ∀ u ∈ news, u.oneCell' = true) (hm : 0 < m)
    (h63 : n + m ≤ maxLen) (hbytes : (n + m) * bytes ≤ 140737488355328) (hbase : base ≤ w.heap.size) :
    ∃ g cap w', (Builtin.append_ #[t, t] ty #[v, .slice (some a) m c]).run P w = .ok (.slice (some ⟨g, 0, none⟩) (n + m) cap) w' ∧ w'.ownsRow base e size (.slice (some ⟨g, 0, none⟩) (n + m) cap) (n + m) (xs ++ news) ∧ w.grownBy w' v.ownBlock ∧
      (v.ownBlock = some g ∨ g = w.heap.size) := by
  obtain ⟨v', w', hr, h2, h3, h4⟩ := run_append_own (P := P) w base t ty e i z size bytes ht hi hz hsize hby hzs hsz v n xs hown a m c news hl hnews h1 h63 hbytes hbase
  have hsmall : n + m ≤ 9223372036854775807 := by simp only [maxLen] at h63; omega
  have key : ∃ g cap, v' = .slice (some ⟨g, 0, none⟩) (n + m) cap ∧ (v.ownBlock = some g ∨ g = w.heap.size) := by
    subst hsize
    subst hby
    rcases hown.2 with ⟨rfl, rfl⟩ | ⟨g, cap, cur, rfl, hbg, hg, hnc, hcm, hcs, htake⟩
    · have hr' := run_append_nil (P := P) w t ty e i z ht hi hz a m c news hl hnews hm (by omega) (by have hb := hbytes; simp only [Nat.zero_add] at hb; omega)
      rw [hr] at hr'
      injection hr' with hv _
      exact ⟨w.heap.size, _, by rw [hv, Nat.zero_add], .inr rfl⟩
    · by_cases hroom : n + m ≤ cap
      · have hfit : n * i.size + news.length ≤ cur.size := by rw [hl, hcs, ← Nat.add_mul]; exact Nat.mul_le_mul_right _ hroom
        have hr' := run_append_room (P := P) w t ty e i ht hi g n cap cur hg a m c news hl hnews h1 hroom hfit
        rw [hr] at hr'
        injection hr' with hv _
        exact ⟨g, cap, hv, .inl rfl⟩
      · have holds : ∀ j u, xs[j]? = some u → w.cell? ((⟨g, 0, none⟩ : Addr).add j) = some u := hown.cells (g := g) rfl
        have hr' := run_append_grow (P := P) w t ty e i z ht hi hz ⟨g, 0, none⟩ n cap xs hown.1 holds a m c news hl hnews (by omega) (by omega) (growslice_fits (by omega) hbytes)
        rw [hr] at hr'
        injection hr' with hv _
        exact ⟨w.heap.size, _, hv, .inr rfl⟩
  obtain ⟨g, cap, rfl, ho⟩ := key
  exact ⟨g, cap, w', hr, h2, h3, ho⟩

theorem wpList_app {P : Program} (w : World) {ops : Array Oper} {rest : List Oper} {o : Oper} {a : Act} {Q : Exit → Act → World → Prop} (hgd : o.guard = none) (s x : Operand) (t : TypeId)
    (ho : o.op = .call { callee := .builtin .append, args := #[s, x], argTypes := #[t, t] })
    (base : Nat) (e : TypeId) (i : TypeInfo) (z : Value) (size bytes : Nat) (ht : P.underlying t = some (.slice e)) (hi : P.info? e = some i) (hz : i.zero = some z)
    (hsize : i.size = size) (hby : i.bytes = bytes) (hzs : z.cells.size = size) (hsz : 0 < size)
    (v : Value) (n : Nat) (xs : List Value) (hs : a.eval s = v) (hown : w.ownsRow base e size v n xs)
    (ad : Addr) (m c : Nat) (news : List Value) (hx : a.eval x = .slice (some ad) m c) (hl : news.length = m * size) (hnews : ∀ j u, news[j]? = some u → w.cell? (ad.add j) = some u) (h1 : ∀ u ∈ news, u.oneCell' = true) (hm : 0 < m)
    (h63 : n + m ≤ maxLen) (hbytes : (n + m) * bytes ≤ 140737488355328) (hbase : base ≤ w.heap.size)
    (h : ∀ g cap w', w'.ownsRow base e size (.slice (some ⟨g, 0, none⟩) (n + m) cap) (n + m) (xs ++ news) → w.grownBy w' v.ownBlock → (v.ownBlock = some g ∨ g = w.heap.size) → wpList P ops Q rest (a.put o.dst (.slice (some ⟨g, 0, none⟩) (n + m) cap)) w') : wpList P ops Q (o :: rest) a w := by
  refine wpList_plain hgd fun K hK => ?_
  obtain ⟨g, cap, w', hr, h2, h3, h4⟩ := run_app (P := P) w base t o.type e i z size bytes ht hi hz hsize hby hzs hsz v n xs hown ad m c news hl hnews h1 hm h63 hbytes hbase
  unfold Oper.wp execOp
  simp only [ho, resolve, invoke, builtin, Sem.run_bind, Sem.run_pure, Result.andThen_ok, List.map_toArray, List.map_cons, List.map_nil, hs, hx, hr]
  exact hK _ _ (h g cap w' h2 h3 h4)

/-- an append whose run is known -/
theorem wpList_ran {P : Program} (w : World) {ops : Array Oper} {rest : List Oper} {o : Oper} {a : Act} {Q : Exit → Act → World → Prop} (hgd : o.guard = none) (s x : Operand) (t : TypeId)
    (ho : o.op = .call { callee := .builtin .append, args := #[s, x], argTypes := #[t, t] }) (v y v' : Value) (w' : World) (hs : a.eval s = v) (hx : a.eval x = y)
    (hr : (Builtin.append_ #[t, t] o.type #[v, y]).run P w = .ok v' w') (h : wpList P ops Q rest (a.put o.dst v') w') : wpList P ops Q (o :: rest) a w := by
  refine wpList_plain hgd fun K hK => ?_
  unfold Oper.wp execOp
  simp only [ho, resolve, invoke, builtin, Sem.run_bind, Sem.run_pure, Result.andThen_ok, List.map_toArray, List.map_cons, List.map_nil, hs, hx, hr]
  exact hK _ _ h

theorem below_to {w w1 w2 : World} (h : Below w.heap.size w w1) (h' : Below w1.heap.size w1 w2) : Below w.heap.size w w2 := h.trans (h'.mono h.size)
theorem addr_add (b o n : Nat) : (⟨b, o, none⟩ : Addr).add n = ⟨b, o + n, none⟩ := by
  simp [Addr.add]

theorem Tryd.undUd : Tryd.prog.underlying 5 = some (.int .u8) := by kernel_rfl
theorem Tryd.undSd : Tryd.prog.underlying 9 = some .string := by kernel_rfl
theorem Tryd.undW : Tryd.prog.underlying 35 = some (.slice 39) := by kernel_rfl
theorem Tryd.infoW : (Tryd.prog.info? 39).map (fun i => (i.zero, i.size, i.bytes)) = some (some (.agg #[.string ByteArray.empty, .bool false, .int .i64 0]), 3, 32) := by kernel_rfl

theorem nums_list (l : List UInt8) : strOfNums (l.map fun b => (b.toNat : Int)) = ⟨l.toArray⟩ := by
  unfold strOfNums
  rw [List.map_map]
  congr 2
  conv => rhs; rw [← List.map_id l]
  apply List.map_congr_left
  intro b _
  simp
/-- bytes that lie in a row, as a text -/
theorem conv_row (l : List UInt8) (g o c : Nat) (w : World) (h : ∀ j u, l[j]? = some u → w.cell? ⟨g, o + j, none⟩ = some (.int .u8 (u.toNat : Int))) :
    (convert 67 9 (.slice (some ⟨g, o, none⟩) l.length c)).run Tryd.prog w = .ok (.string ⟨l.toArray⟩) w := by
  rw [← nums_list]
  refine run_convert_bytes_arg (P := Tryd.prog) w 67 5 Tryd.undB Tryd.undUd g o l.length c _ (by simp) (fun i hi => ?_) 9 Tryd.undSd
  rw [h i l[i] (List.getElem?_eq_getElem hi)]
  simp [List.getD, List.getElem?_eq_getElem hi]
theorem conv_none (w : World) : (convert 67 9 (.slice none 0 0)).run Tryd.prog w = .ok (.string ⟨([] : List UInt8).toArray⟩) w :=
  run_convert_bytes_nil w _ 5 Tryd.undB Tryd.undUd _ _ _ Tryd.undSd
theorem ofL (l : List UInt8) : (⟨l.toArray⟩ : ByteArray).data.toList = l := by simp
theorem ba_eta (s : ByteArray) : (⟨s.data.toList.toArray⟩ : ByteArray) = s := by cases s; rfl
theorem ba_app (a b : List UInt8) : (⟨a.toArray⟩ : ByteArray) ++ ⟨b.toArray⟩ = ⟨(a ++ b).toArray⟩ := by
  apply ByteArray.ext
  simp
/-- bytes as cells -/
def Sp.u8c (l : List UInt8) : List Value := l.map fun b => Value.int .u8 (b.toNat : Int)
theorem u8c_at (l : List UInt8) (j : Nat) (u : UInt8) (h : l[j]? = some u) : (Sp.u8c l)[j]? = some (.int .u8 (u.toNat : Int)) := by simp [Sp.u8c, h]
theorem u8c_len (l : List UInt8) : (Sp.u8c l).length = l.length := by simp [Sp.u8c]
theorem u8c_one (l : List UInt8) : ∀ u ∈ Sp.u8c l, u.oneCell' = true := by
  intro u hu
  obtain ⟨b, _, rfl⟩ := List.mem_map.1 hu
  rfl
theorem u8c_app (a b : List UInt8) : Sp.u8c (a ++ b) = Sp.u8c a ++ Sp.u8c b := by simp [Sp.u8c]

/-- a step's cells -/
def Stp.cells (x : Stp) : List Value := [.string x.name, .bool x.at', .int .i64 x.idx]
def Sp.wcells : List Stp → List Value
  | [] => []
  | x :: l => x.cells ++ Sp.wcells l
theorem wcells_len (l : List Stp) : (Sp.wcells l).length = l.length * 3 := by
  induction l with
  | nil => rfl
  | cons x l ih => simp [Sp.wcells, Stp.cells, ih]; omega
theorem wcells_app (a b : List Stp) : Sp.wcells (a ++ b) = Sp.wcells a ++ Sp.wcells b := by
  induction a with
  | nil => rfl
  | cons x a ih => simp [Sp.wcells, ih]
theorem wcells_one (l : List Stp) : ∀ u ∈ Sp.wcells l, u.oneCell' = true := by
  induction l with
  | nil => intro u hu; cases hu
  | cons x l ih =>
    intro u hu
    rcases List.mem_append.1 hu with h | h
    · simp [Stp.cells] at h
      rcases h with rfl | rfl | rfl <;> rfl
    · exact ih u h
theorem wcells_at (l : List Stp) (j : Nat) (x : Stp) (h : l[j]? = some x) : (Sp.wcells l)[j * 3]? = some (.string x.name) ∧ (Sp.wcells l)[j * 3 + 1]? = some (.bool x.at') ∧ (Sp.wcells l)[j * 3 + 2]? = some (.int .i64 x.idx) := by
  induction l generalizing j with
  | nil => simp at h
  | cons y l ih =>
    cases j with
    | zero => simp at h; subst h; simp [Sp.wcells, Stp.cells]
    | succ j =>
      simp at h
      obtain ⟨h1, h2, h3⟩ := ih j h
      have e : (j + 1) * 3 = j * 3 + 3 := by omega
      refine ⟨?_, ?_, ?_⟩
      · rw [e, Sp.wcells, List.getElem?_append_right (by simp [Stp.cells])]; simpa [Stp.cells] using h1
      · rw [e, Sp.wcells, List.getElem?_append_right (by simp [Stp.cells])]; simpa [Stp.cells] using h2
      · rw [e, Sp.wcells, List.getElem?_append_right (by simp [Stp.cells])]; simpa [Stp.cells] using h3

/-- a way lies in memory, in blocks below b -/
def Rdw (w : World) (b : Nat) (a : Option Addr) (l : List Stp) : Prop := ∀ j x, l[j]? = some x → ∃ g o, a = some ⟨g, o, none⟩ ∧ g < b ∧ w.cell? ⟨g, o + j * 3, none⟩ = some (.string x.name) ∧ w.cell? ⟨g, o + j * 3 + 1, none⟩ = some (.bool x.at') ∧ w.cell? ⟨g, o + j * 3 + 2, none⟩ = some (.int .i64 x.idx) ∧ x.name.size ≤ maxLen
theorem Rdw.on {w w' : World} {b b' : Nat} {a : Option Addr} {l : List Stp} (h : Rdw w b a l) (hw : Below b w w') (hb : b ≤ b') : Rdw w' b' a l := fun j x hx => by
  obtain ⟨g, o, e, hg, h1, h2, h3, h4⟩ := h j x hx
  exact ⟨g, o, e, by omega, by rw [hw.cell (p := ⟨g, o + j * 3, none⟩) hg]; exact h1, by rw [hw.cell (p := ⟨g, o + j * 3 + 1, none⟩) hg]; exact h2, by rw [hw.cell (p := ⟨g, o + j * 3 + 2, none⟩) hg]; exact h3, h4⟩
theorem Rdw.of_own {w : World} {base n cap : Nat} {a : Option Addr} {l : List Stp} (h : w.ownsRow base 39 3 (.slice a n cap) n (Sp.wcells l)) (hn : ∀ x ∈ l, x.name.size ≤ maxLen) : Rdw w w.heap.size a l := fun j x hx => by
  have hj := (List.getElem?_eq_some_iff.1 hx).1
  have hlen := h.1
  rw [wcells_len] at hlen
  rcases h.2 with ⟨e, e0⟩ | ⟨g, c, cur, e, hg, hc, hnc, hcm, hcs, htake⟩
  · injection e with e1 e2 e3
    omega
  · injection e with e1 e2 e3
    subst e1
    have hlt : g < w.heap.size := by
      rcases Nat.lt_or_ge g w.heap.size with h' | h'
      · exact h'
      · simp [Array.getElem?_eq_none h'] at hc
    obtain ⟨k1, k2, k3⟩ := wcells_at l j x hx
    have hat : ∀ i u, (Sp.wcells l)[i]? = some u → w.cell? ⟨g, 0 + i, none⟩ = some u := fun i u hu => by
      have := h.cells (g := g) rfl i u hu
      rw [addr_add] at this
      exact this
    exact ⟨g, 0, rfl, hlt, hat _ _ k1, by rw [Nat.add_assoc]; exact hat _ _ k2, by rw [Nat.add_assoc]; exact hat _ _ k3, hn x (List.mem_of_getElem? hx)⟩
end Go.Proofs.YtghnipbcbbphbaaDoor
