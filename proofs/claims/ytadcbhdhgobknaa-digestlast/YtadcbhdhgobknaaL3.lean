/- 'append' onto a slice that the call itself made: what it owns grows, nothing else turns, and the row is the old one or the newest block. -/
import Derived.Test.YtadcbhdhgobknaaL2
import Derived.MapKept
namespace Go.Proofs.Ytadcbhdhgobknaa
open Go.RowKit

theorem run_app {P : Program} (w : World) (base : Nat) (t ty e : TypeId) (i : TypeInfo) (z : Value) (size bytes : Nat) (ht : P.underlying t = some (.slice e)) (hi : P.info? e = some i) (hz : i.zero = some z)
    (hsize : i.size = size) (hby : i.bytes = bytes) (hzs : z.cells.size = size) (hsz : 0 < size)
    (v : Value) (n : Nat) (xs : List Value) (hown : w.ownsRow base e size v n xs)
    (a : Addr) (m c : Nat) (news : List Value) (hl : news.length = m * size) (hnews : ∀ j u, news[j]? = some u → w.cell? (a.add j) = some u) (h1 : ∀ u ∈ news, u.oneCell' = true) (hm : 0 < m)
    (h63 : n + m ≤ maxLen) (hbytes : (n + m) * bytes ≤ 140737488355328) (hbase : base ≤ w.heap.size) :
    ∃ g cap w', (Builtin.append_ #[t, t] ty #[v, .slice (some a) m c]).run P w = .ok (.slice (some ⟨g, 0, none⟩) (n + m) cap) w' ∧ w'.ownsRow base e size (.slice (some ⟨g, 0, none⟩) (n + m) cap) (n + m) (xs ++ news) ∧ w.grownBy w' v.ownBlock ∧
      (v.ownBlock = some g ∨ g = w.heap.size) := by
  obtain ⟨v', w', hr, h2, h3, h4⟩ := run_append_own (P := P) w base t ty e i z size bytes ht hi hz hsize hby hzs hsz v n xs hown a m c news hl hnews h1 h63 hbytes hbase
  have hsmall : n + m ≤ 9223372036854775807 := by simp only [maxLen] at h63; omega
  have key : ∃ g cap, v' = .slice (some ⟨g, 0, none⟩) (n + m) cap ∧ (v.ownBlock = some g ∨ g = w.heap.size) := by
    subst hsize
    subst hby
    rcases hown.2 with ⟨rfl, rfl⟩ | ⟨g, cap, cur, rfl, hbg, hg, hnc, hcm, hcs, htake⟩
    · have hr' := run_append_nil (P := P) w t ty e i z ht hi hz a m c news hl hnews hm (by omega) (by have hb := hbytes; simp only [Nat.zero_add] at hb; omega)
      rw [hr] at hr'
      injection hr' with hv _
      exact ⟨w.heap.size, _, by rw [hv, Nat.zero_add], .inr rfl⟩
    · by_cases hroom : n + m ≤ cap
      · have hfit : n * i.size + news.length ≤ cur.size := by rw [hl, hcs, ← Nat.add_mul]; exact Nat.mul_le_mul_right _ hroom
        have hr' := run_append_room (P := P) w t ty e i ht hi g n cap cur hg a m c news hl hnews h1 hroom hfit
        rw [hr] at hr'
        injection hr' with hv _
        exact ⟨g, cap, hv, .inl rfl⟩
      · have holds : ∀ j u, xs[j]? = some u → w.cell? ((⟨g, 0, none⟩ : Addr).add j) = some u := hown.cells (g := g) rfl
        have hr' := run_append_grow (P := P) w t ty e i z ht hi hz ⟨g, 0, none⟩ n cap xs hown.1 holds a m c news hl hnews (by omega) (by omega) (growslice_fits (by omega) hbytes)
        rw [hr] at hr'
        injection hr' with hv _
        exact ⟨w.heap.size, _, hv, .inr rfl⟩
  obtain ⟨g, cap, rfl, ho⟩ := key
  exact ⟨g, cap, w', hr, h2, h3, ho⟩

theorem wpList_app {P : Program} (w : World) {ops : Array Oper} {rest : List Oper} {o : Oper} {a : Act} {Q : Exit → Act → World → Prop} (hgd : o.guard = none) (s x : Operand) (t : TypeId)
    (ho : o.op = .call { callee := .builtin .append, args := #[s, x], argTypes := #[t, t] })
    (base : Nat) (e : TypeId) (i : TypeInfo) (z : Value) (size bytes : Nat) (ht : P.underlying t = some (.slice e)) (hi : P.info? e = some i) (hz : i.zero = some z)
    (hsize : i.size = size) (hby : i.bytes = bytes) (hzs : z.cells.size = size) (hsz : 0 < size)
    (v : Value) (n : Nat) (xs : List Value) (hs : a.eval s = v) (hown : w.ownsRow base e size v n xs)
    (ad : Addr) (m c : Nat) (news : List Value) (hx : a.eval x = .slice (some ad) m c) (hl : news.length = m * size) (hnews : ∀ j u, news[j]? = some u → w.cell? (ad.add j) = some u) (h1 : ∀ u ∈ news, u.oneCell' = true) (hm : 0 < m)
    (h63 : n + m ≤ maxLen) (hbytes : (n + m) * bytes ≤ 140737488355328) (hbase : base ≤ w.heap.size)
    (h : ∀ g cap w', w'.ownsRow base e size (.slice (some ⟨g, 0, none⟩) (n + m) cap) (n + m) (xs ++ news) → w.grownBy w' v.ownBlock → (v.ownBlock = some g ∨ g = w.heap.size) → wpList P ops Q rest (a.put o.dst (.slice (some ⟨g, 0, none⟩) (n + m) cap)) w') : wpList P ops Q (o :: rest) a w := by
  refine wpList_plain hgd fun K hK => ?_
  obtain ⟨g, cap, w', hr, h2, h3, h4⟩ := run_app (P := P) w base t o.type e i z size bytes ht hi hz hsize hby hzs hsz v n xs hown ad m c news hl hnews h1 hm h63 hbytes hbase
  unfold Oper.wp execOp
  simp only [ho, resolve, invoke, builtin, Sem.run_bind, Sem.run_pure, Result.andThen_ok, List.map_toArray, List.map_cons, List.map_nil, hs, hx, hr]
  exact hK _ _ (h g cap w' h2 h3 h4)

/-- an append whose run is known -/
theorem wpList_ran {P : Program} (w : World) {ops : Array Oper} {rest : List Oper} {o : Oper} {a : Act} {Q : Exit → Act → World → Prop} (hgd : o.guard = none) (s x : Operand) (t : TypeId)
    (ho : o.op = .call { callee := .builtin .append, args := #[s, x], argTypes := #[t, t] }) (v y v' : Value) (w' : World) (hs : a.eval s = v) (hx : a.eval x = y)
    (hr : (Builtin.append_ #[t, t] o.type #[v, y]).run P w = .ok v' w') (h : wpList P ops Q rest (a.put o.dst v') w') : wpList P ops Q (o :: rest) a w := by
  refine wpList_plain hgd fun K hK => ?_
  unfold Oper.wp execOp
  simp only [ho, resolve, invoke, builtin, Sem.run_bind, Sem.run_pure, Result.andThen_ok, List.map_toArray, List.map_cons, List.map_nil, hs, hx, hr]
  exact hK _ _ h
theorem app_zero (ty : TypeId) (g : Nat) (ab : Option Addr) (cb : Nat) (w : World) : (Builtin.append_ #[23, 23] ty #[.slice (some ⟨g, 0, none⟩) 0 0, .slice ab 0 cb]).run Try.prog w = .ok (.slice (some ⟨g, 0, none⟩) 0 0) w := by
  cases ab <;> kernel_rfl

theorem Try.infoI : (Try.prog.info? 20).map (fun i => (i.zero, i.size, i.bytes)) = some (some .nilIface, 1, 16) := by kernel_rfl
theorem Try.infoF : (Try.prog.info? 123).map (fun i => (i.zero, i.size, i.bytes)) = some (some (.agg #[.string ByteArray.empty, .nilIface]), 2, 32) := by kernel_rfl
theorem Try.infoT : (Try.prog.info? 29).map (fun i => (i.zero, i.size, i.bytes)) = some (some (.agg (tcells 0 false 0 0 ByteArray.empty (.slice none 0 0) 0 (.slice none 0 0) (.slice none 0 0) ByteArray.empty 0)), 11, 152) := by kernel_rfl
theorem Try.infoB : (Try.prog.info? 5).map (fun i => (i.zero, i.size, i.bytes)) = some (some (.int .u8 0), 1, 1) := by kernel_rfl
theorem Try.undL : Try.prog.underlying 81 = some (.slice 20) := by kernel_rfl
theorem Try.undD : Try.prog.underlying 83 = some (.slice 123) := by kernel_rfl
theorem Try.undT : Try.prog.underlying 26 = some (.slice 29) := by kernel_rfl
theorem Try.undB : Try.prog.underlying 23 = some (.slice 5) := by kernel_rfl
end Go.Proofs.Ytadcbhdhgobknaa

/- A list of values that is being built: its first ones are those of a list of terms, what is left stands behind. -/
namespace Go.Proofs.Ytadcbhdhgobknaa
open Go.RowKit

/-- the blocks that are new in w' -/
def Fr (w w' : World) : Nat → Prop := fun k => w.heap.size ≤ k ∧ k < w'.heap.size
/-- the blocks from b on of w', but for g -/
def Own (b : Nat) (w' : World) (g : Nat) : Nat → Prop := fun k => b ≤ k ∧ k < w'.heap.size ∧ k ≠ g

def VPre (w : World) (S : Nat → Prop) : TmL → List Value → TmL → Prop
  | L, [], l => L = l
  | .cons t L, x :: xs, l => t.V w S x ∧ VPre w S L xs l
  | .nil, _ :: _, _ => False
def FPre (w : World) (S : Nat → Prop) : TmF → List Value → TmF → Prop
  | L, [], l => L = l
  | .cons n t L, y :: x :: xs, l => y = .string n ∧ n.size ≤ maxLen ∧ t.V w S x ∧ FPre w S L xs l
  | _, _, _ => False

theorem VPre_nil {w : World} {S : Nat → Prop} (L l : TmL) : VPre w S L [] l ↔ L = l := by cases L <;> rfl
theorem FPre_nil {w : World} {S : Nat → Prop} (L l : TmF) : FPre w S L [] l ↔ L = l := by cases L <;> rfl
theorem VPre.same {w w' : World} {S S' : Nat → Prop} (hs : Same S w w') (hS : ∀ k, S k → S' k) : (L : TmL) → ∀ xs l, VPre w S L xs l → VPre w' S' L xs l
  | L, [], l, h => (VPre_nil L l).2 ((VPre_nil L l).1 h)
  | .nil, x :: xs, l, h => by simp [VPre] at h
  | .cons t L, x :: xs, l, h => by
    simp only [VPre] at h ⊢
    exact ⟨t.V_same hs hS x h.1, VPre.same hs hS L xs l h.2⟩
theorem VPre.snoc {w : World} {S : Nat → Prop} : (L : TmL) → ∀ xs t l x, VPre w S L xs (.cons t l) → t.V w S x → VPre w S L (xs ++ [x]) l
  | L, [], t, l, x, h, hx => by
    obtain rfl := (VPre_nil _ _).1 h
    simp only [List.nil_append, VPre]
    exact ⟨hx, trivial⟩
  | .nil, y :: ys, t, l, x, h, hx => by simp [VPre] at h
  | .cons u L, y :: ys, t, l, x, h, hx => by
    simp only [List.cons_append, VPre] at h ⊢
    exact ⟨h.1, VPre.snoc L ys t l x h.2 hx⟩
theorem VPre.done {w : World} {S S' : Nat → Prop} (hS : ∀ k, S k → S' k) (g : Nat) (hg : S' g) : (L : TmL) → ∀ (xs : List Value) (j : Nat), VPre w S L xs .nil → (∀ i x, xs[i]? = some x → w.cell? ⟨g, j + i, none⟩ = some x) → L.V w S' (some ⟨g, 0, none⟩) j
  | .nil, _, _, _, _ => by simp [TmL.V]
  | .cons t L, [], j, h, _ => by simp [VPre] at h
  | .cons t L, x :: xs, j, h, hc => by
    simp only [VPre, TmL.V] at h ⊢
    refine ⟨g, 0, x, rfl, hg, by simpa using hc 0 x rfl, t.V_same (Same.refl _ _) hS x h.1, VPre.done hS g hg L xs (j + 1) h.2 ?_⟩
    intro i y hi
    have := hc (i + 1) y (by simpa using hi)
    rw [show j + 1 + i = j + (i + 1) by omega]; exact this
theorem VPre.len {w : World} {S : Nat → Prop} : (L : TmL) → ∀ xs l, VPre w S L xs l → L.len = xs.length + l.len
  | L, [], l, h => by
    obtain rfl := (VPre_nil _ _).1 h; simp
  | .nil, x :: xs, l, h => by simp [VPre] at h
  | .cons t L, x :: xs, l, h => by
    simp only [VPre] at h
    have := VPre.len L xs l h.2
    simp [TmL.len]; omega

theorem FPre.same {w w' : World} {S S' : Nat → Prop} (hs : Same S w w') (hS : ∀ k, S k → S' k) : (L : TmF) → ∀ xs l, FPre w S L xs l → FPre w' S' L xs l
  | L, [], l, h => (FPre_nil L l).2 ((FPre_nil L l).1 h)
  | .nil, x :: xs, l, h => by cases xs <;> simp [FPre] at h
  | .cons n t L, [x], l, h => by simp [FPre] at h
  | .cons n t L, y :: x :: xs, l, h => by
    simp only [FPre] at h ⊢
    exact ⟨h.1, h.2.1, t.V_same hs hS x h.2.2.1, FPre.same hs hS L xs l h.2.2.2⟩
theorem FPre.snoc {w : World} {S : Nat → Prop} : (L : TmF) → ∀ xs n t l x, FPre w S L xs (.cons n t l) → n.size ≤ maxLen → t.V w S x → FPre w S L (xs ++ [.string n, x]) l
  | L, [], n, t, l, x, h, hn, hx => by
    obtain rfl := (FPre_nil _ _).1 h
    simp only [List.nil_append, FPre]
    exact ⟨trivial, hn, hx, trivial⟩
  | .nil, y :: ys, n, t, l, x, h, hn, hx => by cases ys <;> simp [FPre] at h
  | .cons m u L, [y], n, t, l, x, h, hn, hx => by simp [FPre] at h
  | .cons m u L, y :: z :: ys, n, t, l, x, h, hn, hx => by
    simp only [List.cons_append, FPre] at h ⊢
    exact ⟨h.1, h.2.1, h.2.2.1, FPre.snoc L ys n t l x h.2.2.2 hn hx⟩
theorem FPre.done {w : World} {S S' : Nat → Prop} (hS : ∀ k, S k → S' k) (g : Nat) (hg : S' g) : (L : TmF) → ∀ (xs : List Value) (j : Nat), FPre w S L xs .nil → (∀ i x, xs[i]? = some x → w.cell? ⟨g, j * 2 + i, none⟩ = some x) → L.V w S' (some ⟨g, 0, none⟩) j
  | .nil, _, _, _, _ => by simp [TmF.V]
  | .cons n t L, [], j, h, _ => by simp [FPre] at h
  | .cons n t L, [x], j, h, _ => by simp [FPre] at h
  | .cons n t L, y :: x :: xs, j, h, hc => by
    simp only [FPre, TmF.V] at h ⊢
    obtain ⟨rfl, hn, hx, h⟩ := h
    refine ⟨g, 0, x, rfl, hg, by simpa using hc 0 _ rfl, by simpa using hc 1 x rfl, hn, t.V_same (Same.refl _ _) hS x hx, FPre.done hS g hg L xs (j + 1) h ?_⟩
    intro i y hi
    have := hc (i + 2) y (by simpa using hi)
    rw [show (j + 1) * 2 + i = j * 2 + (i + 2) by omega]; exact this

/-- the eleven cells of a term, one by one -/
theorem eleven {w : World} {g o : Nat} {k : Int} {b : Bool} {i : Int} {f : Nat} {tx : ByteArray} {vb : Value} {rf : Int} {vl vf : Value} {c : ByteArray} {vr : Int}
    (h : ∀ x, x < 11 → w.cell? ⟨g, o + x, none⟩ = (tcells k b i f tx vb rf vl vf c vr)[x]?) :
    w.cell? ⟨g, o, none⟩ = some (.int .i64 k) ∧ w.cell? ⟨g, o + 1, none⟩ = some (.bool b) ∧ w.cell? ⟨g, o + 2, none⟩ = some (.int .i64 i) ∧ w.cell? ⟨g, o + 3, none⟩ = some (.float .f64 f) ∧ w.cell? ⟨g, o + 4, none⟩ = some (.string tx) ∧ w.cell? ⟨g, o + 5, none⟩ = some vb ∧ w.cell? ⟨g, o + 6, none⟩ = some (.int .u64 rf) ∧ w.cell? ⟨g, o + 7, none⟩ = some vl ∧ w.cell? ⟨g, o + 8, none⟩ = some vf ∧ w.cell? ⟨g, o + 9, none⟩ = some (.string c) ∧ w.cell? ⟨g, o + 10, none⟩ = some (.int .i64 vr) :=
  ⟨h 0 (by decide), h 1 (by decide), h 2 (by decide), h 3 (by decide), h 4 (by decide), h 5 (by decide), h 6 (by decide), h 7 (by decide), h 8 (by decide), h 9 (by decide), h 10 (by decide)⟩
end Go.Proofs.Ytadcbhdhgobknaa

/- tenonmake.Alien: whatever number it is given, a value of a type that has no kind. -/
namespace Go.Proofs.Ytadcbhdhgobknaa
open Go.RowKit

theorem ins_a (w : World) : ∃ w', (Instr.mapUpdate 124 (.map (some w.heap.size)) (.string ⟨#[97]⟩) (.int .i64 1)).run Try.prog (w.alloc (.map #[] 0)) = .ok () w' ∧ Below w.heap.size w w' := by
  have hu : Try.prog.underlying 124 = some (.map 9 3) := by kernel_rfl
  have hs : Try.prog.underlying 9 = some .string := by kernel_rfl
  have hg : (w.alloc (.map #[] 0)).heap[w.heap.size]? = some (.map #[] 0) := heap_alloc_new w _
  refine ⟨{ (w.alloc (.map #[] 0)) with heap := (w.alloc (.map #[] 0)).heap.setIfInBounds w.heap.size (.map #[{ key := .string ⟨#[97]⟩, val := .int .i64 1, born := 0 }] 1) }, ?_, ?_⟩
  · have h1 : Instr.findNow .string (.string ⟨#[97]⟩) [] 0 = some none := rfl
    simp [Instr.mapUpdate, run_underlying hu, MapKept.run_getObj_map hg, MapKept.run_checkKey hs (show MapKept.IsKey .string (.string ⟨#[97]⟩) from trivial), MapKept.run_findKey hs h1, MapKept.run_setObj_map _ hg, Result.andThen]
  · refine ⟨rfl, rfl, rfl, by simp, fun k hk => ?_⟩
    simp only [Array.getElem?_setIfInBounds]
    rw [if_neg (by omega)]
    exact Below.heap_alloc _ _ _ hk

set_option maxRecDepth 100000 in
set_option maxHeartbeats 400000 in
theorem alien_any (n : Int) (w : World) (_h0 : -9223372036854775808 ≤ n) (_h1 : n ≤ 9223372036854775807) :
    Calls Try.prog 42 #[.int .i64 n] w fun e w' => ∃ T x, e = .returned (.iface T x) ∧ Alien T ∧ Below w.heap.size w w' := by
  have hmm := @run_makeMap Try.prog
  obtain ⟨wm, hm, hbm⟩ := ins_a w
  go_enter Try.func42, Try.ntmps42
  go_wp2
  all_goals first | (go_ret; refine ⟨_, _, rfl, by unfold Alien; decide, ?_⟩; first | exact hbm | exact Below.refl _ _ | exact (Below.refl _ _).alloc (Nat.le_refl _) _)
end Go.Proofs.Ytadcbhdhgobknaa

