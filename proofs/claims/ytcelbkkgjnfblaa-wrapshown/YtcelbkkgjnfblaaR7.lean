/- Objects around objects: how they lie in memory; wrap.inside, innermost, wrappable, Inner, Root, Deep. -/
import Derived.Test.YtcelbkkgjnfblaaR5
import Derived.Test.YtcelbkkgjnfblaaR6
import Derived.Deep.WholeRow
import Derived.Deep.MidRow
namespace Go.Proofs.Ytcelbkkgjnfblaa
open Go.RowKit

/-- the type of the wrappers that show the abilities of a number -/
def WT : Nat → Nat
  | 0 => 208
  | 1 => 187
  | 2 => 190
  | 3 => 193
  | 4 => 196
  | 5 => 199
  | 6 => 202
  | 7 => 205
  | 8 => 237
  | 9 => 216
  | 10 => 219
  | 11 => 222
  | 12 => 225
  | 13 => 228
  | 14 => 231
  | _ => 234
theorem Ab_WT (n : Nat) (h : n < 16) : Ab (WT n) (n + 16) := by
  match n, h with
  | 0, _ => exact Ab_w0
  | 1, _ => exact Ab_w1
  | 2, _ => exact Ab_w2
  | 3, _ => exact Ab_w3
  | 4, _ => exact Ab_w4
  | 5, _ => exact Ab_w5
  | 6, _ => exact Ab_w6
  | 7, _ => exact Ab_w7
  | 8, _ => exact Ab_w8
  | 9, _ => exact Ab_w9
  | 10, _ => exact Ab_w10
  | 11, _ => exact Ab_w11
  | 12, _ => exact Ab_w12
  | 13, _ => exact Ab_w13
  | 14, _ => exact Ab_w14
  | 15, _ => exact Ab_w15
  | k + 16, h => omega
theorem WT_ne (n : Nat) (h : n < 16) : WT n ≠ 136 := by
  match n, h with
  | 0, _ => decide
  | 1, _ => decide
  | 2, _ => decide
  | 3, _ => decide
  | 4, _ => decide
  | 5, _ => decide
  | 6, _ => decide
  | 7, _ => decide
  | 8, _ => decide
  | 9, _ => decide
  | 10, _ => decide
  | 11, _ => decide
  | 12, _ => decide
  | 13, _ => decide
  | 14, _ => decide
  | 15, _ => decide
  | k + 16, h => omega
theorem bit4 : ∀ n : Nat, n < 16 → (n + 16).testBit 4 = true := by decide +kernel

theorem plain_ld {w : World} {b : Nat} {o d : Value} (h0 : w.cell? ⟨b, 0, none⟩ = some o) (h1 : w.cell? ⟨b, 1, none⟩ = some d) : (loadVar 108 ⟨b, 0, none⟩).run Try.prog w = .ok (.agg #[o, d]) w := by
  have := run_loadVar_mid (P := Try.prog) w b 0 108 [o, d] _ (fun j v hj => by
    match j, hj with
    | 0, hj => simp at hj; rw [← hj]; exact h0
    | 1, hj => simp at hj; rw [← hj]; exact h1) Try.underlying108 rfl (by kernel_rfl)
  simpa using this

theorem mt_inside (n : Nat) (hn : n < 16) {w : World} {b : Nat} {o d : Value} (h0 : w.cell? ⟨b, 0, none⟩ = some o) (h1 : w.cell? ⟨b, 1, none⟩ = some d) :
    (method 379 (WT n) (.pointer (some ⟨b, 0, none⟩)) "tenon/wrap.inside").run Try.prog w = .ok (83, .agg #[o, d]) w := by
  have hl := plain_ld h0 h1
  match n, hn with
  | 0, _ => exact run_meth_ptr (S := 210) (idx := 0) (G := 108) (off := 0) (z := 1) (by kernel_rfl) (by kernel_rfl) (by kernel_rfl) Try.underlying108 hl
  | 1, _ => exact run_meth_ptr (S := 189) (idx := 0) (G := 108) (off := 0) (z := 1) (by kernel_rfl) (by kernel_rfl) (by kernel_rfl) Try.underlying108 hl
  | 2, _ => exact run_meth_ptr (S := 192) (idx := 0) (G := 108) (off := 0) (z := 1) (by kernel_rfl) (by kernel_rfl) (by kernel_rfl) Try.underlying108 hl
  | 3, _ => exact run_meth_ptr (S := 195) (idx := 0) (G := 108) (off := 0) (z := 1) (by kernel_rfl) (by kernel_rfl) (by kernel_rfl) Try.underlying108 hl
  | 4, _ => exact run_meth_ptr (S := 198) (idx := 0) (G := 108) (off := 0) (z := 1) (by kernel_rfl) (by kernel_rfl) (by kernel_rfl) Try.underlying108 hl
  | 5, _ => exact run_meth_ptr (S := 201) (idx := 0) (G := 108) (off := 0) (z := 1) (by kernel_rfl) (by kernel_rfl) (by kernel_rfl) Try.underlying108 hl
  | 6, _ => exact run_meth_ptr (S := 204) (idx := 0) (G := 108) (off := 0) (z := 1) (by kernel_rfl) (by kernel_rfl) (by kernel_rfl) Try.underlying108 hl
  | 7, _ => exact run_meth_ptr (S := 207) (idx := 0) (G := 108) (off := 0) (z := 1) (by kernel_rfl) (by kernel_rfl) (by kernel_rfl) Try.underlying108 hl
  | 8, _ => exact run_meth_ptr (S := 239) (idx := 0) (G := 108) (off := 0) (z := 1) (by kernel_rfl) (by kernel_rfl) (by kernel_rfl) Try.underlying108 hl
  | 9, _ => exact run_meth_ptr (S := 218) (idx := 0) (G := 108) (off := 0) (z := 1) (by kernel_rfl) (by kernel_rfl) (by kernel_rfl) Try.underlying108 hl
  | 10, _ => exact run_meth_ptr (S := 221) (idx := 0) (G := 108) (off := 0) (z := 1) (by kernel_rfl) (by kernel_rfl) (by kernel_rfl) Try.underlying108 hl
  | 11, _ => exact run_meth_ptr (S := 224) (idx := 0) (G := 108) (off := 0) (z := 1) (by kernel_rfl) (by kernel_rfl) (by kernel_rfl) Try.underlying108 hl
  | 12, _ => exact run_meth_ptr (S := 227) (idx := 0) (G := 108) (off := 0) (z := 1) (by kernel_rfl) (by kernel_rfl) (by kernel_rfl) Try.underlying108 hl
  | 13, _ => exact run_meth_ptr (S := 230) (idx := 0) (G := 108) (off := 0) (z := 1) (by kernel_rfl) (by kernel_rfl) (by kernel_rfl) Try.underlying108 hl
  | 14, _ => exact run_meth_ptr (S := 233) (idx := 0) (G := 108) (off := 0) (z := 1) (by kernel_rfl) (by kernel_rfl) (by kernel_rfl) Try.underlying108 hl
  | 15, _ => exact run_meth_ptr (S := 236) (idx := 0) (G := 108) (off := 0) (z := 1) (by kernel_rfl) (by kernel_rfl) (by kernel_rfl) Try.underlying108 hl
  | k + 16, h => omega

/-- an object: which abilities it has, and how many are around the innermost one -/
inductive Ob (w : World) : Value → Nat → Nat → Prop
  | base {T : Nat} {v : Value} {n : Nat} : Ab T n → n < 16 → T ≠ 136 → Ob w (.iface T v) n 0
  | wrap {b n m d : Nat} {o does : Value} : n < 16 → w.cell? ⟨b, 0, none⟩ = some o → w.cell? ⟨b, 1, none⟩ = some does → Ob w o m d → Ob w (.iface (WT n) (.pointer (some ⟨b, 0, none⟩))) n (d + 1)

theorem Ob.keep {w w' : World} (hb : ∀ k, k < w.heap.size → w'.heap[k]? = w.heap[k]?) {o : Value} {n d : Nat} (h : Ob w o n d) : Ob w' o n d := by
  induction h with
  | base hA hn hT => exact .base hA hn hT
  | @wrap b n m d o does hn h0 h1 _ ih =>
    have hl := World.block_lt_of_cell? _ _ h0
    exact .wrap (does := does) hn ((World.cell?_of_block (w := w) (hb b hl)).trans h0) ((World.cell?_of_block (w := w) (hb b hl)).trans h1) ih
theorem Ob.of_below {w w' : World} (hb : Below w.heap.size w w') {o : Value} {n d : Nat} (h : Ob w o n d) : Ob w' o n d := h.keep hb.block
theorem Ob.lt {w : World} {o : Value} {n d : Nat} (h : Ob w o n d) : n < 16 := by cases h <;> assumption
/-- an object's type, and that it is something -/
theorem Ob.ty {w : World} {o : Value} {n d : Nat} (h : Ob w o n d) : ∃ T v m, o = .iface T v ∧ Ab T m ∧ T ≠ 136 ∧ m % 16 = n := by
  cases h with
  | base hA hn hT => exact ⟨_, _, n, rfl, hA, hT, Nat.mod_eq_of_lt hn⟩
  | wrap hn h0 h1 h => exact ⟨_, _, n + 16, rfl, Ab_WT n hn, WT_ne n hn, by omega⟩

theorem addUp_mod (m : Nat) : addUp (m.testBit 0) (m.testBit 1) (m.testBit 2) (m.testBit 3) = ((m % 16 : Nat) : Int) := by
  have := addUp_bits (m % 16) (by omega)
  rw [← this]
  have e : ∀ i, i < 4 → (m % 16).testBit i = m.testBit i := fun i hi => by
    rw [show (16 : Nat) = 2 ^ 4 by rfl, Nat.testBit_mod_two_pow]
    simp [hi]
  rw [e 0 (by omega), e 1 (by omega), e 2 (by omega), e 3 (by omega)]
theorem Abilities_ob {w : World} {o : Value} {n d : Nat} (h : Ob w o n d) (W : World) : Calls Try.prog 19 #[o] W fun e w' => e = .returned (.tuple #[.int .i64 (n : Int), .int .i64 0]) ∧ W = w' := by
  obtain ⟨T, v, m, rfl, hA, hT, rfl⟩ := h.ty
  have := Abilities_bt hA (v := v) (.inr hT) W
  rw [addUp_mod] at this
  exact this

set_option maxRecDepth 100000 in
set_option maxHeartbeats 1000000 in
theorem plainInside_any (o d : Value) (w : World) :
    Calls Try.prog 83 #[.agg #[o, d]] w fun e w' => e = .returned o ∧ Below w.heap.size w w' := by
  go_enter Try.func83, Try.ntmps83
  go_wp2_with fail
  go_ret
  exact ⟨rfl, (Below.refl _ _).alloc (Nat.le_refl _) _⟩

set_option maxRecDepth 100000 in
set_option maxHeartbeats 1000000 in
theorem inside_base {T n : Nat} (hA : Ab T n) (hn : n < 16) (v : Value) (w : World) :
    Calls Try.prog 28 #[.iface T v] w fun e w' => e = .returned (.tuple #[.nilIface, .bool false]) ∧ w = w' := by
  have h2 : ∀ v xT w, (Instr.typeAssert (.iface T v) xT 138 true).run Try.prog w = .ok (.tuple #[.nilIface, .bool false]) w := by
    have h := hA.wr
    have e : n.testBit 4 = false := Nat.testBit_lt_two_pow (by omega)
    rw [e] at h
    simpa [As2] using h
  clear hA hn
  go_enter Try.func28, Try.ntmps28
  go_wp2_with fail
  go_ret2
  exact ⟨rfl, rfl⟩

set_option maxRecDepth 100000 in
set_option maxHeartbeats 1000000 in
theorem inside_wrap {b n : Nat} {o d : Value} (hn : n < 16) (w : World) (h0 : w.cell? ⟨b, 0, none⟩ = some o) (h1 : w.cell? ⟨b, 1, none⟩ = some d) :
    Calls Try.prog 28 #[.iface (WT n) (.pointer (some ⟨b, 0, none⟩))] w fun e w' => e = .returned (.tuple #[o, .bool true]) ∧ Below w.heap.size w w' := by
  have h2 : ∀ v xT w, (Instr.typeAssert (.iface (WT n) v) xT 138 true).run Try.prog w = .ok (.tuple #[.iface (WT n) v, .bool true]) w := by
    have h := (Ab_WT n hn).wr
    rw [bit4 n hn] at h
    simpa [As2] using h
  have hm := mt_inside n hn h0 h1
  have HP : Hid (Calls Try.prog 83 #[.agg #[o, d]] w fun e w' => e = .returned o ∧ Below w.heap.size w w') := plainInside_any o d w
  clear h0 h1 hn
  generalize WT n = T at h2 hm ⊢
  go_enter Try.func28, Try.ntmps28
  go_wp2_with fail
  refine HP.out.mono ?_
  rintro e w1 ⟨rfl, hb⟩
  replace hb : Hid (Below w.heap.size w w1) := hb
  go_wp2_with fail
  go_ret2
  exact ⟨rfl, hb.out⟩

/-- what inside tells -/
def InsE (w : World) (d : Nat) (e : Ending) : Prop := (d = 0 ∧ e = .returned (.tuple #[.nilIface, .bool false])) ∨ (∃ o m d', d = d' + 1 ∧ e = .returned (.tuple #[o, .bool true]) ∧ Ob w o m d')
theorem inside_old {o : Value} {n d : Nat} {w W : World} (h : Ob w o n d) (hW : Below w.heap.size w W) :
    Calls Try.prog 28 #[o] W fun e w' => InsE w d e ∧ Below W.heap.size W w' := by
  cases h with
  | base hA hn hT => exact (inside_base hA hn _ W).mono fun e w' ⟨h, k⟩ => by subst k; exact ⟨.inl ⟨rfl, h⟩, Below.refl _ _⟩
  | @wrap b n m d o does hn h0 h1 h =>
    have hl : b < w.heap.size := World.block_lt_of_cell? _ _ h0
    have hl1 : b < w.heap.size := hl
    exact (inside_wrap hn W ((hW.cell (p := ⟨b, 0, none⟩) hl).trans h0) ((hW.cell (p := ⟨b, 1, none⟩) hl1).trans h1)).mono fun e w' ⟨h2, k⟩ => ⟨.inr ⟨_, _, _, rfl, h2, h⟩, k⟩
/-- between two rounds of innermost: the one that has been come to, and what is inside it -/
def InmI (w : World) (d : Nat) (o k i ok : Value) : Prop := ∃ (j n r : Nat), j + r = d ∧ k = .int .i64 (j : Int) ∧ Ob w o n r ∧ ((r = 0 ∧ i = .nilIface ∧ ok = .bool false) ∨ (∃ m r', r = r' + 1 ∧ Ob w i m r' ∧ ok = .bool true))

set_option maxRecDepth 100000 in
set_option maxHeartbeats 1000000 in
theorem innermost_any {o : Value} {n d : Nat} (w : World) (h : Ob w o n d) (hd : d ≤ 1000) :
    Calls Try.prog 30 #[o] w fun e w' => (∃ r m, e = .returned (.tuple #[r, .int .i64 (d : Int)]) ∧ Ob w r m 0) ∧ Below w.heap.size w w' := by
  have HI : Hid (∀ W o n d, Ob w o n d → Below w.heap.size w W → Calls Try.prog 28 #[o] W fun e w' => InsE w d e ∧ Below W.heap.size W w') := fun W o n d h hW => inside_old h hW
  have HO : Hid (Ob w o n d) := h
  clear h
  go_enter Try.func30, Try.ntmps30
  go_wp2_with fail
  refine (HI.out w o n d HO.out (Below.refl _ _)).mono ?_
  rintro e w1 ⟨he, hb1⟩
  replace hb1 : Hid (Below w.heap.size w w1) := hb1
  obtain ⟨i, ok, rfl, hi⟩ : ∃ i ok, e = .returned (.tuple #[i, ok]) ∧ Hid (InmI w d o (.int .i64 ((0 : Nat) : Int)) i ok) := by
    rcases he with ⟨rfl, rfl⟩ | ⟨o', m, d', rfl, rfl, ho⟩
    · exact ⟨_, _, rfl, ⟨0, n, 0, rfl, rfl, HO.out, .inl ⟨rfl, rfl, rfl⟩⟩⟩
    · exact ⟨_, _, rfl, ⟨0, n, d' + 1, by omega, rfl, HO.out, .inr ⟨m, d', rfl, ho, rfl⟩⟩⟩
  go_wp2_with fail
  go_loopw [0, 4, 5, 6] (fun x k i ok wr => Hid (InmI w d x k i ok) ∧ Hid (Below w.heap.size w wr)) (fun _ k _ _ _ => d - (intOf k).toNat)
  case atStart => exact ⟨hi, hb1⟩
  case round =>
    clear hi hb1
    obtain ⟨⟨j, n, r, hj, rfl, ho, hio⟩, HB⟩ := hrel
    replace HB : Hid (Below w.heap.size w wr) := HB
    replace ho : Hid (Ob w _ n r) := ho
    rcases hio with ⟨rfl, rfl, rfl⟩ | ⟨m, r', rfl, hio, rfl⟩
    · go_wp2_with fail
      go_ret2
      have : j = d := by omega
      subst this
      exact ⟨⟨_, _, rfl, ho.out⟩, HB.out⟩
    · replace hio : Hid (Ob w _ m r') := hio
      have hw1 : IntKind.i64.wrap ((j : Int) + 1) = ((j + 1 : Nat) : Int) := by rw [IntKind.wrap_i64]; omega
      go_wp2_with fail
      refine (HI.out wr _ m r' hio.out HB.out).mono ?_
      rintro e w2 ⟨he, hb2⟩
      replace hb2 : Hid (Below w.heap.size w w2) := HB.out.trans (hb2.mono HB.out.size)
      clear HB
      rcases he with ⟨rfl, rfl⟩ | ⟨o', m', d', rfl, rfl, ho'⟩
      · go_wp2_with fail
        go_roundw
        case rel => exact ⟨⟨j + 1, m, 0, by omega, by go_num, hio.out, .inl ⟨rfl, rfl, rfl⟩⟩, hb2⟩
        case measure => simp [intOf]; omega
      · have ho2 : Hid (Ob w o' m' d') := ho'
        go_wp2_with fail
        go_roundw
        case rel => exact ⟨⟨j + 1, m, d' + 1, by omega, by go_num, hio.out, .inr ⟨m', d', rfl, ho2.out, rfl⟩⟩, hb2⟩
        case measure => simp [intOf]; omega

set_option maxRecDepth 100000 in
set_option maxHeartbeats 1000000 in
theorem wrappable_any {o : Value} {n d : Nat} (w : World) (h : Ob w o n d) (hd : d < 64) :
    Calls Try.prog 36 #[o] w fun e w' => e = .returned (.tuple #[.int .i64 (n : Int), .int .i64 0]) ∧ Below w.heap.size w w' := by
  have HI : Hid (Calls Try.prog 30 #[o] w fun e w' => (∃ r m, e = .returned (.tuple #[r, .int .i64 (d : Int)]) ∧ Ob w r m 0) ∧ Below w.heap.size w w') := innermost_any w h (by omega)
  have HA : Hid (Calls Try.prog 19 #[o] w fun e w' => e = .returned (.tuple #[.int .i64 (n : Int), .int .i64 0]) ∧ w = w') := Abilities_ob h w
  have hd2 : ¬ (64 : Int) ≤ (d : Int) := by omega
  clear h hd
  go_enter Try.func36, Try.ntmps36
  go_wp2_with fail
  refine HA.out.mono ?_
  rintro e w1 ⟨rfl, rfl⟩
  go_wp2_with fail
  refine HI.out.mono ?_
  rintro e w1 ⟨⟨r, m, rfl, _⟩, hb⟩
  replace hb : Hid (Below w.heap.size w w1) := hb
  go_wp2_with fail
  go_ret2
  exact ⟨rfl, hb.out⟩

set_option maxRecDepth 100000 in
set_option maxHeartbeats 1000000 in
theorem isSet_yes (n : Nat) (hn : n < 16) (w : World) : Calls Try.prog 29 #[.int .i64 (n : Int)] w fun e w' => e = .returned (.bool true) ∧ w = w' := by
  have h0 : (0 : Int) ≤ (n : Int) := by omega
  have h1 : (n : Int) ≤ 15 := by omega
  clear hn
  go_enter Try.func29, Try.ntmps29
  go_wp2_with fail
  go_ret
  exact ⟨rfl, rfl⟩
end Go.Proofs.Ytcelbkkgjnfblaa

/- A wrapper's parts, in plain. -/
namespace Go.Proofs.Ytcelbkkgjnfblaa
open Go.RowKit

@[go_sem] theorem run_store_fn (P : Program) (w : World) (a : Addr) (m : Mode) (f : Fn) (fs cs : Array Value) : (store a (.func f fs cs) m).run P w = stored P w a (.func f fs cs) m := run_store P w a _ m rfl
@[go_sem] theorem run_store_nf (P : Program) (w : World) (a : Addr) (m : Mode) : (store a .nilFunc m).run P w = stored P w a .nilFunc m := run_store P w a _ m rfl
theorem eqn_v (T : Nat) (v : Value) (w : World) : (binOp .eql 110 (.iface T v) .nilIface).run Try.prog w = .ok (.bool false) w := by kernel_rfl
theorem eqg_v (T : Nat) (v : Value) (x y : Operand) (w : World) : (eqGuard .eql 110 x y (.iface T v) .nilIface).run Try.prog w = .ok () w := by kernel_rfl
theorem eqn_i (T : Nat) (v : Value) (w : World) : (binOp .eql 114 (.iface T v) .nilIface).run Try.prog w = .ok (.bool false) w := by kernel_rfl
theorem eqg_i (T : Nat) (v : Value) (x y : Operand) (w : World) : (eqGuard .eql 114 x y (.iface T v) .nilIface).run Try.prog w = .ok () w := by kernel_rfl
theorem eqn_o (T : Nat) (v : Value) (w : World) : (binOp .eql 118 (.iface T v) .nilIface).run Try.prog w = .ok (.bool false) w := by kernel_rfl
theorem eqg_o (T : Nat) (v : Value) (x y : Operand) (w : World) : (eqGuard .eql 118 x y (.iface T v) .nilIface).run Try.prog w = .ok () w := by kernel_rfl
theorem eqn_l (T : Nat) (v : Value) (w : World) : (binOp .eql 122 (.iface T v) .nilIface).run Try.prog w = .ok (.bool false) w := by kernel_rfl
theorem eqg_l (T : Nat) (v : Value) (x y : Operand) (w : World) : (eqGuard .eql 122 x y (.iface T v) .nilIface).run Try.prog w = .ok () w := by kernel_rfl
/-- whom a part goes to, and what is done around a call -/
structure Go where
  (T : Nat) (v : Value) (f : FuncId) (fs cs : Array Value)
def Go.to (g : Go) : Value := .iface g.T g.v
def Go.does (g : Go) : Value := .func (.func g.f) g.fs g.cs
/-- a part's two cells -/
def pto : Option Go → Value
  | none => .nilIface
  | some g => g.to
def pdo : Option Go → Value
  | none => .nilFunc
  | some g => g.does
/-- all parts' cells -/
def pcs (p : Go) (v i o l : Option Go) : Array Value := #[p.to, p.does, pto v, pdo v, pto i, pdo i, pto o, pdo o, pto l, pdo l]
/-- a part that nobody has goes to g, if that has the ability -/
def fillP (b : Bool) (x : Option Go) (g : Go) : Option Go := match x with
  | some y => some y
  | none => if b then some g else none
/-- the three ways of it -/
inductive Fw (g : Go) : Bool → Option Go → Option Go → Prop
  | no : Fw g false none none
  | yes : Fw g true none (some g)
  | had (b : Bool) (y : Go) : Fw g b (some y) (some y)
theorem fw_any (b : Bool) (x : Option Go) (g : Go) : Fw g b x (fillP b x g) := by
  cases x with
  | some y => exact .had b y
  | none => cases b
            · exact .no
            · exact .yes
end Go.Proofs.Ytcelbkkgjnfblaa

