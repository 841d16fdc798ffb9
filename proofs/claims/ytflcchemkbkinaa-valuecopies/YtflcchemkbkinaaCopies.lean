/- tenonlaw01.ValueCopies answers true at every term that lies in memory. -/
import Derived.Test.YtflcchemkbkinaaSpG
import Derived.Test.YtflcchemkbkinaaCOfG
import Derived.Test.YtflcchemkbkinaaBackV
import Derived.Test.YtflcchemkbkinaaRefCheck
namespace Go.Proofs.Ytflcchemkbkinaa
open Go.RowKit

@[go_sem] theorem eql_a (w : World) : (binOp .eql 20 (.iface 9 (.string ⟨#[97]⟩)) (.iface 9 (.string ⟨#[97]⟩))).run Try.prog w = .ok (.bool true) w := by kernel_rfl
@[go_sem] theorem eqg_a (x y : Operand) (w : World) : (eqGuard .eql 20 x y (.iface 9 (.string ⟨#[97]⟩)) (.iface 9 (.string ⟨#[97]⟩))).run Try.prog w = .ok () w := by kernel_rfl
def tA : Tm := .mk 5 false 0 0 ⟨#[97]⟩ ByteArray.empty 0 .nil .nil ByteArray.empty 0
theorem copy_a (W : World) : Calls Try.prog 21 #[.iface 9 (.string ⟨#[97]⟩)] W fun e w' => e = .returned (.tuple #[.iface 9 (.string ⟨#[97]⟩), .int .i64 0]) ∧ Below W.heap.size W w' := by
  refine (Copy_ok tA _ W.heap.size W (Nat.le_refl _) (by simp [tA, Tm.V]; decide) (by decide +kernel)).mono ?_
  rintro e w' ⟨v', rfl, hb, hv⟩
  simp only [tA, Tm.V] at hv
  obtain ⟨_, _, _, _, h5, _⟩ := hv
  rw [(h5 trivial).1]
  exact ⟨rfl, hb⟩

set_option maxRecDepth 100000 in
set_option maxHeartbeats 4000000 in
theorem ValueCopies_any (t : Tm) (cs : Array Value) (B : Nat → Prop) (w : World) (h : t.In w B cs) (hB : Sub B w) :
    Calls Try.prog 5 #[.agg cs] w fun e w' => e = .returned (.bool true) ∧ Below w.heap.size w w' := by
  have HIn : Hid (∀ W, Same (Lo w.heap.size) w W → t.In W (Lo w.heap.size) cs) := fun W hW => t.In_same (fun k hk => hW k (hB k hk)) (fun k hk => hB k hk) cs h
  clear h hB
  obtain ⟨b2, i2, f2, tx2, vb2, rf2, vl2, vf2, c2, vr2, rfl⟩ := Tm.In_box (HIn.out w (Same.refl _ _))
  have HBu : Hid (∀ W, Below w.heap.size w W → Calls Try.prog 10 #[.agg (tcells t.kind b2 i2 f2 tx2 vb2 rf2 vl2 vf2 c2 vr2)] W fun e w' => ∃ v, e = .returned v ∧ Below W.heap.size W w' ∧ t.V w' (Fr W w') v) := fun W hW =>
    built_any t.sz t (Nat.le_refl _) _ (Lo w.heap.size) W (HIn.out W (Same.of_below hW (Nat.le_refl _))) (Sub.lo hW.size)
  have HRC : Hid (∀ W, Below w.heap.size w W → Calls Try.prog 11 #[.agg (tcells t.kind b2 i2 f2 tx2 vb2 rf2 vl2 vf2 c2 vr2)] W fun e w' => e = .returned (.tuple #[.int .i64 t.cAt, .int .i64 t.all.e]) ∧ Below W.heap.size W w') := fun W hW =>
    refCheck_any t _ (Lo w.heap.size) W (HIn.out W (Same.of_below hW (Nat.le_refl _))) (Sub.lo hW.size)
  have HX : Hid (∀ W, Below (w.alloc (.cells #[.int .i64 t.kind, .bool b2, .int .i64 i2, .float .f64 f2, .string tx2, vb2, .int .u64 rf2, vl2, vf2, .string c2, .int .i64 vr2] 29)).heap.size (w.alloc (.cells #[.int .i64 t.kind, .bool b2, .int .i64 i2, .float .f64 f2, .string tx2, vb2, .int .u64 rf2, vl2, vf2, .string c2, .int .i64 vr2] 29)) W → (W.cell? ⟨w.heap.size, 0, none⟩ = some (.int .i64 t.kind) ∧ W.cell? ⟨w.heap.size, 1, none⟩ = some (.bool b2) ∧ W.cell? ⟨w.heap.size, 2, none⟩ = some (.int .i64 i2) ∧ W.cell? ⟨w.heap.size, 3, none⟩ = some (.float .f64 f2) ∧ W.cell? ⟨w.heap.size, 4, none⟩ = some (.string tx2) ∧ W.cell? ⟨w.heap.size, 5, none⟩ = some (vb2) ∧ W.cell? ⟨w.heap.size, 6, none⟩ = some (.int .u64 rf2) ∧ W.cell? ⟨w.heap.size, 7, none⟩ = some (vl2) ∧ W.cell? ⟨w.heap.size, 8, none⟩ = some (vf2) ∧ W.cell? ⟨w.heap.size, 9, none⟩ = some (.string c2) ∧ W.cell? ⟨w.heap.size, 10, none⟩ = some (.int .i64 vr2)) ∧ Below w.heap.size w W) := fun W hW => ⟨tbox (box_at1 hW).1, (box_at1 hW).2.1⟩
  have HIs : Hid (∀ (W : World) (x : Value) (S : Nat → Prop), Below w.heap.size w W → t.V W S x → Sub S W → t.all.e = 0 → Calls Try.prog 13 #[x, .agg (tcells t.kind b2 i2 f2 tx2 vb2 rf2 vl2 vf2 c2 vr2)] W fun e w' => e = .returned (.bool true) ∧ Below W.heap.size W w') := fun W x S hW hx hS he =>
    Is_any t x _ W (fun k => S k ∨ Lo w.heap.size k) (t.V_same (Same.refl _ _) (fun k hk => .inl hk) x hx) (t.In_same (Same.refl _ _) (fun k hk => .inr hk) _ (HIn.out W (Same.of_below hW (Nat.le_refl _)))) (fun k hk => hk.elim (hS k) (fun h => Nat.lt_of_lt_of_le h hW.size)) he
  unfold tcells at HBu HRC HIs ⊢
  go_enter Try.func5, Try.ntmps5
  go_wp2_with fail
  refine (HBu.out _ (HX.out _ (Below.refl _ _)).2).mono ?_
  rintro e w1 ⟨v, rfl, hb1, hv⟩
  have HB1 : Hid (Below (w.alloc (.cells #[.int .i64 t.kind, .bool b2, .int .i64 i2, .float .f64 f2, .string tx2, vb2, .int .u64 rf2, vl2, vf2, .string c2, .int .i64 vr2] 29)).heap.size (w.alloc (.cells #[.int .i64 t.kind, .bool b2, .int .i64 i2, .float .f64 f2, .string tx2, vb2, .int .u64 rf2, vl2, vf2, .string c2, .int .i64 vr2] 29)) w1) := hb1
  have HV : Hid (t.V w1 (Fr (w.alloc (.cells #[.int .i64 t.kind, .bool b2, .int .i64 i2, .float .f64 f2, .string tx2, vb2, .int .u64 rf2, vl2, vf2, .string c2, .int .i64 vr2] 29)) w1) v) := hv
  clear hb1 hv HBu
  have hvl : t.V w1 (Lo w1.heap.size) v := t.V_same (Same.refl _ _) (fun k hk => hk.2) v HV.out
  by_cases he : t.all.e = 0
  · have HC1 : Hid (Calls Try.prog 21 #[v] w1 fun e w' => ∃ v', e = .returned (.tuple #[v', .int .i64 0]) ∧ Below w1.heap.size w1 w' ∧ t.V w' (Fr w1 w') v') := Copy_ok t v _ w1 (Nat.le_refl _) hvl he
    have HC2 : Hid (∀ W, Below w1.heap.size w1 W → Calls Try.prog 21 #[v] W fun e w' => ∃ v', e = .returned (.tuple #[v', .int .i64 0]) ∧ Below W.heap.size W w' ∧ t.V w' (Fr W w') v') := fun W hW => Copy_ok t v _ W hW.size (t.V_same (Same.of_below hW (Nat.le_refl _)) (fun _ h => h) v hvl) he
    clear hvl
    go_wp2_with fail
    refine HC1.out.mono ?_
    rintro e w2 ⟨c, rfl, hb2, hc⟩
    have HB2 : Hid (Below w1.heap.size w1 w2) := hb2
    have HCV : Hid (t.V w2 (Fr w1 w2) c) := hc
    clear hb2 hc
    go_wp2_with fail
    refine (HC2.out w2 HB2.out).mono ?_
    rintro e w3 ⟨d, rfl, hb3, hd⟩
    have HB3 : Hid (Below w2.heap.size w2 w3) := hb3
    have HDV : Hid (t.V w3 (Fr w2 w3) d) := hd
    clear hb3 hd HC1 HC2
    have HZ : Hid (w.heap.size + 1 ≤ w1.heap.size ∧ w1.heap.size ≤ w2.heap.size ∧ w2.heap.size ≤ w3.heap.size) := ⟨by have := HB1.out.size; simpa using this, HB2.out.size, HB3.out.size⟩
    have HW3 : Hid (Below (w.alloc (.cells #[.int .i64 t.kind, .bool b2, .int .i64 i2, .float .f64 f2, .string tx2, vb2, .int .u64 rf2, vl2, vf2, .string c2, .int .i64 vr2] 29)).heap.size (w.alloc (.cells #[.int .i64 t.kind, .bool b2, .int .i64 i2, .float .f64 f2, .string tx2, vb2, .int .u64 rf2, vl2, vf2, .string c2, .int .i64 vr2] 29)) w3) := below_to HB1.out (below_to HB2.out HB3.out)
    have HD1 : Hid (∀ k, Fr w1 w2 k → w.heap.size + 1 ≤ k) := fun k hk => by have := HZ.out; have := hk.1; omega
    have HD2 : Hid (∀ k, Fr w1 w2 k ∨ Fr (w.alloc (.cells #[.int .i64 t.kind, .bool b2, .int .i64 i2, .float .f64 f2, .string tx2, vb2, .int .u64 rf2, vl2, vf2, .string c2, .int .i64 vr2] 29)) w1 k → w.heap.size + 1 ≤ k) := fun k hk => by
      have := HZ.out
      rcases hk with hk | hk
      · have := hk.1; omega
      · have := hk.1; simp at this; omega
    have HG : Hid (∀ W, Far (fun k => Fr w1 w2 k ∨ Fr (w.alloc (.cells #[.int .i64 t.kind, .bool b2, .int .i64 i2, .float .f64 f2, .string tx2, vb2, .int .u64 rf2, vl2, vf2, .string c2, .int .i64 vr2] 29)) w1 k) w3 W → (W.cell? ⟨w.heap.size, 0, none⟩ = some (.int .i64 t.kind) ∧ W.cell? ⟨w.heap.size, 1, none⟩ = some (.bool b2) ∧ W.cell? ⟨w.heap.size, 2, none⟩ = some (.int .i64 i2) ∧ W.cell? ⟨w.heap.size, 3, none⟩ = some (.float .f64 f2) ∧ W.cell? ⟨w.heap.size, 4, none⟩ = some (.string tx2) ∧ W.cell? ⟨w.heap.size, 5, none⟩ = some (vb2) ∧ W.cell? ⟨w.heap.size, 6, none⟩ = some (.int .u64 rf2) ∧ W.cell? ⟨w.heap.size, 7, none⟩ = some (vl2) ∧ W.cell? ⟨w.heap.size, 8, none⟩ = some (vf2) ∧ W.cell? ⟨w.heap.size, 9, none⟩ = some (.string c2) ∧ W.cell? ⟨w.heap.size, 10, none⟩ = some (.int .i64 vr2)) ∧ Below w.heap.size w W ∧ t.V W (Fr w2 w3) d ∧ Sub (Fr w2 w3) W) := fun W hW => by
      have hz := HZ.out
      have h1 : Below (w.alloc (.cells #[.int .i64 t.kind, .bool b2, .int .i64 i2, .float .f64 f2, .string tx2, vb2, .int .u64 rf2, vl2, vf2, .string c2, .int .i64 vr2] 29)).heap.size (w.alloc (.cells #[.int .i64 t.kind, .bool b2, .int .i64 i2, .float .f64 f2, .string tx2, vb2, .int .u64 rf2, vl2, vf2, .string c2, .int .i64 vr2] 29)) W := hW.below HW3.out (fun k hk => by have := HD2.out k hk; simp; omega)
      refine ⟨(HX.out W h1).1, (HX.out W h1).2, t.V_same (hW.same fun k hk => ⟨hk.2, fun e => ?_⟩) (fun _ h => h) d HDV.out, fun k hk => Nat.lt_of_lt_of_le hk.2 hW.size⟩
      rcases e with e | e
      · have := e.2; have := hk.1; omega
      · have := e.2; have := hk.1; omega
    have HG1 : Hid (∀ W, Far (Fr w1 w2) w3 W → t.V W (Fr (w.alloc (.cells #[.int .i64 t.kind, .bool b2, .int .i64 i2, .float .f64 f2, .string tx2, vb2, .int .u64 rf2, vl2, vf2, .string c2, .int .i64 vr2] 29)) w1) v ∧ Sub (Fr (w.alloc (.cells #[.int .i64 t.kind, .bool b2, .int .i64 i2, .float .f64 f2, .string tx2, vb2, .int .u64 rf2, vl2, vf2, .string c2, .int .i64 vr2] 29)) w1) W) := fun W hW => by
      have hz := HZ.out
      have h2 : Below w1.heap.size w1 w3 := below_to HB2.out HB3.out
      refine ⟨t.V_same (w := w3) (hW.same fun k hk => ⟨by have := hk.2; omega, fun e => by have := e.1; have := hk.2; omega⟩) (fun _ h => h) v (t.V_same (fun k hk => h2.block k hk.2) (fun _ h => h) v HV.out), fun k hk => by have := hk.2; have := hW.size; omega⟩
    have HG2 : Hid (∀ W, Below w3.heap.size w3 W → t.V W (Fr w1 w2) c ∧ Sub (Fr w1 w2) W) := fun W hW => by
      have hz := HZ.out
      have h2 : Below w2.heap.size w2 W := below_to HB3.out hW
      exact ⟨t.V_same (fun k hk => h2.block k hk.2) (fun _ h => h) c HCV.out, fun k hk => by have := hk.2; have := hW.size; omega⟩
    clear HV HCV HDV
    obtain ⟨⟨z0, z1, z2, z3, z4, z5, z6, z7, z8, z9, z10⟩, _⟩ := HG.out w3 (Far.of (Below.refl _ _))
    go_wp2_with fail
    refine (HRC.out _ (HG.out w3 (Far.of (Below.refl _ _))).2.1).mono ?_
    rintro e w4 ⟨rfl, hb4⟩
    have HB4 : Hid (Below w3.heap.size w3 w4) := hb4
    clear hb4 z0 z1 z2 z3 z4 z5 z6 z7 z8 z9 z10
    rw [he]
    obtain ⟨⟨z0, z1, z2, z3, z4, z5, z6, z7, z8, z9, z10⟩, _⟩ := HG.out w4 (Far.of HB4.out)
    go_wp2_with fail
    refine (HIs.out _ c (Fr w1 w2) (HG.out w4 (Far.of HB4.out)).2.1 (HG2.out _ HB4.out).1 (HG2.out _ HB4.out).2 he).mono ?_
    rintro e w5 ⟨rfl, hb5⟩
    have HB5 : Hid (Below w3.heap.size w3 w5) := below_to HB4.out hb5
    clear hb5 z0 z1 z2 z3 z4 z5 z6 z7 z8 z9 z10
    obtain ⟨⟨z0, z1, z2, z3, z4, z5, z6, z7, z8, z9, z10⟩, _⟩ := HG.out w5 (Far.of HB5.out)
    go_wp2_with fail
    refine (HIs.out _ v (Fr (w.alloc (.cells #[.int .i64 t.kind, .bool b2, .int .i64 i2, .float .f64 f2, .string tx2, vb2, .int .u64 rf2, vl2, vf2, .string c2, .int .i64 vr2] 29)) w1) (HG.out w5 (Far.of HB5.out)).2.1 (HG1.out _ (Far.of HB5.out)).1 (HG1.out _ (Far.of HB5.out)).2 he).mono ?_
    rintro e w6 ⟨rfl, hb6⟩
    have HB6 : Hid (Below w3.heap.size w3 w6) := below_to HB5.out hb6
    clear hb6 z0 z1 z2 z3 z4 z5 z6 z7 z8 z9 z10
    go_wp2_with fail
    refine (Spoil_any t c (Fr w1 w2) w6 (HG2.out _ HB6.out).1 (HG2.out _ HB6.out).2 he).mono ?_
    rintro e w7 ⟨rfl, hd7⟩
    have HF7 : Hid (Far (Fr w1 w2) w3 w7) := (Far.of HB6.out).dg hd7 (fun _ h => h)
    clear hd7
    obtain ⟨⟨z0, z1, z2, z3, z4, z5, z6, z7, z8, z9, z10⟩, _⟩ := HG.out w7 (HF7.out.mono fun _ h => .inl h)
    go_wp2_with fail
    refine (HIs.out _ v (Fr (w.alloc (.cells #[.int .i64 t.kind, .bool b2, .int .i64 i2, .float .f64 f2, .string tx2, vb2, .int .u64 rf2, vl2, vf2, .string c2, .int .i64 vr2] 29)) w1) (HG.out w7 (HF7.out.mono fun _ h => .inl h)).2.1 (HG1.out _ HF7.out).1 (HG1.out _ HF7.out).2 he).mono ?_
    rintro e w8 ⟨rfl, hb8⟩
    have HF8 : Hid (Far (Fr w1 w2) w3 w8) := HF7.out.call hb8
    clear hb8 z0 z1 z2 z3 z4 z5 z6 z7 z8 z9 z10
    obtain ⟨⟨z0, z1, z2, z3, z4, z5, z6, z7, z8, z9, z10⟩, _⟩ := HG.out w8 (HF8.out.mono fun _ h => .inl h)
    go_wp2_with fail
    refine (HIs.out _ d (Fr w2 w3) (HG.out w8 (HF8.out.mono fun _ h => .inl h)).2.1 (HG.out w8 (HF8.out.mono fun _ h => .inl h)).2.2.1 (HG.out w8 (HF8.out.mono fun _ h => .inl h)).2.2.2 he).mono ?_
    rintro e w9 ⟨rfl, hb9⟩
    have HF9 : Hid (Far (Fr w1 w2) w3 w9) := HF8.out.call hb9
    clear hb9 z0 z1 z2 z3 z4 z5 z6 z7 z8 z9 z10
    go_wp2_with fail
    refine (Spoil_any t v (Fr (w.alloc (.cells #[.int .i64 t.kind, .bool b2, .int .i64 i2, .float .f64 f2, .string tx2, vb2, .int .u64 rf2, vl2, vf2, .string c2, .int .i64 vr2] 29)) w1) w9 (HG1.out _ HF9.out).1 (HG1.out _ HF9.out).2 he).mono ?_
    rintro e w10 ⟨rfl, hd10⟩
    have HF10 : Hid (Far (fun k => Fr w1 w2 k ∨ Fr (w.alloc (.cells #[.int .i64 t.kind, .bool b2, .int .i64 i2, .float .f64 f2, .string tx2, vb2, .int .u64 rf2, vl2, vf2, .string c2, .int .i64 vr2] 29)) w1 k) w3 w10) := (HF9.out.mono fun _ h => .inl h).dg hd10 (fun _ h => .inr h)
    clear hd10
    obtain ⟨⟨z0, z1, z2, z3, z4, z5, z6, z7, z8, z9, z10⟩, _⟩ := HG.out w10 HF10.out
    go_wp2_with fail
    refine (HIs.out _ d (Fr w2 w3) (HG.out w10 HF10.out).2.1 (HG.out w10 HF10.out).2.2.1 (HG.out w10 HF10.out).2.2.2 he).mono ?_
    rintro e w11 ⟨rfl, hb11⟩
    have HF11 : Hid (Far (fun k => Fr w1 w2 k ∨ Fr (w.alloc (.cells #[.int .i64 t.kind, .bool b2, .int .i64 i2, .float .f64 f2, .string tx2, vb2, .int .u64 rf2, vl2, vf2, .string c2, .int .i64 vr2] 29)) w1 k) w3 w11) := HF10.out.call hb11
    clear hb11
    go_wp2_with fail
    go_ret
    exact ⟨rfl, (HG.out w11 HF11.out).2.1⟩
  · have HC : Hid (∀ W, Below w1.heap.size w1 W → Calls Try.prog 21 #[v] W fun e w' => e = .returned (.tuple #[.nilIface, .int .i64 t.all.e]) ∧ Below W.heap.size W w') := fun W hW => Copy_err t v _ W hW.size (t.V_same (Same.of_below hW (Nat.le_refl _)) (fun _ h => h) v hvl) he
    have he' := ne_bool he
    clear hvl HV
    go_wp2_with fail
    refine (HC.out w1 (Below.refl _ _)).mono ?_
    rintro e w2 ⟨rfl, hb2⟩
    have HB2 : Hid (Below w1.heap.size w1 w2) := hb2
    clear hb2
    go_wp2_with fail
    refine (HC.out w2 HB2.out).mono ?_
    rintro e w3 ⟨rfl, hb3⟩
    have HB3 : Hid (Below (w.alloc (.cells #[.int .i64 t.kind, .bool b2, .int .i64 i2, .float .f64 f2, .string tx2, vb2, .int .u64 rf2, vl2, vf2, .string c2, .int .i64 vr2] 29)).heap.size (w.alloc (.cells #[.int .i64 t.kind, .bool b2, .int .i64 i2, .float .f64 f2, .string tx2, vb2, .int .u64 rf2, vl2, vf2, .string c2, .int .i64 vr2] 29)) w3) := below_to HB1.out (below_to HB2.out hb3)
    clear hb3
    obtain ⟨⟨z0, z1, z2, z3, z4, z5, z6, z7, z8, z9, z10⟩, _⟩ := HX.out w3 HB3.out
    go_wp2_with fail
    refine (HRC.out _ (HX.out w3 HB3.out).2).mono ?_
    rintro e w4 ⟨rfl, hb4⟩
    have HB4 : Hid (Below (w.alloc (.cells #[.int .i64 t.kind, .bool b2, .int .i64 i2, .float .f64 f2, .string tx2, vb2, .int .u64 rf2, vl2, vf2, .string c2, .int .i64 vr2] 29)).heap.size (w.alloc (.cells #[.int .i64 t.kind, .bool b2, .int .i64 i2, .float .f64 f2, .string tx2, vb2, .int .u64 rf2, vl2, vf2, .string c2, .int .i64 vr2] 29)) w4) := below_to HB3.out hb4
    clear hb4 z0 z1 z2 z3 z4 z5 z6 z7 z8 z9 z10
    go_wp2_with fail
    refine (copy_a w4).mono ?_
    rintro e w5 ⟨rfl, hb5⟩
    go_wp2_with fail
    go_ret
    exact ⟨rfl, (HX.out w5 (below_to HB4.out hb5)).2⟩
end Go.Proofs.Ytflcchemkbkinaa
