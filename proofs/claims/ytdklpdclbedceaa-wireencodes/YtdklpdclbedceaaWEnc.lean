/- The Go function tenonlaw03.WireEncodes returns true. -/
import Derived.Test.YtdklpdclbedceaaWEncM
import Derived.Test.YtdklpdclbedceaaBackM
namespace Go.Proofs.Ytdklpdclbedceaa
open Go.RowKit

def tTrue : Tm := .mk 2 true 0 0 ByteArray.empty ByteArray.empty 0 .nil .nil ByteArray.empty 0
theorem tTrue_enc : tTrue.encE.length = 2 := by decide +kernel
theorem tTrue_all : tTrue.all.e = 0 := by decide +kernel
theorem encode_true (W : World) : Calls Try.prog 23 #[.iface 4 (.bool true)] W fun e w' => ∃ a cap, e = .returned (.tuple #[.slice a 2 cap, .int .i64 0]) ∧ Below W.heap.size W w' := by
  refine (Encode_all tTrue _ W.heap.size W (Nat.le_refl _) (by simp [tTrue, Tm.V]) (by simp [tTrue, Tm.Bdd, TmL.Bdd, TmF.Bdd])).mono ?_
  rintro e w' ⟨m, a, cap, rfl, H⟩
  obtain ⟨hm, _, hb⟩ := H.out
  rw [tTrue_enc] at hm
  subst hm
  exact ⟨a, cap, by rw [tTrue_all], hb⟩

set_option maxRecDepth 100000 in
set_option maxHeartbeats 4000000 in
theorem WireEncodes_any (t : Tm) (cs : Array Value) (B : Nat → Prop) (w : World) (h : t.In w B cs) (hB : Sub B w) :
    Calls Try.prog 6 #[.agg cs] w fun e w' => e = .returned (.bool true) ∧ Below w.heap.size w w' := by
  have HSM : Hid (t.Sm ∧ t.Bdd) := ⟨t.In_sm cs h, t.In_bdd cs h⟩
  have HIn : Hid (∀ W, Same (Lo w.heap.size) w W → t.In W (Lo w.heap.size) cs) := fun W hW => t.In_same (fun k hk => hW k (hB k hk)) (fun k hk => hB k hk) cs h
  clear h hB
  obtain ⟨b2, i2, f2, tx2, vb2, rf2, vl2, vf2, c2, vr2, rfl⟩ := Tm.In_box (HIn.out w (Same.refl _ _))
  have HBu : Hid (∀ W, Below w.heap.size w W → Calls Try.prog 11 #[.agg (tcells t.kind b2 i2 f2 tx2 vb2 rf2 vl2 vf2 c2 vr2)] W fun e w' => ∃ v, e = .returned v ∧ Below W.heap.size W w' ∧ t.V w' (Fr W w') v) := fun W hW =>
    built_any t.sz t (Nat.le_refl _) _ (Lo w.heap.size) W (HIn.out W (Same.of_below hW (Nat.le_refl _))) (Sub.lo hW.size)
  have HRE : Hid (∀ W, Below w.heap.size w W → Calls Try.prog 24 #[.agg (tcells t.kind b2 i2 f2 tx2 vb2 rf2 vl2 vf2 c2 vr2)] W (EncE t W)) := fun W hW =>
    refEncode_all t _ (Lo w.heap.size) W (HIn.out W (Same.of_below hW (Nat.le_refl _))) (Sub.lo hW.size)
  have HX : Hid (∀ W, Below (w.alloc (.cells #[.int .i64 t.kind, .bool b2, .int .i64 i2, .float .f64 f2, .string tx2, vb2, .int .u64 rf2, vl2, vf2, .string c2, .int .i64 vr2] 29)).heap.size (w.alloc (.cells #[.int .i64 t.kind, .bool b2, .int .i64 i2, .float .f64 f2, .string tx2, vb2, .int .u64 rf2, vl2, vf2, .string c2, .int .i64 vr2] 29)) W → (W.cell? ⟨w.heap.size, 0, none⟩ = some (.int .i64 t.kind) ∧ W.cell? ⟨w.heap.size, 1, none⟩ = some (.bool b2) ∧ W.cell? ⟨w.heap.size, 2, none⟩ = some (.int .i64 i2) ∧ W.cell? ⟨w.heap.size, 3, none⟩ = some (.float .f64 f2) ∧ W.cell? ⟨w.heap.size, 4, none⟩ = some (.string tx2) ∧ W.cell? ⟨w.heap.size, 5, none⟩ = some (vb2) ∧ W.cell? ⟨w.heap.size, 6, none⟩ = some (.int .u64 rf2) ∧ W.cell? ⟨w.heap.size, 7, none⟩ = some (vl2) ∧ W.cell? ⟨w.heap.size, 8, none⟩ = some (vf2) ∧ W.cell? ⟨w.heap.size, 9, none⟩ = some (.string c2) ∧ W.cell? ⟨w.heap.size, 10, none⟩ = some (.int .i64 vr2)) ∧ Below w.heap.size w W) := fun W hW => ⟨tbox (box_at1 hW).1, (box_at1 hW).2.1⟩
  have HLE : Hid (t.encE.length ≤ 1081344000) := Tm.encE_le HSM.out.2
  unfold tcells at HBu HRE ⊢
  go_enter Try.func6, Try.ntmps6
  go_wp2_with fail
  refine (HBu.out _ (HX.out _ (Below.refl _ _)).2).mono ?_
  rintro e w1 ⟨v, rfl, hb1, hv⟩
  have HB1 : Hid (Below (w.alloc (.cells #[.int .i64 t.kind, .bool b2, .int .i64 i2, .float .f64 f2, .string tx2, vb2, .int .u64 rf2, vl2, vf2, .string c2, .int .i64 vr2] 29)).heap.size (w.alloc (.cells #[.int .i64 t.kind, .bool b2, .int .i64 i2, .float .f64 f2, .string tx2, vb2, .int .u64 rf2, vl2, vf2, .string c2, .int .i64 vr2] 29)) w1) := hb1
  have hvl : t.V w1 (Lo w1.heap.size) v := t.V_same (Same.refl _ _) (fun k hk => hk.2) v hv
  have HV : Hid (∀ W, Below w1.heap.size w1 W → t.V W (Lo w1.heap.size) v) := fun W hW => t.V_same (Same.of_below hW (Nat.le_refl _)) (fun _ h => h) v hvl
  have HEn : Hid (∀ W, Below w1.heap.size w1 W → Calls Try.prog 23 #[v] W (EncE t W)) := fun W hW => Encode_all t v w1.heap.size W hW.size (HV.out W hW) HSM.out.2
  clear hb1 hv hvl
  go_wp2_with fail
  refine (HEn.out _ (Below.refl _ _)).mono ?_
  rintro e w2 ⟨m2, a2, cap2, rfl, H2⟩
  go_wp2_with fail
  refine (HEn.out _ H2.out.2.2).mono ?_
  rintro e w3 ⟨m3, a3, cap3, rfl, H3⟩
  have HB3 : Hid (Below (w.alloc (.cells #[.int .i64 t.kind, .bool b2, .int .i64 i2, .float .f64 f2, .string tx2, vb2, .int .u64 rf2, vl2, vf2, .string c2, .int .i64 vr2] 29)).heap.size (w.alloc (.cells #[.int .i64 t.kind, .bool b2, .int .i64 i2, .float .f64 f2, .string tx2, vb2, .int .u64 rf2, vl2, vf2, .string c2, .int .i64 vr2] 29)) w3) := below_to HB1.out (below_to H2.out.2.2 H3.out.2.2)
  obtain ⟨e0, e1, e2, e3, e4, e5, e6, e7, e8, e9, e10⟩ := (HX.out w3 HB3.out).1
  go_wp2_with fail
  refine (HRE.out _ (HX.out w3 HB3.out).2).mono ?_
  rintro e w4 ⟨m4, a4, cap4, rfl, H4⟩
  clear e0 e1 e2 e3 e4 e5 e6 e7 e8 e9 e10
  have HB4 : Hid (Below (w.alloc (.cells #[.int .i64 t.kind, .bool b2, .int .i64 i2, .float .f64 f2, .string tx2, vb2, .int .u64 rf2, vl2, vf2, .string c2, .int .i64 vr2] 29)).heap.size (w.alloc (.cells #[.int .i64 t.kind, .bool b2, .int .i64 i2, .float .f64 f2, .string tx2, vb2, .int .u64 rf2, vl2, vf2, .string c2, .int .i64 vr2] 29)) w4) := below_to HB3.out H4.out.2.2
  have H24 : Hid (Below w2.heap.size w2 w4) := below_to H3.out.2.2 H4.out.2.2
  have HS1 : Hid (∀ W, Below w4.heap.size w4 W → Calls Try.prog 25 #[.slice a2 m2 cap2, .slice a4 m4 cap4] W fun e w' => e = .returned (.bool true) ∧ Below W.heap.size W w') := fun W hW =>
    wsame_at t.encE a2 a4 cap2 cap4 W m2 m4 H2.out.1 H4.out.1 (by have := HLE.out; omega) (Rd.same (Outs.rd (outs_call H2.out.2.1 H24.out)) hW) (Rd.same (Outs.rd H4.out.2.1) hW)
  have HS2 : Hid (∀ W, Below w4.heap.size w4 W → Calls Try.prog 25 #[.slice a3 m3 cap3, .slice a4 m4 cap4] W fun e w' => e = .returned (.bool true) ∧ Below W.heap.size W w') := fun W hW =>
    wsame_at t.encE a3 a4 cap3 cap4 W m3 m4 H3.out.1 H4.out.1 (by have := HLE.out; omega) (Rd.same (Outs.rd (outs_call H3.out.2.1 H4.out.2.2)) hW) (Rd.same (Outs.rd H4.out.2.1) hW)
  have H14 : Hid (Below w1.heap.size w1 w4) := below_to H2.out.2.2 H24.out
  have HP1 : Hid (∀ W, Below w4.heap.size w4 W → Calls Try.prog 26 #[v] W fun e w' => ∃ k7 b7 i7 f7 tx7 ab7 nb7 cb7 rf7 al7 nl7 cl7 af7 nf7 cf7 c7 vr7, e = .returned (.agg #[.int .i64 k7, .bool b7, .int .i64 i7, .float .f64 f7, .string tx7, .slice ab7 nb7 cb7, .int .u64 rf7, .slice al7 nl7 cl7, .slice af7 nf7 cf7, .string c7, .int .i64 vr7]) ∧ Below W.heap.size W w' ∧ (t.pl 0).In w' (Fr W w') #[.int .i64 k7, .bool b7, .int .i64 i7, .float .f64 f7, .string tx7, .slice ab7 nb7 cb7, .int .u64 rf7, .slice al7 nl7 cl7, .slice af7 nf7 cf7, .string c7, .int .i64 vr7]) := fun W hW => by
    have := gmPlain_any t v W (Lo w1.heap.size) (HV.out W (below_to H14.out hW)) (Sub.lo (Nat.le_trans H14.out.size hW.size)) HSM.out.1
    unfold tcells at this; exact this
  have HP2 : Hid (∀ (W W8 : World) (x : Value), t.V W8 (Fr W W8) x → Calls Try.prog 26 #[x] W8 fun e w' => ∃ k7 b7 i7 f7 tx7 ab7 nb7 cb7 rf7 al7 nl7 cl7 af7 nf7 cf7 c7 vr7, e = .returned (.agg #[.int .i64 k7, .bool b7, .int .i64 i7, .float .f64 f7, .string tx7, .slice ab7 nb7 cb7, .int .u64 rf7, .slice al7 nl7 cl7, .slice af7 nf7 cf7, .string c7, .int .i64 vr7]) ∧ Below W8.heap.size W8 w' ∧ (t.pl 0).In w' (Fr W8 w') #[.int .i64 k7, .bool b7, .int .i64 i7, .float .f64 f7, .string tx7, .slice ab7 nb7 cb7, .int .u64 rf7, .slice al7 nl7 cl7, .slice af7 nf7 cf7, .string c7, .int .i64 vr7]) := fun W W8 x hx => by
    have := gmPlain_any t x W8 (Fr W W8) hx (fun k hk => hk.2) HSM.out.1
    unfold tcells at this; exact this
  have HM : Hid (∀ (r : Bool) (W W7 W9 : World) (S : Nat → Prop) (ca cb : Array Value), (t.pl 0).tame = r → (t.pl 0).In W7 (Fr W W7) ca → Below W7.heap.size W7 W9 → (t.pl 0).In W9 S cb → Sub S W9 → Calls Try.prog 22 #[.agg ca, .agg cb] W9 fun e w' => e = .returned (.bool r) ∧ Below W9.heap.size W9 w') := fun r W W7 W9 S ca cb hr h1 h2 h3 h4 => by
    subst hr
    exact gmsame_any _ _ (Nat.le_refl _) ca cb (Lo W9.heap.size) W9 ((t.pl 0).In_same (fun k hk => h2.block k hk.2) (fun k hk => Nat.lt_of_lt_of_le hk.2 h2.size) ca h1) ((t.pl 0).In_same (Same.refl _ _) h4 cb h3) (Sub.lo (Nat.le_refl _))
  have HXR : Hid (∀ W, Below w4.heap.size w4 W → (W.cell? ⟨w.heap.size, 0, none⟩ = some (.int .i64 t.kind) ∧ W.cell? ⟨w.heap.size, 1, none⟩ = some (.bool b2) ∧ W.cell? ⟨w.heap.size, 2, none⟩ = some (.int .i64 i2) ∧ W.cell? ⟨w.heap.size, 3, none⟩ = some (.float .f64 f2) ∧ W.cell? ⟨w.heap.size, 4, none⟩ = some (.string tx2) ∧ W.cell? ⟨w.heap.size, 5, none⟩ = some (vb2) ∧ W.cell? ⟨w.heap.size, 6, none⟩ = some (.int .u64 rf2) ∧ W.cell? ⟨w.heap.size, 7, none⟩ = some (vl2) ∧ W.cell? ⟨w.heap.size, 8, none⟩ = some (vf2) ∧ W.cell? ⟨w.heap.size, 9, none⟩ = some (.string c2) ∧ W.cell? ⟨w.heap.size, 10, none⟩ = some (.int .i64 vr2))) := fun W hW => (HX.out W (below_to HB4.out hW)).1
  have HT0 : Hid ((t.pl 0).tame = false → (t.all.e == 0) = false) := fun hf => by
    by_cases he : t.all.e = 0
    · have := t.pl_tame 1 0 0 0 he (by decide)
      rw [this] at hf; exact absurd hf (by decide)
    · simp [he]
  have HR4 : Hid (Below w4.heap.size w4 w4 ∧ Below w4.heap.size w4 w4.drew) := ⟨Below.refl _ _, (Below.refl _ _).drew⟩
  clear HRE HEn
  cases hr : (t.pl 0).tame with
  | true =>
    have HRR : Hid ((t.pl 0).tame = true) := hr
    clear hr
    go_wp2_with fail
    refine wp_region_held_drew (S := (fun W => W.cell? ⟨w.heap.size, 0, none⟩ = some (.int .i64 t.kind) ∧ W.cell? ⟨w.heap.size, 1, none⟩ = some (.bool b2) ∧ W.cell? ⟨w.heap.size, 2, none⟩ = some (.int .i64 i2) ∧ W.cell? ⟨w.heap.size, 3, none⟩ = some (.float .f64 f2) ∧ W.cell? ⟨w.heap.size, 4, none⟩ = some (.string tx2) ∧ W.cell? ⟨w.heap.size, 5, none⟩ = some (vb2) ∧ W.cell? ⟨w.heap.size, 6, none⟩ = some (.int .u64 rf2) ∧ W.cell? ⟨w.heap.size, 7, none⟩ = some (vl2) ∧ W.cell? ⟨w.heap.size, 8, none⟩ = some (vf2) ∧ W.cell? ⟨w.heap.size, 9, none⟩ = some (.string c2) ∧ W.cell? ⟨w.heap.size, 10, none⟩ = some (.int .i64 vr2))) (by kernel_rfl) ?_ (fun hHeld => ?_)
    · exact HXR.out _ HR4.out.2
    refine wpAnyH_take (i := 0) (oi := { dst := some 29, op := Go.Op.move (Go.Operand.tmp 5), type := 30, pos := "law.go:60", after := #[], guard := none }) (v := ?_) rfl (by kernel_rfl) (by kernel_rfl) (by kernel_rfl) (fun _ _ _ h => h) (Or.inl ⟨by rfl, ?_⟩) (by assumption) ?_
    rotate_left
    · intro w hSw; (try dsimp only at hSw); go_simp; try (with_reducible rfl)
    simp only [Act.put, List.setIfInBounds_toArray, List.set_cons_zero, List.set_cons_succ]
    refine wpAnyH_take (i := 1) (oi := { dst := some 30, op := Go.Op.move (Go.Operand.tmp 9), type := 30, pos := "law.go:60", after := #[], guard := none }) (v := ?_) rfl (by kernel_rfl) (by kernel_rfl) (by kernel_rfl) (fun _ _ _ h => h) (Or.inl ⟨by rfl, ?_⟩) (by assumption) ?_
    rotate_left
    · intro w hSw; (try dsimp only at hSw); go_simp; try (with_reducible rfl)
    simp only [Act.put, List.setIfInBounds_toArray, List.set_cons_zero, List.set_cons_succ]
    refine wpAnyH_take (i := 2) (oi := { dst := some 31, op := Go.Op.binOp Go.BinOp.neq 30 (Go.Operand.tmp 29) (Go.Operand.tmp 30) 30, type := 4, pos := "law.go:60", after := #[{ on := 0, ground := Go.Ground.data }, { on := 1, ground := Go.Ground.data }], guard := none }) (v := ?_) rfl (by kernel_rfl) (by kernel_rfl) (by kernel_rfl) (fun _ _ _ h => h) (Or.inl ⟨by rfl, ?_⟩) (by assumption) ?_
    rotate_left
    · intro w hSw; (try dsimp only at hSw); go_simp; try (with_reducible rfl)
    simp only [Act.put, List.setIfInBounds_toArray, List.set_cons_zero, List.set_cons_succ]
    refine wpAnyH_take (i := 3) (oi := { dst := some 32, op := Go.Op.move (Go.Operand.tmp 31), type := 4, pos := "law.go:60", after := #[{ on := 2, ground := Go.Ground.data }], guard := none }) (v := ?_) rfl (by kernel_rfl) (by kernel_rfl) (by kernel_rfl) (fun _ _ _ h => h) (Or.inl ⟨by rfl, ?_⟩) (by assumption) ?_
    rotate_left
    · intro w hSw; (try dsimp only at hSw); go_simp; try (with_reducible rfl)
    simp only [Act.put, List.setIfInBounds_toArray, List.set_cons_zero, List.set_cons_succ]
    refine wpAnyH_take (i := 4) (oi := { dst := some 33, op := Go.Op.move (Go.Operand.tmp 4), type := 23, pos := "law.go:60", after := #[{ on := 3, ground := Go.Ground.guard }], guard := some (3, false) }) (v := ?_) rfl (by kernel_rfl) (by kernel_rfl) (by kernel_rfl) (fun _ _ _ h => h) (Or.inl ⟨by rfl, ?_⟩) (by assumption) ?_
    rotate_left
    · intro w hSw; (try dsimp only at hSw); go_simp; try (with_reducible rfl)
    simp only [Act.put, List.setIfInBounds_toArray, List.set_cons_zero, List.set_cons_succ]
    refine wpAnyH_take (i := 5) (oi := { dst := some 34, op := Go.Op.move (Go.Operand.tmp 8), type := 23, pos := "law.go:60", after := #[{ on := 3, ground := Go.Ground.guard }], guard := some (3, false) }) (v := ?_) rfl (by kernel_rfl) (by kernel_rfl) (by kernel_rfl) (fun _ _ _ h => h) (Or.inl ⟨by rfl, ?_⟩) (by assumption) ?_
    rotate_left
    · intro w hSw; (try dsimp only at hSw); go_simp; try (with_reducible rfl)
    simp only [Act.put, List.setIfInBounds_toArray, List.set_cons_zero, List.set_cons_succ]
    refine wpAnyH_ready (rs := [6]) (by kernel_rfl) (by simp) ?_
    refine AllReadyH.cons (o := { dst := some 35, op := Go.Op.call { callee := Go.Callee.value (Go.Operand.func 25), args := #[Go.Operand.tmp 33, Go.Operand.tmp 34], argTypes := #[23, 23] }, type := 4, pos := "law.go:60", after := #[{ on := 4, ground := Go.Ground.data }, { on := 5, ground := Go.Ground.data }, { on := 3, ground := Go.Ground.chain }, { on := 3, ground := Go.Ground.guard }], guard := some (3, false) }) rfl (fun K hK => ?_) AllReadyH.nil
    go_simp
    refine (HS1.out _ HR4.out.2).mono ?_; rintro e w5 ⟨rfl, hb5⟩; have HB5 : Hid (Below w4.heap.size w4 w5) := below_to HR4.out.2 hb5; clear hb5
    go_wp2_with fail
    refine hK.out _ _ ?_ (fun hHeld => ?_)
    · exact HXR.out w5 HB5.out
    clear hK K
    refine wpAnyH_take (i := 7) (oi := { dst := some 36, op := Go.Op.unOp Go.UnOp.not 4 (Go.Operand.tmp 35), type := 4, pos := "law.go:60", after := #[{ on := 6, ground := Go.Ground.data }, { on := 3, ground := Go.Ground.guard }], guard := some (3, false) }) (v := ?_) rfl (by kernel_rfl) (by kernel_rfl) (by kernel_rfl) (fun _ _ _ h => h) (Or.inl ⟨by rfl, ?_⟩) (by assumption) ?_
    rotate_left
    · intro w hSw; (try dsimp only at hSw); go_simp; try (with_reducible rfl)
    simp only [Act.put, List.setIfInBounds_toArray, List.set_cons_zero, List.set_cons_succ]
    refine wpAnyH_take (i := 8) (oi := { dst := some 37, op := Go.Op.pick (Go.Operand.tmp 32) (Go.Operand.const (Go.Value.bool true)) (Go.Operand.tmp 36), type := 4, pos := "law.go:60", after := #[{ on := 3, ground := Go.Ground.data }, { on := 7, ground := Go.Ground.data }], guard := none }) (v := ?_) rfl (by kernel_rfl) (by kernel_rfl) (by kernel_rfl) (fun _ _ _ h => h) (Or.inl ⟨by rfl, ?_⟩) (by assumption) ?_
    rotate_left
    · intro w hSw; (try dsimp only at hSw); go_simp; try (with_reducible rfl)
    simp only [Act.put, List.setIfInBounds_toArray, List.set_cons_zero, List.set_cons_succ]
    refine wpAnyH_take (i := 9) (oi := { dst := some 38, op := Go.Op.move (Go.Operand.tmp 37), type := 4, pos := "law.go:60", after := #[{ on := 8, ground := Go.Ground.data }, { on := 6, ground := Go.Ground.chain }], guard := none }) (v := ?_) rfl (by kernel_rfl) (by kernel_rfl) (by kernel_rfl) (fun _ _ _ h => h) (Or.inl ⟨by rfl, ?_⟩) (by assumption) ?_
    rotate_left
    · intro w hSw; (try dsimp only at hSw); go_simp; try (with_reducible rfl)
    simp only [Act.put, List.setIfInBounds_toArray, List.set_cons_zero, List.set_cons_succ]
    refine wpAnyH_take (i := 10) (oi := { dst := some 39, op := Go.Op.move (Go.Operand.tmp 6), type := 23, pos := "law.go:60", after := #[{ on := 9, ground := Go.Ground.guard }], guard := some (9, false) }) (v := ?_) rfl (by kernel_rfl) (by kernel_rfl) (by kernel_rfl) (fun _ _ _ h => h) (Or.inl ⟨by rfl, ?_⟩) (by assumption) ?_
    rotate_left
    · intro w hSw; (try dsimp only at hSw); go_simp; try (with_reducible rfl)
    simp only [Act.put, List.setIfInBounds_toArray, List.set_cons_zero, List.set_cons_succ]
    refine wpAnyH_take (i := 11) (oi := { dst := some 40, op := Go.Op.move (Go.Operand.tmp 8), type := 23, pos := "law.go:60", after := #[{ on := 9, ground := Go.Ground.guard }], guard := some (9, false) }) (v := ?_) rfl (by kernel_rfl) (by kernel_rfl) (by kernel_rfl) (fun _ _ _ h => h) (Or.inl ⟨by rfl, ?_⟩) (by assumption) ?_
    rotate_left
    · intro w hSw; (try dsimp only at hSw); go_simp; try (with_reducible rfl)
    simp only [Act.put, List.setIfInBounds_toArray, List.set_cons_zero, List.set_cons_succ]
    refine wpAnyH_ready (rs := [12]) (by kernel_rfl) (by simp) ?_
    refine AllReadyH.cons (o := { dst := some 41, op := Go.Op.call { callee := Go.Callee.value (Go.Operand.func 25), args := #[Go.Operand.tmp 39, Go.Operand.tmp 40], argTypes := #[23, 23] }, type := 4, pos := "law.go:60", after := #[{ on := 10, ground := Go.Ground.data }, { on := 11, ground := Go.Ground.data }, { on := 9, ground := Go.Ground.chain }, { on := 9, ground := Go.Ground.guard }], guard := some (9, false) }) rfl (fun K hK => ?_) AllReadyH.nil
    go_simp
    have hq5 := HB5.out; refine (HS2.out _ hq5).mono ?_; clear hq5; rintro e w6 ⟨rfl, hb6⟩; have HB6 : Hid (Below w4.heap.size w4 w6) := below_to HB5.out hb6; clear hb6
    go_wp2_with fail
    refine hK.out _ _ ?_ (fun hHeld => ?_)
    · exact HXR.out w6 HB6.out
    clear hK K
    refine wpAnyH_take (i := 13) (oi := { dst := some 42, op := Go.Op.unOp Go.UnOp.not 4 (Go.Operand.tmp 41), type := 4, pos := "law.go:60", after := #[{ on := 12, ground := Go.Ground.data }, { on := 9, ground := Go.Ground.guard }], guard := some (9, false) }) (v := ?_) rfl (by kernel_rfl) (by kernel_rfl) (by kernel_rfl) (fun _ _ _ h => h) (Or.inl ⟨by rfl, ?_⟩) (by assumption) ?_
    rotate_left
    · intro w hSw; (try dsimp only at hSw); go_simp; try (with_reducible rfl)
    simp only [Act.put, List.setIfInBounds_toArray, List.set_cons_zero, List.set_cons_succ]
    refine wpAnyH_take (i := 14) (oi := { dst := some 43, op := Go.Op.pick (Go.Operand.tmp 38) (Go.Operand.const (Go.Value.bool true)) (Go.Operand.tmp 42), type := 4, pos := "law.go:60", after := #[{ on := 9, ground := Go.Ground.data }, { on := 13, ground := Go.Ground.data }], guard := none }) (v := ?_) rfl (by kernel_rfl) (by kernel_rfl) (by kernel_rfl) (fun _ _ _ h => h) (Or.inl ⟨by rfl, ?_⟩) (by assumption) ?_
    rotate_left
    · intro w hSw; (try dsimp only at hSw); go_simp; try (with_reducible rfl)
    simp only [Act.put, List.setIfInBounds_toArray, List.set_cons_zero, List.set_cons_succ]
    refine wpAnyH_take (i := 15) (oi := { dst := some 44, op := Go.Op.move (Go.Operand.tmp 43), type := 4, pos := "law.go:60", after := #[{ on := 14, ground := Go.Ground.data }, { on := 12, ground := Go.Ground.chain }], guard := none }) (v := ?_) rfl (by kernel_rfl) (by kernel_rfl) (by kernel_rfl) (fun _ _ _ h => h) (Or.inl ⟨by rfl, ?_⟩) (by assumption) ?_
    rotate_left
    · intro w hSw; (try dsimp only at hSw); go_simp; try (with_reducible rfl)
    simp only [Act.put, List.setIfInBounds_toArray, List.set_cons_zero, List.set_cons_succ]
    refine wpAnyH_take (i := 16) (oi := { dst := some 45, op := Go.Op.move (Go.Operand.tmp 3), type := 20, pos := "law.go:60", after := #[{ on := 15, ground := Go.Ground.guard }], guard := some (15, false) }) (v := ?_) rfl (by kernel_rfl) (by kernel_rfl) (by kernel_rfl) (fun _ _ _ h => h) (Or.inl ⟨by rfl, ?_⟩) (by assumption) ?_
    rotate_left
    · intro w hSw; (try dsimp only at hSw); go_simp; try (with_reducible rfl)
    simp only [Act.put, List.setIfInBounds_toArray, List.set_cons_zero, List.set_cons_succ]
    refine wpAnyH_take (i := 18) (oi := { dst := some 47, op := Go.Op.load 29 (Go.Operand.tmp 1), type := 29, pos := "law.go:60", after := #[{ on := 15, ground := Go.Ground.guard }], guard := some (15, false) }) (v := ?_) rfl (by kernel_rfl) (by kernel_rfl) (by kernel_rfl) (fun _ _ _ h => h) (Or.inl ⟨by rfl, ?_⟩) (by assumption) ?_
    rotate_left
    · intro w hSw; (try dsimp only at hSw); go_simp; try (with_reducible rfl)
    simp only [Act.put, List.setIfInBounds_toArray, List.set_cons_zero, List.set_cons_succ]
    refine wpAnyH_ready (rs := [17]) (by kernel_rfl) (by simp) ?_
    refine AllReadyH.cons (o := { dst := some 46, op := Go.Op.call { callee := Go.Callee.value (Go.Operand.func 26), args := #[Go.Operand.tmp 45], argTypes := #[20] }, type := 29, pos := "law.go:60", after := #[{ on := 16, ground := Go.Ground.data }, { on := 15, ground := Go.Ground.chain }, { on := 15, ground := Go.Ground.guard }], guard := some (15, false) }) rfl (fun K hK => ?_) AllReadyH.nil
    go_simp
    refine (HP1.out _ HB6.out).mono ?_; rintro e w7 ⟨k7, b7, i7, f7, tx7, ab7, nb7, cb7, rf7, al7, nl7, cl7, af7, nf7, cf7, c7, vr7, rfl, hb7, hv7⟩; have HB7 : Hid (Below w4.heap.size w4 w7) := below_to HB6.out hb7; have HV7 : Hid ((t.pl 0).In w7 (Fr w6 w7) #[.int .i64 k7, .bool b7, .int .i64 i7, .float .f64 f7, .string tx7, .slice ab7 nb7 cb7, .int .u64 rf7, .slice al7 nl7 cl7, .slice af7 nf7 cf7, .string c7, .int .i64 vr7]) := hv7; clear hb7 hv7
    go_wp2_with fail
    refine hK.out _ _ ?_ (fun hHeld => ?_)
    · exact HXR.out w7 HB7.out
    clear hK K
    refine wpAnyH_ready (rs := [19]) (by kernel_rfl) (by simp) ?_
    refine AllReadyH.cons (o := { dst := some 48, op := Go.Op.call { callee := Go.Callee.value (Go.Operand.func 11), args := #[Go.Operand.tmp 47], argTypes := #[29] }, type := 20, pos := "law.go:60", after := #[{ on := 18, ground := Go.Ground.data }, { on := 17, ground := Go.Ground.chain }, { on := 15, ground := Go.Ground.guard }], guard := some (15, false) }) rfl (fun K hK => ?_) AllReadyH.nil
    go_simp
    refine (HBu.out _ ?_).mono ?_; exact (HX.out _ (below_to HB4.out HB7.out)).2; rintro e w8 ⟨v8, rfl, hb8, hv8⟩; have HB78 : Hid (Below w7.heap.size w7 w8) := hb8; have HB8 : Hid (Below w4.heap.size w4 w8) := below_to HB7.out hb8; have HV8 : Hid (t.V w8 (Fr w7 w8) v8) := hv8; clear hb8 hv8
    go_wp2_with fail
    refine hK.out _ _ ?_ (fun hHeld => ?_)
    · exact HXR.out w8 HB8.out
    clear hK K
    refine wpAnyH_ready (rs := [20]) (by kernel_rfl) (by simp) ?_
    refine AllReadyH.cons (o := { dst := some 49, op := Go.Op.call { callee := Go.Callee.value (Go.Operand.func 26), args := #[Go.Operand.tmp 48], argTypes := #[20] }, type := 29, pos := "law.go:60", after := #[{ on := 19, ground := Go.Ground.data }, { on := 19, ground := Go.Ground.chain }, { on := 15, ground := Go.Ground.guard }], guard := some (15, false) }) rfl (fun K hK => ?_) AllReadyH.nil
    go_simp
    have hq8 := HV8.out; refine (HP2.out _ _ _ hq8).mono ?_; clear hq8; rintro e w9 ⟨k9, b9, i9, f9, tx9, ab9, nb9, cb9, rf9, al9, nl9, cl9, af9, nf9, cf9, c9, vr9, rfl, hb9, hv9⟩; have HB79 : Hid (Below w7.heap.size w7 w9) := below_to HB78.out hb9; have HB9 : Hid (Below w4.heap.size w4 w9) := below_to HB8.out hb9; have HV9 : Hid ((t.pl 0).In w9 (Fr w8 w9) #[.int .i64 k9, .bool b9, .int .i64 i9, .float .f64 f9, .string tx9, .slice ab9 nb9 cb9, .int .u64 rf9, .slice al9 nl9 cl9, .slice af9 nf9 cf9, .string c9, .int .i64 vr9]) := hv9; clear hb9 hv9
    go_wp2_with fail
    refine hK.out _ _ ?_ (fun hHeld => ?_)
    · exact HXR.out w9 HB9.out
    clear hK K
    refine wpAnyH_ready (rs := [21]) (by kernel_rfl) (by simp) ?_
    refine AllReadyH.cons (o := { dst := some 50, op := Go.Op.call { callee := Go.Callee.value (Go.Operand.func 22), args := #[Go.Operand.tmp 46, Go.Operand.tmp 49], argTypes := #[29, 29] }, type := 4, pos := "law.go:60", after := #[{ on := 17, ground := Go.Ground.data }, { on := 20, ground := Go.Ground.data }, { on := 20, ground := Go.Ground.chain }, { on := 15, ground := Go.Ground.guard }], guard := some (15, false) }) rfl (fun K hK => ?_) AllReadyH.nil
    go_simp
    refine (HM.out true _ _ _ _ _ _ HRR.out HV7.out HB79.out HV9.out (fun k hk => hk.2)).mono ?_; rintro e w10 ⟨rfl, hb10⟩; have HB10 : Hid (Below w4.heap.size w4 w10) := below_to HB9.out hb10; clear hb10
    go_wp2_with fail
    refine hK.out _ _ ?_ (fun hHeld => ?_)
    · exact HXR.out w10 HB10.out
    clear hK K
    refine wpAnyH_take (i := 22) (oi := { dst := some 51, op := Go.Op.unOp Go.UnOp.not 4 (Go.Operand.tmp 50), type := 4, pos := "law.go:60", after := #[{ on := 21, ground := Go.Ground.data }, { on := 15, ground := Go.Ground.guard }], guard := some (15, false) }) (v := ?_) rfl (by kernel_rfl) (by kernel_rfl) (by kernel_rfl) (fun _ _ _ h => h) (Or.inl ⟨by rfl, ?_⟩) (by assumption) ?_
    rotate_left
    · intro w hSw; (try dsimp only at hSw); go_simp; try (with_reducible rfl)
    simp only [Act.put, List.setIfInBounds_toArray, List.set_cons_zero, List.set_cons_succ]
    refine wpAnyH_take (i := 23) (oi := { dst := some 52, op := Go.Op.move (Go.Operand.tmp 51), type := 4, pos := "law.go:60", after := #[{ on := 22, ground := Go.Ground.data }, { on := 21, ground := Go.Ground.chain }, { on := 15, ground := Go.Ground.guard }], guard := some (15, false) }) (v := ?_) rfl (by kernel_rfl) (by kernel_rfl) (by kernel_rfl) (fun _ _ _ h => h) (Or.inl ⟨by rfl, ?_⟩) (by assumption) ?_
    rotate_left
    · intro w hSw; (try dsimp only at hSw); go_simp; try (with_reducible rfl)
    simp only [Act.put, List.setIfInBounds_toArray, List.set_cons_zero, List.set_cons_succ]
    refine wpAnyH_take (i := 24) (oi := { dst := some 53, op := Go.Op.move (Go.Operand.tmp 9), type := 30, pos := "law.go:60", after := #[{ on := 23, ground := Go.Ground.guard }], guard := some (23, true) }) (v := _) rfl (by kernel_rfl) (by kernel_rfl) (by kernel_rfl) (fun _ _ _ h => h) (Or.inr ⟨by rfl, rfl⟩) (by assumption) ?_
    simp only [Act.put, List.setIfInBounds_toArray, List.set_cons_zero, List.set_cons_succ]
    refine wpAnyH_take (i := 25) (oi := { dst := some 54, op := Go.Op.binOp Go.BinOp.eql 30 (Go.Operand.tmp 53) (Go.Operand.const (Go.Value.int Go.IntKind.i64 0)) 30, type := 4, pos := "law.go:60", after := #[{ on := 24, ground := Go.Ground.data }, { on := 23, ground := Go.Ground.guard }], guard := some (23, true) }) (v := _) rfl (by kernel_rfl) (by kernel_rfl) (by kernel_rfl) (fun _ _ _ h => h) (Or.inr ⟨by rfl, rfl⟩) (by assumption) ?_
    simp only [Act.put, List.setIfInBounds_toArray, List.set_cons_zero, List.set_cons_succ]
    refine wpAnyH_take (i := 26) (oi := { dst := some 55, op := Go.Op.pick (Go.Operand.tmp 52) (Go.Operand.tmp 54) (Go.Operand.const (Go.Value.bool false)), type := 4, pos := "law.go:60", after := #[{ on := 23, ground := Go.Ground.data }, { on := 25, ground := Go.Ground.data }, { on := 15, ground := Go.Ground.guard }], guard := some (15, false) }) (v := ?_) rfl (by kernel_rfl) (by kernel_rfl) (by kernel_rfl) (fun _ _ _ h => h) (Or.inl ⟨by rfl, ?_⟩) (by assumption) ?_
    rotate_left
    · intro w hSw; (try dsimp only at hSw); go_simp; try (with_reducible rfl)
    simp only [Act.put, List.setIfInBounds_toArray, List.set_cons_zero, List.set_cons_succ]
    refine wpAnyH_take (i := 27) (oi := { dst := some 56, op := Go.Op.pick (Go.Operand.tmp 44) (Go.Operand.const (Go.Value.bool true)) (Go.Operand.tmp 55), type := 4, pos := "law.go:60", after := #[{ on := 15, ground := Go.Ground.data }, { on := 26, ground := Go.Ground.data }], guard := none }) (v := ?_) rfl (by kernel_rfl) (by kernel_rfl) (by kernel_rfl) (fun _ _ _ h => h) (Or.inl ⟨by rfl, ?_⟩) (by assumption) ?_
    rotate_left
    · intro w hSw; (try dsimp only at hSw); go_simp; try (with_reducible rfl)
    simp only [Act.put, List.setIfInBounds_toArray, List.set_cons_zero, List.set_cons_succ]
    refine wpAnyH_done (by kernel_rfl) ?_ _
    have HB24 : Hid (Below w2.heap.size w2 w10) := below_to H24.out HB10.out
    go_wp2_with fail
    refine (full_at t.encE a2 cap2 w1.heap.size _ w10 m2 H2.out.1 (by have := HLE.out; omega) (outs_call H2.out.2.1 HB24.out)).mono ?_
    rintro e w11 ⟨rfl, a11, hg11⟩
    have HG11 : Hid (Gr w1.heap.size a2 a11 w10 w11) := hg11
    have HS3 : Hid (∀ W, Below w11.heap.size w11 W → Calls Try.prog 25 #[.slice a3 m3 cap3, .slice a4 m4 cap4] W fun e w' => e = .returned (.bool true) ∧ Below W.heap.size W w') := fun W hW => by
      have hlt2 : ∀ k, a2.map Addr.block = some k → k < w2.heap.size := fun k e => (outs_lt H2.out.2.1 k e).2
      refine wsame_at t.encE a3 a4 cap3 cap4 W m3 m4 H3.out.1 H4.out.1 (by have := HLE.out; omega) (Rd.same (Rd.gr (Outs.rd (outs_call H3.out.2.1 (below_to H4.out.2.2 HB10.out))) HG11.out ?_) hW) (Rd.same (Rd.gr (Outs.rd (outs_call H4.out.2.1 HB10.out)) HG11.out ?_) hW)
      · intro k e e'
        have := hlt2 k e
        have := (outs_lt H3.out.2.1 k e').1
        omega
      · intro k e e'
        have := hlt2 k e
        have := (outs_lt H4.out.2.1 k e').1
        have := H3.out.2.2.size
        omega
    have HBF : Hid (Below w.heap.size w w11) := by
      have h1 := (HX.out w10 (below_to HB4.out HB10.out)).2
      have h2 := HB1.out.size
      simp at h2
      exact h1.trans (HG11.out.1.mono (by omega))
    clear hg11
    go_wp2_with fail
    refine (encode_true _).mono ?_
    rintro e w12 ⟨a12, cap12, rfl, hb12⟩
    have HB12 : Hid (Below w11.heap.size w11 w12) := hb12
    clear hb12
    go_wp2_with fail
    refine (HS3.out _ HB12.out).mono ?_
    rintro e w13 ⟨rfl, hb13⟩
    have HB13 : Hid (Below w12.heap.size w12 w13) := hb13
    clear hb13
    go_wp2_with fail
    go_ret
    exact ⟨rfl, HBF.out.trans ((below_to HB12.out HB13.out).mono HBF.out.size)⟩
  | false =>
    have HRR : Hid ((t.pl 0).tame = false) := hr
    have hef := HT0.out hr
    clear hr
    go_wp2_with fail
    go_region_held3 (fun W => W.cell? ⟨w.heap.size, 0, none⟩ = some (.int .i64 t.kind) ∧ W.cell? ⟨w.heap.size, 1, none⟩ = some (.bool b2) ∧ W.cell? ⟨w.heap.size, 2, none⟩ = some (.int .i64 i2) ∧ W.cell? ⟨w.heap.size, 3, none⟩ = some (.float .f64 f2) ∧ W.cell? ⟨w.heap.size, 4, none⟩ = some (.string tx2) ∧ W.cell? ⟨w.heap.size, 5, none⟩ = some (vb2) ∧ W.cell? ⟨w.heap.size, 6, none⟩ = some (.int .u64 rf2) ∧ W.cell? ⟨w.heap.size, 7, none⟩ = some (vl2) ∧ W.cell? ⟨w.heap.size, 8, none⟩ = some (vf2) ∧ W.cell? ⟨w.heap.size, 9, none⟩ = some (.string c2) ∧ W.cell? ⟨w.heap.size, 10, none⟩ = some (.int .i64 vr2))
      (first | with_reducible exact HXR.out _ HR4.out.1 | with_reducible exact HXR.out _ HR4.out.2 | with_reducible exact HXR.out w5 HB5.out | with_reducible exact HXR.out w6 HB6.out | with_reducible exact HXR.out w7 HB7.out | with_reducible exact HXR.out w8 HB8.out | with_reducible exact HXR.out w9 HB9.out | with_reducible exact HXR.out w10 HB10.out | (show False))
      ((first
        | (go_at_call 25; have hq5 := HB5.out; refine (HS2.out _ hq5).mono ?_; clear hq5; rintro e w6 ⟨rfl, hb6⟩; have HB6 : Hid (Below w4.heap.size w4 w6) := below_to HB5.out hb6; clear hb6)
        | (go_at_call 25; refine (HS1.out _ HR4.out.2).mono ?_; rintro e w5 ⟨rfl, hb5⟩; have HB5 : Hid (Below w4.heap.size w4 w5) := below_to HR4.out.2 hb5; clear hb5)
        | (go_at_call 26; have hq8 := HV8.out; refine (HP2.out _ _ _ hq8).mono ?_; clear hq8; rintro e w9 ⟨k9, b9, i9, f9, tx9, ab9, nb9, cb9, rf9, al9, nl9, cl9, af9, nf9, cf9, c9, vr9, rfl, hb9, hv9⟩; have HB79 : Hid (Below w7.heap.size w7 w9) := below_to HB78.out hb9; have HB9 : Hid (Below w4.heap.size w4 w9) := below_to HB8.out hb9; have HV9 : Hid ((t.pl 0).In w9 (Fr w8 w9) #[.int .i64 k9, .bool b9, .int .i64 i9, .float .f64 f9, .string tx9, .slice ab9 nb9 cb9, .int .u64 rf9, .slice al9 nl9 cl9, .slice af9 nf9 cf9, .string c9, .int .i64 vr9]) := hv9; clear hb9 hv9)
        | (go_at_call 26; refine (HP1.out _ HB6.out).mono ?_; rintro e w7 ⟨k7, b7, i7, f7, tx7, ab7, nb7, cb7, rf7, al7, nl7, cl7, af7, nf7, cf7, c7, vr7, rfl, hb7, hv7⟩; have HB7 : Hid (Below w4.heap.size w4 w7) := below_to HB6.out hb7; have HV7 : Hid ((t.pl 0).In w7 (Fr w6 w7) #[.int .i64 k7, .bool b7, .int .i64 i7, .float .f64 f7, .string tx7, .slice ab7 nb7 cb7, .int .u64 rf7, .slice al7 nl7 cl7, .slice af7 nf7 cf7, .string c7, .int .i64 vr7]) := hv7; clear hb7 hv7)
        | (go_at_call 11; refine (HBu.out _ ?_).mono ?_; exact (HX.out _ (below_to HB4.out HB7.out)).2; rintro e w8 ⟨v8, rfl, hb8, hv8⟩; have HB78 : Hid (Below w7.heap.size w7 w8) := hb8; have HB8 : Hid (Below w4.heap.size w4 w8) := below_to HB7.out hb8; have HV8 : Hid (t.V w8 (Fr w7 w8) v8) := hv8; clear hb8 hv8)
        | (go_at_call 22; refine (HM.out false _ _ _ _ _ _ HRR.out HV7.out HB79.out HV9.out (fun k hk => hk.2)).mono ?_; rintro e w10 ⟨rfl, hb10⟩; have HB10 : Hid (Below w4.heap.size w4 w10) := below_to HB9.out hb10; clear hb10)))
    have HB24 : Hid (Below w2.heap.size w2 w10) := below_to H24.out HB10.out
    go_wp2_with fail
    refine (full_at t.encE a2 cap2 w1.heap.size _ w10 m2 H2.out.1 (by have := HLE.out; omega) (outs_call H2.out.2.1 HB24.out)).mono ?_
    rintro e w11 ⟨rfl, a11, hg11⟩
    have HG11 : Hid (Gr w1.heap.size a2 a11 w10 w11) := hg11
    have HS3 : Hid (∀ W, Below w11.heap.size w11 W → Calls Try.prog 25 #[.slice a3 m3 cap3, .slice a4 m4 cap4] W fun e w' => e = .returned (.bool true) ∧ Below W.heap.size W w') := fun W hW => by
      have hlt2 : ∀ k, a2.map Addr.block = some k → k < w2.heap.size := fun k e => (outs_lt H2.out.2.1 k e).2
      refine wsame_at t.encE a3 a4 cap3 cap4 W m3 m4 H3.out.1 H4.out.1 (by have := HLE.out; omega) (Rd.same (Rd.gr (Outs.rd (outs_call H3.out.2.1 (below_to H4.out.2.2 HB10.out))) HG11.out ?_) hW) (Rd.same (Rd.gr (Outs.rd (outs_call H4.out.2.1 HB10.out)) HG11.out ?_) hW)
      · intro k e e'
        have := hlt2 k e
        have := (outs_lt H3.out.2.1 k e').1
        omega
      · intro k e e'
        have := hlt2 k e
        have := (outs_lt H4.out.2.1 k e').1
        have := H3.out.2.2.size
        omega
    have HBF : Hid (Below w.heap.size w w11) := by
      have h1 := (HX.out w10 (below_to HB4.out HB10.out)).2
      have h2 := HB1.out.size
      simp at h2
      exact h1.trans (HG11.out.1.mono (by omega))
    clear hg11
    go_wp2_with fail
    refine (encode_true _).mono ?_
    rintro e w12 ⟨a12, cap12, rfl, hb12⟩
    have HB12 : Hid (Below w11.heap.size w11 w12) := hb12
    clear hb12
    go_wp2_with fail
    refine (HS3.out _ HB12.out).mono ?_
    rintro e w13 ⟨rfl, hb13⟩
    have HB13 : Hid (Below w12.heap.size w12 w13) := hb13
    clear hb13
    go_wp2_with fail
    go_ret
    exact ⟨rfl, HBF.out.trans ((below_to HB12.out HB13.out).mono HBF.out.size)⟩
end Go.Proofs.Ytdklpdclbedceaa
