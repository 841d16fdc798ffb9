/- The Go function tenonlaw05.DigestLast returns true. -/
import Derived.Test.YtadcbhdhgobknaaL38
import Derived.Test.YtadcbhdhgobknaaL39
import Derived.Deep.RegionHeld3
namespace Go.Proofs.Ytadcbhdhgobknaa
open Go.RowKit

theorem Tm.In_boxS {w : World} {B : Nat → Prop} {t : Tm} {cs : Array Value} (h : t.In w B cs) : ∃ b i f x ab nb cb r al nl cl af nf cf c v, cs = tcells t.kind b i f x (.slice ab nb cb) r (.slice al nl cl) (.slice af nf cf) c v := by
  cases t with
  | mk k b i f tx by' rf l fs c vr =>
    simp only [Tm.In] at h
    obtain ⟨ab, cb, al, cl, af, cf, e, _⟩ := h
    exact ⟨b, i, f, tx, ab, by'.size, cb, rf, al, l.len, cl, af, fs.len, cf, c, vr, e⟩
theorem cutW {α : Sort _} {P : α → Prop} (W : α) (F : α → Prop) (h : F W) (g : ∀ W', F W' → P W') : P W := g W h
/-- the world behind the first lines: three terms in boxes, and an empty Map -/
structure W5 (w W : World) (fb lb mb : Nat) (K F L : Array Value) : Prop where
  k : W.heap[w.heap.size]? = some (.cells K 29 (0, 0))
  f : W.heap[fb]? = some (.cells F 29 (0, 0))
  l : W.heap[lb]? = some (.cells L 29 (0, 0))
  m : W.heap[mb]? = some (.cells #[.map none] 68 (0, 0))
  bel : Below w.heap.size w W
  kb : w.heap.size < mb
  fb : fb < mb
  lb : lb < mb
theorem five_at (w : World) (K P X Y : Array Value) (T : TypeId) (W : World) (hW : W = (((((w.alloc (.cells K 29 (0, 0))).alloc (.cells P T (0, 0))).alloc (.cells X 29 (0, 0))).alloc (.cells Y 29 (0, 0))).alloc (.cells #[.map none] 68 (0, 0))).drew) :
    W.heap[w.heap.size]? = some (.cells K 29 (0, 0)) ∧ W.heap[w.heap.size + 1 + 1]? = some (.cells X 29 (0, 0)) ∧ W.heap[w.heap.size + 1 + 1 + 1]? = some (.cells Y 29 (0, 0)) ∧ W.heap[w.heap.size + 1 + 1 + 1 + 1]? = some (.cells #[.map none] 68 (0, 0)) ∧ Below w.heap.size w W := by
  subst hW
  refine ⟨?_, ?_, ?_, ?_, (((((Below.refl _ _).alloc (Nat.le_refl _) _).alloc (by simp) _).alloc (by simp; omega) _).alloc (by simp; omega) _).alloc (by simp; omega) _ |>.drew⟩
  · show (((((w.alloc _).alloc _).alloc _).alloc _).alloc _).heap[_]? = _
    rw [Below.heap_alloc _ _ _ (by simp; omega), Below.heap_alloc _ _ _ (by simp; omega), Below.heap_alloc _ _ _ (by simp; omega), Below.heap_alloc _ _ _ (by simp)]
    exact heap_alloc_new w _
  · show (((((w.alloc _).alloc _).alloc _).alloc _).alloc _).heap[_]? = _
    rw [Below.heap_alloc _ _ _ (by simp), Below.heap_alloc _ _ _ (by simp)]
    have := heap_alloc_new ((w.alloc (.cells K 29 (0, 0))).alloc (.cells P T (0, 0))) (.cells X 29 (0, 0))
    simpa using this
  · show (((((w.alloc _).alloc _).alloc _).alloc _).alloc _).heap[_]? = _
    rw [Below.heap_alloc _ _ _ (by simp)]
    have := heap_alloc_new (((w.alloc (.cells K 29 (0, 0))).alloc (.cells P T (0, 0))).alloc (.cells X 29 (0, 0))) (.cells Y 29 (0, 0))
    simpa using this
  · show (((((w.alloc _).alloc _).alloc _).alloc _).alloc _).heap[_]? = _
    have := heap_alloc_new ((((w.alloc (.cells K 29 (0, 0))).alloc (.cells P T (0, 0))).alloc (.cells X 29 (0, 0))).alloc (.cells Y 29 (0, 0))) (.cells #[.map none] 68 (0, 0))
    simpa using this

def tTr : Tm := .mk 2 true 0 0 ByteArray.empty ByteArray.empty 0 .nil .nil ByteArray.empty 0
theorem tTr_V (w : World) (S : Nat → Prop) : tTr.V w S (.iface 4 (.bool true)) := by simp [tTr, Tm.V]
theorem tTr_bdd : tTr.Bdd := by simp [tTr, Tm.Bdd, TmL.Bdd, TmF.Bdd]
set_option maxRecDepth 100000 in
set_option maxHeartbeats 16000000 in
theorem DigestLast_any (t1 t2 t3 : Tm) (k1 k2 k3 : Array Value) (L : TmL) (al : Option Addr) (cl : Nat) (w : World) (h1 : t1.In w (Lo w.heap.size) k1) (h2 : t2.In w (Lo w.heap.size) k2) (h3 : t3.In w (Lo w.heap.size) k3) (hL : L.In w (Lo w.heap.size) al 0) (hn : L.len ≤ 140737488355328) :
    Calls Try.prog 8 #[.agg k1, .agg (k2 ++ k3), .slice al L.len cl] w fun e w' => e = .returned (.bool true) ∧ Below w.heap.size w w' := by
  have HBD : Hid (t1.Bdd ∧ t2.Bdd ∧ t3.Bdd ∧ L.Bdd) := ⟨t1.In_bdd _ h1, t2.In_bdd _ h2, t3.In_bdd _ h3, L.In_bdd _ _ hL⟩
  have HB1 : Hid (∀ W, Below w.heap.size w W → Calls Try.prog 11 #[.agg k1] W fun e w' => ∃ v, e = .returned v ∧ Below W.heap.size W w' ∧ t1.V w' (Fr W w') v) := fun W hW =>
    built_any t1.sz t1 (Nat.le_refl _) k1 _ W (t1.In_same (Same.of_below hW (Nat.le_refl _)) (fun _ h => h) k1 h1) (Sub.lo hW.size)
  have HB2 : Hid (∀ W, Below w.heap.size w W → Calls Try.prog 11 #[.agg k2] W fun e w' => ∃ v, e = .returned v ∧ Below W.heap.size W w' ∧ t2.V w' (Fr W w') v) := fun W hW =>
    built_any t2.sz t2 (Nat.le_refl _) k2 _ W (t2.In_same (Same.of_below hW (Nat.le_refl _)) (fun _ h => h) k2 h2) (Sub.lo hW.size)
  have HB3 : Hid (∀ W, Below w.heap.size w W → Calls Try.prog 11 #[.agg k3] W fun e w' => ∃ v, e = .returned v ∧ Below W.heap.size W w' ∧ t3.V w' (Fr W w') v) := fun W hW =>
    built_any t3.sz t3 (Nat.le_refl _) k3 _ W (t3.In_same (Same.of_below hW (Nat.le_refl _)) (fun _ h => h) k3 h3) (Sub.lo hW.size)
  have HLI : Hid (L.In w (Lo w.heap.size) al 0) := hL
  have H123 : Hid (t1.In w (Lo w.heap.size) k1 ∧ t2.In w (Lo w.heap.size) k2 ∧ t3.In w (Lo w.heap.size) k3) := ⟨h1, h2, h3⟩
  obtain ⟨b1, i1, f1, x1, ab1, nb1, cb1, r1, al1, nl1, cl1, af1, nf1, cf1, c1, v1, rfl⟩ := Tm.In_boxS h1
  obtain ⟨b2, i2, f2, x2, ab2, nb2, cb2, r2, al2, nl2, cl2, af2, nf2, cf2, c2, v2, rfl⟩ := Tm.In_boxS h2
  obtain ⟨b3, i3, f3, x3, ab3, nb3, cb3, r3, al3, nl3, cl3, af3, nf3, cf3, c3, v3, rfl⟩ := Tm.In_boxS h3
  clear h1 h2 h3 hL
  unfold tcells at HB1 HB2 HB3 H123
  show Calls Try.prog 8 #[.agg #[.int .i64 t1.kind, .bool b1, .int .i64 i1, .float .f64 f1, .string x1, .slice ab1 nb1 cb1, .int .u64 r1, .slice al1 nl1 cl1, .slice af1 nf1 cf1, .string c1, .int .i64 v1], .agg #[.int .i64 t2.kind, .bool b2, .int .i64 i2, .float .f64 f2, .string x2, .slice ab2 nb2 cb2, .int .u64 r2, .slice al2 nl2 cl2, .slice af2 nf2 cf2, .string c2, .int .i64 v2, .int .i64 t3.kind, .bool b3, .int .i64 i3, .float .f64 f3, .string x3, .slice ab3 nb3 cb3, .int .u64 r3, .slice al3 nl3 cl3, .slice af3 nf3 cf3, .string c3, .int .i64 v3], .slice al L.len cl] w _
  go_enter Try.func8, Try.ntmps8
  go_wp2_with fail
  go_region
  all_goals go_wp2_with fail
  · refine cutW (P := fun W => Code.wp _ _ _ _ W) _ (fun W => Hid (W5 w W (w.heap.size + 1 + 1) (w.heap.size + 1 + 1 + 1) (w.heap.size + 1 + 1 + 1 + 1) (tcells t1.kind b1 i1 f1 x1 (.slice ab1 nb1 cb1) r1 (.slice al1 nl1 cl1) (.slice af1 nf1 cf1) c1 v1) (tcells t2.kind b2 i2 f2 x2 (.slice ab2 nb2 cb2) r2 (.slice al2 nl2 cl2) (.slice af2 nf2 cf2) c2 v2) (tcells t3.kind b3 i3 f3 x3 (.slice ab3 nb3 cb3) r3 (.slice al3 nl3 cl3) (.slice af3 nf3 cf3) c3 v3))) ?_ ?_
    · obtain ⟨q1, q2, q3, q4, q5⟩ := five_at w _ _ _ _ _ _ rfl
      exact ⟨q1, q2, q3, q4, q5, by omega, by omega, by omega⟩
    generalize w.heap.size + 1 + 1 + 1 + 1 = mb
    generalize w.heap.size + 1 + 1 + 1 = lb
    generalize w.heap.size + 1 + 1 = fb
    intro W0 H0
    have HS : Hid (∀ W, Below mb W0 W → W.cell? ⟨w.heap.size, 0, none⟩ = some (.int .i64 t1.kind) ∧ W.cell? ⟨w.heap.size, 1, none⟩ = some (.bool b1) ∧ W.cell? ⟨w.heap.size, 2, none⟩ = some (.int .i64 i1) ∧ W.cell? ⟨w.heap.size, 3, none⟩ = some (.float .f64 f1) ∧ W.cell? ⟨w.heap.size, 4, none⟩ = some (.string x1) ∧ W.cell? ⟨w.heap.size, 5, none⟩ = some (.slice ab1 nb1 cb1) ∧ W.cell? ⟨w.heap.size, 6, none⟩ = some (.int .u64 r1) ∧ W.cell? ⟨w.heap.size, 7, none⟩ = some (.slice al1 nl1 cl1) ∧ W.cell? ⟨w.heap.size, 8, none⟩ = some (.slice af1 nf1 cf1) ∧ W.cell? ⟨w.heap.size, 9, none⟩ = some (.string c1) ∧ W.cell? ⟨w.heap.size, 10, none⟩ = some (.int .i64 v1) ∧ W.cell? ⟨fb, 0, none⟩ = some (.int .i64 t2.kind) ∧ W.cell? ⟨fb, 1, none⟩ = some (.bool b2) ∧ W.cell? ⟨fb, 2, none⟩ = some (.int .i64 i2) ∧ W.cell? ⟨fb, 3, none⟩ = some (.float .f64 f2) ∧ W.cell? ⟨fb, 4, none⟩ = some (.string x2) ∧ W.cell? ⟨fb, 5, none⟩ = some (.slice ab2 nb2 cb2) ∧ W.cell? ⟨fb, 6, none⟩ = some (.int .u64 r2) ∧ W.cell? ⟨fb, 7, none⟩ = some (.slice al2 nl2 cl2) ∧ W.cell? ⟨fb, 8, none⟩ = some (.slice af2 nf2 cf2) ∧ W.cell? ⟨fb, 9, none⟩ = some (.string c2) ∧ W.cell? ⟨fb, 10, none⟩ = some (.int .i64 v2) ∧ W.cell? ⟨lb, 0, none⟩ = some (.int .i64 t3.kind) ∧ W.cell? ⟨lb, 1, none⟩ = some (.bool b3) ∧ W.cell? ⟨lb, 2, none⟩ = some (.int .i64 i3) ∧ W.cell? ⟨lb, 3, none⟩ = some (.float .f64 f3) ∧ W.cell? ⟨lb, 4, none⟩ = some (.string x3) ∧ W.cell? ⟨lb, 5, none⟩ = some (.slice ab3 nb3 cb3) ∧ W.cell? ⟨lb, 6, none⟩ = some (.int .u64 r3) ∧ W.cell? ⟨lb, 7, none⟩ = some (.slice al3 nl3 cl3) ∧ W.cell? ⟨lb, 8, none⟩ = some (.slice af3 nf3 cf3) ∧ W.cell? ⟨lb, 9, none⟩ = some (.string c3) ∧ W.cell? ⟨lb, 10, none⟩ = some (.int .i64 v3)) := fun W hW => by
      obtain ⟨a0, a1, a2, a3, a4, a5, a6, a7, a8, a9, a10⟩ := tbox (w := W) (by rw [hW.block _ H0.out.kb]; exact H0.out.k)
      obtain ⟨a11, a12, a13, a14, a15, a16, a17, a18, a19, a20, a21⟩ := tbox (w := W) (by rw [hW.block _ H0.out.fb]; exact H0.out.f)
      obtain ⟨a22, a23, a24, a25, a26, a27, a28, a29, a30, a31, a32⟩ := tbox (w := W) (by rw [hW.block _ H0.out.lb]; exact H0.out.l)
      exact ⟨a0, a1, a2, a3, a4, a5, a6, a7, a8, a9, a10, a11, a12, a13, a14, a15, a16, a17, a18, a19, a20, a21, a22, a23, a24, a25, a26, a27, a28, a29, a30, a31, a32⟩
    have HS22 : Hid (∀ W, Below mb W0 W → W.cell? ⟨w.heap.size, 0, none⟩ = some (.int .i64 t1.kind) ∧ W.cell? ⟨w.heap.size, 1, none⟩ = some (.bool b1) ∧ W.cell? ⟨w.heap.size, 2, none⟩ = some (.int .i64 i1) ∧ W.cell? ⟨w.heap.size, 3, none⟩ = some (.float .f64 f1) ∧ W.cell? ⟨w.heap.size, 4, none⟩ = some (.string x1) ∧ W.cell? ⟨w.heap.size, 5, none⟩ = some (.slice ab1 nb1 cb1) ∧ W.cell? ⟨w.heap.size, 6, none⟩ = some (.int .u64 r1) ∧ W.cell? ⟨w.heap.size, 7, none⟩ = some (.slice al1 nl1 cl1) ∧ W.cell? ⟨w.heap.size, 8, none⟩ = some (.slice af1 nf1 cf1) ∧ W.cell? ⟨w.heap.size, 9, none⟩ = some (.string c1) ∧ W.cell? ⟨w.heap.size, 10, none⟩ = some (.int .i64 v1) ∧ W.cell? ⟨fb, 0, none⟩ = some (.int .i64 t2.kind) ∧ W.cell? ⟨fb, 1, none⟩ = some (.bool b2) ∧ W.cell? ⟨fb, 2, none⟩ = some (.int .i64 i2) ∧ W.cell? ⟨fb, 3, none⟩ = some (.float .f64 f2) ∧ W.cell? ⟨fb, 4, none⟩ = some (.string x2) ∧ W.cell? ⟨fb, 5, none⟩ = some (.slice ab2 nb2 cb2) ∧ W.cell? ⟨fb, 6, none⟩ = some (.int .u64 r2) ∧ W.cell? ⟨fb, 7, none⟩ = some (.slice al2 nl2 cl2) ∧ W.cell? ⟨fb, 8, none⟩ = some (.slice af2 nf2 cf2) ∧ W.cell? ⟨fb, 9, none⟩ = some (.string c2) ∧ W.cell? ⟨fb, 10, none⟩ = some (.int .i64 v2)) := fun W hW => by
      obtain ⟨a0, a1, a2, a3, a4, a5, a6, a7, a8, a9, a10, a11, a12, a13, a14, a15, a16, a17, a18, a19, a20, a21, a22, a23, a24, a25, a26, a27, a28, a29, a30, a31, a32⟩ := HS.out W hW
      exact ⟨a0, a1, a2, a3, a4, a5, a6, a7, a8, a9, a10, a11, a12, a13, a14, a15, a16, a17, a18, a19, a20, a21⟩
    have HD0 : Hid (DM W0 mb []) := ⟨(fun g hg => by cases hg), _, H0.out.m, .inl ⟨rfl, rfl⟩⟩
    have HZ : Hid (mb ≤ W0.heap.size) := Nat.le_of_lt HD0.out.lt
    have HBW : Hid (∀ W, Below mb W0 W → Below w.heap.size w W) := fun W hW => H0.out.bel.trans (hW.mono (Nat.le_of_lt H0.out.kb))
    clear H0
    go_region_held3 (fun W => W.cell? ⟨w.heap.size, 0, none⟩ = some (.int .i64 t1.kind) ∧ W.cell? ⟨w.heap.size, 1, none⟩ = some (.bool b1) ∧ W.cell? ⟨w.heap.size, 2, none⟩ = some (.int .i64 i1) ∧ W.cell? ⟨w.heap.size, 3, none⟩ = some (.float .f64 f1) ∧ W.cell? ⟨w.heap.size, 4, none⟩ = some (.string x1) ∧ W.cell? ⟨w.heap.size, 5, none⟩ = some (.slice ab1 nb1 cb1) ∧ W.cell? ⟨w.heap.size, 6, none⟩ = some (.int .u64 r1) ∧ W.cell? ⟨w.heap.size, 7, none⟩ = some (.slice al1 nl1 cl1) ∧ W.cell? ⟨w.heap.size, 8, none⟩ = some (.slice af1 nf1 cf1) ∧ W.cell? ⟨w.heap.size, 9, none⟩ = some (.string c1) ∧ W.cell? ⟨w.heap.size, 10, none⟩ = some (.int .i64 v1) ∧ W.cell? ⟨fb, 0, none⟩ = some (.int .i64 t2.kind) ∧ W.cell? ⟨fb, 1, none⟩ = some (.bool b2) ∧ W.cell? ⟨fb, 2, none⟩ = some (.int .i64 i2) ∧ W.cell? ⟨fb, 3, none⟩ = some (.float .f64 f2) ∧ W.cell? ⟨fb, 4, none⟩ = some (.string x2) ∧ W.cell? ⟨fb, 5, none⟩ = some (.slice ab2 nb2 cb2) ∧ W.cell? ⟨fb, 6, none⟩ = some (.int .u64 r2) ∧ W.cell? ⟨fb, 7, none⟩ = some (.slice al2 nl2 cl2) ∧ W.cell? ⟨fb, 8, none⟩ = some (.slice af2 nf2 cf2) ∧ W.cell? ⟨fb, 9, none⟩ = some (.string c2) ∧ W.cell? ⟨fb, 10, none⟩ = some (.int .i64 v2))
      (first | exact HS22.out _ (Below.refl _ _) | exact HS22.out _ (Below.refl _ _).drew | exact HS22.out _ HW1.out | exact HS22.out _ HW2.out | exact HS22.out _ HW3.out)
      ((first
        | (go_at_call_of 11 al1; refine (HB1.out _ ?_).mono ?_; exact HBW.out _ (Below.refl _ _).drew; rintro e w1 ⟨u1, rfl, hb1, hv1⟩; have HW1 : Hid (Below mb W0 w1) := (Below.refl _ _).drew.trans (hb1.mono HZ.out); have HD1 : Hid (DM w1 mb []) := HD0.out.call ((Below.refl _ _).drew.trans hb1); have HV1 : Hid (t1.V w1 (Lo w1.heap.size) u1) := t1.V_same (Same.refl _ _) (fun k hk => hk.2) u1 hv1; clear hb1 hv1)
        | (go_at_call_of 11 al2; refine (HB2.out _ ?_).mono ?_; exact HBW.out _ HW1.out; rintro e w2 ⟨u2, rfl, hb2, hv2⟩; have HW2 : Hid (Below mb W0 w2) := HW1.out.trans (hb2.mono (Nat.le_of_lt HD1.out.lt)); have HD2 : Hid (DM w2 mb []) := HD1.out.call hb2; have HV2 : Hid (t1.V w2 (Lo w2.heap.size) u1 ∧ t2.V w2 (Lo w2.heap.size) u2) := ⟨t1.V_same (fun k hk => hb2.block k hk) (fun k hk => Nat.lt_of_lt_of_le hk hb2.size) u1 HV1.out, t2.V_same (Same.refl _ _) (fun k hk => hk.2) u2 hv2⟩; clear hb2 hv2)
        | (go_at_call 33; refine (Put_any [] mb t1 t2 u1 u2 _ HD2.out HV2.out.1 HBD.out.1 HV2.out.2 HBD.out.2.1).mono ?_; rintro e w3 hput; obtain ⟨p3, had3, e0, o, G3, rfl, hb3, hd3, hk3, ho3⟩ := put_first (L := L) hput; have HW3 : Hid (Below mb W0 w3) := HW2.out.trans hb3; have HD3 : Hid (DM w3 mb G3 ∧ Kp t1 L 0 o G3 ∧ ((e0 = 0 ∧ o = some t2 ∧ t2.all.e = 0) ∨ (e0 ≠ 0 ∧ o = none))) := ⟨hd3, hk3, ho3⟩; clear hput hb3 hd3 hk3 ho3)))
    clear HD0 HD1 HD2 HV1 HV2 HW1 HW2
    all_goals go_wp2_with fail
    go_loopw [13] (fun x wr => ∃ (k : Nat) (G : List (ByteArray × Tm)), x = .int .i64 k ∧ k ≤ L.len ∧ Hid (Below mb W0 wr ∧ DM wr mb G ∧ Kp t1 L k o G)) (fun x _ => L.len - (intOf x).toNat)
    case atStart => exact ⟨0, G3, rfl, Nat.zero_le _, HW3.out, HD3.out.1, HD3.out.2.1⟩
    case round =>
      obtain ⟨k, G, rfl, hk, HI⟩ := hrel
      rcases Nat.lt_or_ge k L.len with hlt | hge
      · go_wp2_with fail
        obtain ⟨t4, hx⟩ := L.nth_some k hlt
        obtain ⟨g, oo, cs, rfl, hg, hcs, hin⟩ := L.In_nth al 0 k t4 HLI.out hx
        rw [Nat.zero_add] at hcs
        have HIN : Hid (L.nth k = some t4 ∧ t4.Bdd) := ⟨hx, t4.In_bdd _ hin⟩
        have HB4 : Hid (∀ W, Below w.heap.size w W → Calls Try.prog 11 #[.agg cs] W fun e w' => ∃ v, e = .returned v ∧ Below W.heap.size W w' ∧ t4.V w' (Fr W w') v) := fun W hW =>
          built_any t4.sz t4 (Nat.le_refl _) cs _ W (t4.In_same (Same.of_below hW (Nat.le_refl _)) (fun _ h => h) cs hin) (Sub.lo hW.size)
        have HSM : Hid (∀ W, Below w.heap.size w W → Calls Try.prog 21 #[.agg cs, .agg #[.int .i64 t1.kind, .bool b1, .int .i64 i1, .float .f64 f1, .string x1, .slice ab1 nb1 cb1, .int .u64 r1, .slice al1 nl1 cl1, .slice af1 nf1 cf1, .string c1, .int .i64 v1]] W fun e w' => e = .returned (.bool (t4.sameB t1)) ∧ Below W.heap.size W w') := fun W hW =>
          refSame_any t4 t1 cs _ (Lo w.heap.size) W (t4.In_same (Same.of_below hW (Nat.le_refl _)) (fun _ h => h) cs hin) (t1.In_same (Same.of_below hW (Nat.le_refl _)) (fun _ h => h) _ H123.out.1) (Sub.lo hW.size)
        have HEL : Hid (∀ W, Below mb W0 W → ∀ x, x < 11 → W.cell? ⟨g, oo + k * 11 + x, none⟩ = cs[x]?) := fun W hW x hx => by rw [(HBW.out W hW).cell (p := ⟨g, oo + k * 11 + x, none⟩) hg]; exact hcs x hx
        obtain ⟨b4, i4, f4, x4, ab4, nb4, cb4, r4, al4, nl4, cl4, af4, nf4, cf4, c4, v4, rfl⟩ := Tm.In_boxS hin
        unfold tcells at HB4 HSM
        have HSE : Hid (∀ W, Below mb W0 W → W.cell? ⟨g, oo + k * 11, none⟩ = some (.int .i64 t4.kind) ∧ W.cell? ⟨g, oo + k * 11 + 1, none⟩ = some (.bool b4) ∧ W.cell? ⟨g, oo + k * 11 + 2, none⟩ = some (.int .i64 i4) ∧ W.cell? ⟨g, oo + k * 11 + 3, none⟩ = some (.float .f64 f4) ∧ W.cell? ⟨g, oo + k * 11 + 4, none⟩ = some (.string x4) ∧ W.cell? ⟨g, oo + k * 11 + 5, none⟩ = some (.slice ab4 nb4 cb4) ∧ W.cell? ⟨g, oo + k * 11 + 6, none⟩ = some (.int .u64 r4) ∧ W.cell? ⟨g, oo + k * 11 + 7, none⟩ = some (.slice al4 nl4 cl4) ∧ W.cell? ⟨g, oo + k * 11 + 8, none⟩ = some (.slice af4 nf4 cf4) ∧ W.cell? ⟨g, oo + k * 11 + 9, none⟩ = some (.string c4) ∧ W.cell? ⟨g, oo + k * 11 + 10, none⟩ = some (.int .i64 v4) ∧ W.cell? ⟨w.heap.size, 0, none⟩ = some (.int .i64 t1.kind) ∧ W.cell? ⟨w.heap.size, 1, none⟩ = some (.bool b1) ∧ W.cell? ⟨w.heap.size, 2, none⟩ = some (.int .i64 i1) ∧ W.cell? ⟨w.heap.size, 3, none⟩ = some (.float .f64 f1) ∧ W.cell? ⟨w.heap.size, 4, none⟩ = some (.string x1) ∧ W.cell? ⟨w.heap.size, 5, none⟩ = some (.slice ab1 nb1 cb1) ∧ W.cell? ⟨w.heap.size, 6, none⟩ = some (.int .u64 r1) ∧ W.cell? ⟨w.heap.size, 7, none⟩ = some (.slice al1 nl1 cl1) ∧ W.cell? ⟨w.heap.size, 8, none⟩ = some (.slice af1 nf1 cf1) ∧ W.cell? ⟨w.heap.size, 9, none⟩ = some (.string c1) ∧ W.cell? ⟨w.heap.size, 10, none⟩ = some (.int .i64 v1)) := fun W hW => by
          obtain ⟨d0, d1, d2, d3, d4, d5, d6, d7, d8, d9, d10⟩ := eleven (w := W) (g := g) (o := oo + k * 11) (HEL.out W hW)
          obtain ⟨a0, a1, a2, a3, a4, a5, a6, a7, a8, a9, a10, a11, a12, a13, a14, a15, a16, a17, a18, a19, a20, a21, a22, a23, a24, a25, a26, a27, a28, a29, a30, a31, a32⟩ := HS.out W hW
          exact ⟨d0, d1, d2, d3, d4, d5, d6, d7, d8, d9, d10, a0, a1, a2, a3, a4, a5, a6, a7, a8, a9, a10⟩
        have hi0 : (0 : Int) ≤ (k : Int) := Int.natCast_nonneg _
        have hi1 : (k : Int) < (L.len : Int) := by omega
        clear hx hg hcs hin HEL
        generalize hsm : t4.sameB t1 = sm at HSM
        have HSF : Hid (t4.sameB t1 = sm) := hsm
        clear hsm
        go_region_held3 (fun W => W.cell? ⟨g, oo + k * 11, none⟩ = some (.int .i64 t4.kind) ∧ W.cell? ⟨g, oo + k * 11 + 1, none⟩ = some (.bool b4) ∧ W.cell? ⟨g, oo + k * 11 + 2, none⟩ = some (.int .i64 i4) ∧ W.cell? ⟨g, oo + k * 11 + 3, none⟩ = some (.float .f64 f4) ∧ W.cell? ⟨g, oo + k * 11 + 4, none⟩ = some (.string x4) ∧ W.cell? ⟨g, oo + k * 11 + 5, none⟩ = some (.slice ab4 nb4 cb4) ∧ W.cell? ⟨g, oo + k * 11 + 6, none⟩ = some (.int .u64 r4) ∧ W.cell? ⟨g, oo + k * 11 + 7, none⟩ = some (.slice al4 nl4 cl4) ∧ W.cell? ⟨g, oo + k * 11 + 8, none⟩ = some (.slice af4 nf4 cf4) ∧ W.cell? ⟨g, oo + k * 11 + 9, none⟩ = some (.string c4) ∧ W.cell? ⟨g, oo + k * 11 + 10, none⟩ = some (.int .i64 v4) ∧ W.cell? ⟨w.heap.size, 0, none⟩ = some (.int .i64 t1.kind) ∧ W.cell? ⟨w.heap.size, 1, none⟩ = some (.bool b1) ∧ W.cell? ⟨w.heap.size, 2, none⟩ = some (.int .i64 i1) ∧ W.cell? ⟨w.heap.size, 3, none⟩ = some (.float .f64 f1) ∧ W.cell? ⟨w.heap.size, 4, none⟩ = some (.string x1) ∧ W.cell? ⟨w.heap.size, 5, none⟩ = some (.slice ab1 nb1 cb1) ∧ W.cell? ⟨w.heap.size, 6, none⟩ = some (.int .u64 r1) ∧ W.cell? ⟨w.heap.size, 7, none⟩ = some (.slice al1 nl1 cl1) ∧ W.cell? ⟨w.heap.size, 8, none⟩ = some (.slice af1 nf1 cf1) ∧ W.cell? ⟨w.heap.size, 9, none⟩ = some (.string c1) ∧ W.cell? ⟨w.heap.size, 10, none⟩ = some (.int .i64 v1))
          (first | exact HSE.out _ HI.out.1 | exact HSE.out _ HI.out.1.drew | exact HSE.out _ HW5.out)
          ((go_at_call 21; refine (HSM.out _ ?_).mono ?_; exact HBW.out _ HI.out.1.drew; rintro e w5 ⟨rfl, hb5⟩; have HW5 : Hid (Below mb W0 w5) := HI.out.1.drew.trans (hb5.mono (Nat.le_of_lt HI.out.2.1.lt)); have HD5 : Hid (DM w5 mb G) := HI.out.2.1.call ((Below.refl _ _).drew.trans hb5); clear hb5))
        cases sm
        · obtain ⟨d0, d1, d2, d3, d4, d5, d6, d7, d8, d9, d10, d11, d12, d13, d14, d15, d16, d17, d18, d19, d20, d21⟩ := HSE.out _ HW5.out
          go_wp2_with fail
          refine (HB4.out _ (HBW.out _ HW5.out)).mono ?_
          rintro e w6 ⟨u6, rfl, hb6, hv6⟩
          have HW6 : Hid (Below mb W0 w6) := HW5.out.trans (hb6.mono (Nat.le_of_lt HD5.out.lt))
          have HD6 : Hid (DM w6 mb G) := HD5.out.call hb6
          have HV6 : Hid (t4.V w6 (Lo w6.heap.size) u6) := t4.V_same (Same.refl _ _) (fun k hk => hk.2) u6 hv6
          clear hb6 hv6 d0 d1 d2 d3 d4 d5 d6 d7 d8 d9 d10 d11 d12 d13 d14 d15 d16 d17 d18 d19 d20 d21
          go_wp2_with fail
          refine (Put_any G mb t4 tTr u6 _ _ HD6.out HV6.out HIN.out.2 (tTr_V _ _) tTr_bdd).mono ?_
          rintro e w7 hput
          obtain ⟨p7, had7, e7, G7, rfl, hb7, hd7, hk7⟩ := put_other HI.out.2.2 HIN.out.1 HSF.out HBD.out.1 HIN.out.2 hput
          have H7 : Hid (Below mb W0 w7 ∧ DM w7 mb G7 ∧ Kp t1 L (k + 1) o G7) := ⟨HW6.out.trans hb7, hd7, hk7⟩
          clear hput hb7 hd7 hk7
          go_wp2_with fail
          go_roundw
          case rel => exact ⟨k + 1, G7, by go_num, by omega, H7.out⟩
          case measure => simp [intOf]; omega
        · go_wp2_with fail
          go_roundw
          case rel => exact ⟨k + 1, G, by go_num, by omega, HW5.out, HD5.out, HI.out.2.2.skip⟩
          case measure => simp [intOf]; omega
      · obtain rfl : k = L.len := by omega
        clear hk
        have HS13 : Hid (∀ W, Below mb W0 W → W.cell? ⟨w.heap.size, 0, none⟩ = some (.int .i64 t1.kind) ∧ W.cell? ⟨w.heap.size, 1, none⟩ = some (.bool b1) ∧ W.cell? ⟨w.heap.size, 2, none⟩ = some (.int .i64 i1) ∧ W.cell? ⟨w.heap.size, 3, none⟩ = some (.float .f64 f1) ∧ W.cell? ⟨w.heap.size, 4, none⟩ = some (.string x1) ∧ W.cell? ⟨w.heap.size, 5, none⟩ = some (.slice ab1 nb1 cb1) ∧ W.cell? ⟨w.heap.size, 6, none⟩ = some (.int .u64 r1) ∧ W.cell? ⟨w.heap.size, 7, none⟩ = some (.slice al1 nl1 cl1) ∧ W.cell? ⟨w.heap.size, 8, none⟩ = some (.slice af1 nf1 cf1) ∧ W.cell? ⟨w.heap.size, 9, none⟩ = some (.string c1) ∧ W.cell? ⟨w.heap.size, 10, none⟩ = some (.int .i64 v1) ∧ W.cell? ⟨lb, 0, none⟩ = some (.int .i64 t3.kind) ∧ W.cell? ⟨lb, 1, none⟩ = some (.bool b3) ∧ W.cell? ⟨lb, 2, none⟩ = some (.int .i64 i3) ∧ W.cell? ⟨lb, 3, none⟩ = some (.float .f64 f3) ∧ W.cell? ⟨lb, 4, none⟩ = some (.string x3) ∧ W.cell? ⟨lb, 5, none⟩ = some (.slice ab3 nb3 cb3) ∧ W.cell? ⟨lb, 6, none⟩ = some (.int .u64 r3) ∧ W.cell? ⟨lb, 7, none⟩ = some (.slice al3 nl3 cl3) ∧ W.cell? ⟨lb, 8, none⟩ = some (.slice af3 nf3 cf3) ∧ W.cell? ⟨lb, 9, none⟩ = some (.string c3) ∧ W.cell? ⟨lb, 10, none⟩ = some (.int .i64 v3)) := fun W hW => by
          obtain ⟨a0, a1, a2, a3, a4, a5, a6, a7, a8, a9, a10, a11, a12, a13, a14, a15, a16, a17, a18, a19, a20, a21, a22, a23, a24, a25, a26, a27, a28, a29, a30, a31, a32⟩ := HS.out W hW
          exact ⟨a0, a1, a2, a3, a4, a5, a6, a7, a8, a9, a10, a22, a23, a24, a25, a26, a27, a28, a29, a30, a31, a32⟩
        go_wp2_with fail
        go_region_held3 (fun W => W.cell? ⟨w.heap.size, 0, none⟩ = some (.int .i64 t1.kind) ∧ W.cell? ⟨w.heap.size, 1, none⟩ = some (.bool b1) ∧ W.cell? ⟨w.heap.size, 2, none⟩ = some (.int .i64 i1) ∧ W.cell? ⟨w.heap.size, 3, none⟩ = some (.float .f64 f1) ∧ W.cell? ⟨w.heap.size, 4, none⟩ = some (.string x1) ∧ W.cell? ⟨w.heap.size, 5, none⟩ = some (.slice ab1 nb1 cb1) ∧ W.cell? ⟨w.heap.size, 6, none⟩ = some (.int .u64 r1) ∧ W.cell? ⟨w.heap.size, 7, none⟩ = some (.slice al1 nl1 cl1) ∧ W.cell? ⟨w.heap.size, 8, none⟩ = some (.slice af1 nf1 cf1) ∧ W.cell? ⟨w.heap.size, 9, none⟩ = some (.string c1) ∧ W.cell? ⟨w.heap.size, 10, none⟩ = some (.int .i64 v1) ∧ W.cell? ⟨lb, 0, none⟩ = some (.int .i64 t3.kind) ∧ W.cell? ⟨lb, 1, none⟩ = some (.bool b3) ∧ W.cell? ⟨lb, 2, none⟩ = some (.int .i64 i3) ∧ W.cell? ⟨lb, 3, none⟩ = some (.float .f64 f3) ∧ W.cell? ⟨lb, 4, none⟩ = some (.string x3) ∧ W.cell? ⟨lb, 5, none⟩ = some (.slice ab3 nb3 cb3) ∧ W.cell? ⟨lb, 6, none⟩ = some (.int .u64 r3) ∧ W.cell? ⟨lb, 7, none⟩ = some (.slice al3 nl3 cl3) ∧ W.cell? ⟨lb, 8, none⟩ = some (.slice af3 nf3 cf3) ∧ W.cell? ⟨lb, 9, none⟩ = some (.string c3) ∧ W.cell? ⟨lb, 10, none⟩ = some (.int .i64 v3))
          (first | exact HS13.out _ HI.out.1 | exact HS13.out _ HI.out.1.drew | exact HS13.out _ HW6.out | exact HS13.out _ HW7.out | exact HS13.out _ HW8.out)
          ((first
            | (go_at_call_of 11 al1; refine (HB1.out _ ?_).mono ?_; exact HBW.out _ HI.out.1.drew; rintro e w6 ⟨u6, rfl, hb6, hv6⟩; have HW6 : Hid (Below mb W0 w6) := HI.out.1.drew.trans (hb6.mono (Nat.le_of_lt HI.out.2.1.lt)); have HD6 : Hid (DM w6 mb G) := HI.out.2.1.call ((Below.refl _ _).drew.trans hb6); have HV6 : Hid (t1.V w6 (Lo w6.heap.size) u6) := t1.V_same (Same.refl _ _) (fun k hk => hk.2) u6 hv6; clear hb6 hv6)
            | (go_at_call_of 11 al3; refine (HB3.out _ ?_).mono ?_; exact HBW.out _ HW6.out; rintro e w7 ⟨u7, rfl, hb7, hv7⟩; have HW7 : Hid (Below mb W0 w7) := HW6.out.trans (hb7.mono (Nat.le_of_lt HD6.out.lt)); have HD7 : Hid (DM w7 mb G) := HD6.out.call hb7; have HV7 : Hid (t1.V w7 (Lo w7.heap.size) u6 ∧ t3.V w7 (Lo w7.heap.size) u7) := ⟨t1.V_same (fun k hk => hb7.block k hk) (fun k hk => Nat.lt_of_lt_of_le hk hb7.size) u6 HV6.out, t3.V_same (Same.refl _ _) (fun k hk => hk.2) u7 hv7⟩; clear hb7 hv7)
            | (go_at_call 33; refine (Put_any G mb t1 t3 u6 u7 _ HD7.out HV7.out.1 HBD.out.1 HV7.out.2 HBD.out.2.2.1).mono ?_; rintro e w8 hput; obtain ⟨p8, had8, e1, o', G8, rfl, hb8, hd8, hk8, ho8⟩ := put_last HI.out.2.2 hput; have HW8 : Hid (Below mb W0 w8) := HW7.out.trans hb8; have HD8 : Hid (DM w8 mb G8 ∧ Kp t1 L L.len o' G8 ∧ ((e1 = 0 ∧ had8 = o.isSome ∧ o' = some t3 ∧ t3.all.e = 0) ∨ (e1 ≠ 0 ∧ o' = o))) := ⟨hd8, hk8, ho8⟩; clear hput hb8 hd8 hk8 ho8)))
        clear HD6 HD7 HV6 HV7 HW6 HW7 HI
        all_goals go_wp2_with fail
        go_loopw [17] (fun x wr => ∃ (k : Nat) (G : List (ByteArray × Tm)) (z : Int), x = .int .i64 z ∧ z = (k : Int) - 1 ∧ k ≤ L.len ∧ Hid (Below mb W0 wr ∧ DM wr mb G ∧ Kp t1 L k o' G)) (fun x _ => (intOf x + 1).toNat)
        case atStart => exact ⟨L.len, G8, _, rfl, by go_num, Nat.le_refl _, HW8.out, HD8.out.1, HD8.out.2.1⟩
        case round =>
          obtain ⟨k, G, z, rfl, hz, hk, HI⟩ := hrel
          cases k with
          | zero =>
            have hzn : z < 0 := by omega
            clear hz
            obtain ⟨a0, a1, a2, a3, a4, a5, a6, a7, a8, a9, a10, a11, a12, a13, a14, a15, a16, a17, a18, a19, a20, a21, a22, a23, a24, a25, a26, a27, a28, a29, a30, a31, a32⟩ := HS.out _ HI.out.1
            go_wp2_with fail
            refine (HB1.out _ (HBW.out _ HI.out.1)).mono ?_
            rintro e w9 ⟨u9, rfl, hb9, hv9⟩
            have HW9 : Hid (Below mb W0 w9) := HI.out.1.trans (hb9.mono (Nat.le_of_lt HI.out.2.1.lt))
            have HD9 : Hid (DM w9 mb G) := HI.out.2.1.call hb9
            have HV9 : Hid (t1.V w9 (Lo w9.heap.size) u9) := t1.V_same (Same.refl _ _) (fun k hk => hk.2) u9 hv9
            clear hb9 hv9 a0 a1 a2 a3 a4 a5 a6 a7 a8 a9 a10 a11 a12 a13 a14 a15 a16 a17 a18 a19 a20 a21 a22 a23 a24 a25 a26 a27 a28 a29 a30 a31 a32
            go_wp2_with fail
            refine (Get_val G mb t1 u9 _ HD9.out HV9.out HBD.out.1).mono ?_
            rintro e wa hget
            obtain ⟨hba, hga⟩ := get_key HI.out.2.2 hget
            have HWa : Hid (Below mb W0 wa) := HW9.out.trans (hba.mono (Nat.le_of_lt HD9.out.lt))
            have HDa : Hid (DM wa mb G) := HD9.out.call hba
            have HKa : Hid (Kp t1 L 0 o' G) := HI.out.2.2
            clear hget hba HV9 HD9 HW9 HI
            obtain ⟨-, -, h3⟩ := HD3.out
            obtain ⟨-, -, h8⟩ := HD8.out
            clear HD3 HD8
            rcases h8 with ⟨rfl, hh, rfl, ok3⟩ | ⟨he1, rfl⟩
            · rcases hga with ⟨t, v, ht, rfl, hv⟩ | ⟨hn, _⟩
              case inr => cases hn
              injection ht with ht
              subst ht
              rcases h3 with ⟨rfl, rfl, ok2⟩ | ⟨he0, rfl⟩
              · obtain rfl : had8 = true := by simpa using hh
                clear hh ok2
                have HLen : Hid (∀ W, Below wa.heap.size wa W → Calls Try.prog 36 #[.pointer (some ⟨mb, 0, none⟩)] W fun e w' => e = .returned (.int .i64 1) ∧ Below W.heap.size W w') := fun W hW => by
                  have := Len_any G mb W (HDa.out.call hW)
                  rw [HKa.out.some HDa.out.apart] at this
                  exact this
                have HIs : Hid (Calls Try.prog 14 #[v, .agg #[.int .i64 t3.kind, .bool b3, .int .i64 i3, .float .f64 f3, .string x3, .slice ab3 nb3 cb3, .int .u64 r3, .slice al3 nl3 cl3, .slice af3 nf3 cf3, .string c3, .int .i64 v3]] wa fun e w' => e = .returned (.bool true) ∧ Below wa.heap.size wa w') :=
                  Is_any t3 v _ wa (Lo wa.heap.size) (t3.V_same (Same.refl _ _) (fun k hk => hk.2) v hv) (t3.In_same (Same.of_below (HBW.out _ HWa.out) (Nat.le_refl _)) (fun k hk => Nat.lt_of_lt_of_le hk (HBW.out _ HWa.out).size) _ H123.out.2.2) (Sub.lo (Nat.le_refl _)) ok3
                clear hv HKa
                obtain ⟨a0, a1, a2, a3, a4, a5, a6, a7, a8, a9, a10, a11, a12, a13, a14, a15, a16, a17, a18, a19, a20, a21, a22, a23, a24, a25, a26, a27, a28, a29, a30, a31, a32⟩ := HS.out _ HWa.out
                go_wp2_with fail
                refine HIs.out.mono ?_
                rintro e wb ⟨rfl, hbb⟩
                have HBb : Hid (Below wa.heap.size wa wb) := hbb
                clear hbb a0 a1 a2 a3 a4 a5 a6 a7 a8 a9 a10 a11 a12 a13 a14 a15 a16 a17 a18 a19 a20 a21 a22 a23 a24 a25 a26 a27 a28 a29 a30 a31 a32
                go_wp2_with fail
                refine (HLen.out _ HBb.out).mono ?_
                rintro e wc ⟨rfl, hbc⟩
                have HBc : Hid (Below w.heap.size w wc) := below_to (HBW.out _ HWa.out) (below_to HBb.out hbc)
                clear hbc
                go_wp2_with fail
                go_ret
                exact ⟨rfl, HBc.out⟩
              · obtain rfl : had8 = false := by simpa using hh
                have he0' := ne_bool he0
                have he0e : (e0 == 0) = false := by simp [he0]
                clear hh he0
                have HLen : Hid (∀ W, Below wa.heap.size wa W → Calls Try.prog 36 #[.pointer (some ⟨mb, 0, none⟩)] W fun e w' => e = .returned (.int .i64 1) ∧ Below W.heap.size W w') := fun W hW => by
                  have := Len_any G mb W (HDa.out.call hW)
                  rw [HKa.out.some HDa.out.apart] at this
                  exact this
                have HIs : Hid (Calls Try.prog 14 #[v, .agg #[.int .i64 t3.kind, .bool b3, .int .i64 i3, .float .f64 f3, .string x3, .slice ab3 nb3 cb3, .int .u64 r3, .slice al3 nl3 cl3, .slice af3 nf3 cf3, .string c3, .int .i64 v3]] wa fun e w' => e = .returned (.bool true) ∧ Below wa.heap.size wa w') :=
                  Is_any t3 v _ wa (Lo wa.heap.size) (t3.V_same (Same.refl _ _) (fun k hk => hk.2) v hv) (t3.In_same (Same.of_below (HBW.out _ HWa.out) (Nat.le_refl _)) (fun k hk => Nat.lt_of_lt_of_le hk (HBW.out _ HWa.out).size) _ H123.out.2.2) (Sub.lo (Nat.le_refl _)) ok3
                clear hv HKa
                obtain ⟨a0, a1, a2, a3, a4, a5, a6, a7, a8, a9, a10, a11, a12, a13, a14, a15, a16, a17, a18, a19, a20, a21, a22, a23, a24, a25, a26, a27, a28, a29, a30, a31, a32⟩ := HS.out _ HWa.out
                go_wp2_with fail
                refine HIs.out.mono ?_
                rintro e wb ⟨rfl, hbb⟩
                have HBb : Hid (Below wa.heap.size wa wb) := hbb
                clear hbb a0 a1 a2 a3 a4 a5 a6 a7 a8 a9 a10 a11 a12 a13 a14 a15 a16 a17 a18 a19 a20 a21 a22 a23 a24 a25 a26 a27 a28 a29 a30 a31 a32
                go_wp2_with fail
                refine (HLen.out _ HBb.out).mono ?_
                rintro e wc ⟨rfl, hbc⟩
                have HBc : Hid (Below w.heap.size w wc) := below_to (HBW.out _ HWa.out) (below_to HBb.out hbc)
                clear hbc
                go_wp2_with fail
                go_ret
                exact ⟨rfl, HBc.out⟩
            · have he1' := ne_bool he1
              rcases h3 with ⟨rfl, rfl, ok2⟩ | ⟨he0, rfl⟩
              · rcases hga with ⟨t, v, ht, rfl, hv⟩ | ⟨hn, _⟩
                case inr => cases hn
                injection ht with ht
                subst ht
                by_cases hfl : e1 = 50
                · subst hfl
                  have HBc : Hid (Below w.heap.size w wa) := HBW.out _ HWa.out
                  clear hv he1 he1'
                  go_wp2_with fail
                  go_ret
                  exact ⟨rfl, HBc.out⟩
                · have hfl' : (e1 == 50) = false := by simp [hfl]
                  clear he1 hfl
                  have HLen : Hid (∀ W, Below wa.heap.size wa W → Calls Try.prog 36 #[.pointer (some ⟨mb, 0, none⟩)] W fun e w' => e = .returned (.int .i64 1) ∧ Below W.heap.size W w') := fun W hW => by
                    have := Len_any G mb W (HDa.out.call hW)
                    rw [HKa.out.some HDa.out.apart] at this
                    exact this
                  have HIs : Hid (Calls Try.prog 14 #[v, .agg #[.int .i64 t2.kind, .bool b2, .int .i64 i2, .float .f64 f2, .string x2, .slice ab2 nb2 cb2, .int .u64 r2, .slice al2 nl2 cl2, .slice af2 nf2 cf2, .string c2, .int .i64 v2]] wa fun e w' => e = .returned (.bool true) ∧ Below wa.heap.size wa w') :=
                    Is_any t2 v _ wa (Lo wa.heap.size) (t2.V_same (Same.refl _ _) (fun k hk => hk.2) v hv) (t2.In_same (Same.of_below (HBW.out _ HWa.out) (Nat.le_refl _)) (fun k hk => Nat.lt_of_lt_of_le hk (HBW.out _ HWa.out).size) _ H123.out.2.1) (Sub.lo (Nat.le_refl _)) ok2
                  clear hv HKa
                  obtain ⟨a0, a1, a2, a3, a4, a5, a6, a7, a8, a9, a10, a11, a12, a13, a14, a15, a16, a17, a18, a19, a20, a21, a22, a23, a24, a25, a26, a27, a28, a29, a30, a31, a32⟩ := HS.out _ HWa.out
                  go_wp2_with fail
                  refine HIs.out.mono ?_
                  rintro e wb ⟨rfl, hbb⟩
                  have HBb : Hid (Below wa.heap.size wa wb) := hbb
                  clear hbb a0 a1 a2 a3 a4 a5 a6 a7 a8 a9 a10 a11 a12 a13 a14 a15 a16 a17 a18 a19 a20 a21 a22 a23 a24 a25 a26 a27 a28 a29 a30 a31 a32
                  go_wp2_with fail
                  refine (HLen.out _ HBb.out).mono ?_
                  rintro e wc ⟨rfl, hbc⟩
                  have HBc : Hid (Below w.heap.size w wc) := below_to (HBW.out _ HWa.out) (below_to HBb.out hbc)
                  clear hbc
                  go_wp2_with fail
                  go_ret
                  exact ⟨rfl, HBc.out⟩
              · rcases hga with ⟨t, v, ht, _⟩ | ⟨_, rfl⟩
                · cases ht
                have he0' := ne_bool he0
                have HLen : Hid (∀ W, Below wa.heap.size wa W → Calls Try.prog 36 #[.pointer (some ⟨mb, 0, none⟩)] W fun e w' => e = .returned (.int .i64 0) ∧ Below W.heap.size W w') := fun W hW => by
                  have := Len_any G mb W (HDa.out.call hW)
                  rw [HKa.out.none] at this
                  exact this
                clear he0 he1 HKa
                go_wp2_with fail
                refine (one_put wa).mono ?_
                rintro e wb ⟨pb, hdb, rfl, hbb, hdm⟩
                have HBb : Hid (Below wa.heap.size wa wb ∧ DM wb wa.heap.size [(tAq.key, tNl)]) := ⟨hbb, hdm⟩
                clear hbb hdm
                go_wp2_with fail
                refine (one_get _ _ HBb.out.2).mono ?_
                rintro e wc ⟨rfl, hbc⟩
                have HBc : Hid (Below wa.heap.size wa wc) := HBb.out.1.trans (hbc.mono HBb.out.1.size)
                clear hbc
                go_wp2_with fail
                refine (HLen.out _ HBc.out).mono ?_
                rintro e wd ⟨rfl, hbd⟩
                have HBd : Hid (Below w.heap.size w wd) := below_to (HBW.out _ HWa.out) (below_to HBc.out hbd)
                clear hbd
                go_wp2_with fail
                go_ret
                exact ⟨rfl, HBd.out⟩
          | succ k =>
            obtain rfl : z = (k : Int) := by omega
            have hlt : k < L.len := by omega
            clear hz
            go_wp2_with fail
            obtain ⟨t4, hx⟩ := L.nth_some k hlt
            obtain ⟨g, oo, cs, rfl, hg, hcs, hin⟩ := L.In_nth al 0 k t4 HLI.out hx
            rw [Nat.zero_add] at hcs
            have HIN : Hid (L.nth k = some t4 ∧ t4.Bdd) := ⟨hx, t4.In_bdd _ hin⟩
            have HB4 : Hid (∀ W, Below w.heap.size w W → Calls Try.prog 11 #[.agg cs] W fun e w' => ∃ v, e = .returned v ∧ Below W.heap.size W w' ∧ t4.V w' (Fr W w') v) := fun W hW =>
              built_any t4.sz t4 (Nat.le_refl _) cs _ W (t4.In_same (Same.of_below hW (Nat.le_refl _)) (fun _ h => h) cs hin) (Sub.lo hW.size)
            have HSM : Hid (∀ W, Below w.heap.size w W → Calls Try.prog 21 #[.agg cs, .agg #[.int .i64 t1.kind, .bool b1, .int .i64 i1, .float .f64 f1, .string x1, .slice ab1 nb1 cb1, .int .u64 r1, .slice al1 nl1 cl1, .slice af1 nf1 cf1, .string c1, .int .i64 v1]] W fun e w' => e = .returned (.bool (t4.sameB t1)) ∧ Below W.heap.size W w') := fun W hW =>
              refSame_any t4 t1 cs _ (Lo w.heap.size) W (t4.In_same (Same.of_below hW (Nat.le_refl _)) (fun _ h => h) cs hin) (t1.In_same (Same.of_below hW (Nat.le_refl _)) (fun _ h => h) _ H123.out.1) (Sub.lo hW.size)
            have HEL : Hid (∀ W, Below mb W0 W → ∀ x, x < 11 → W.cell? ⟨g, oo + k * 11 + x, none⟩ = cs[x]?) := fun W hW x hx => by rw [(HBW.out W hW).cell (p := ⟨g, oo + k * 11 + x, none⟩) hg]; exact hcs x hx
            obtain ⟨b4, i4, f4, x4, ab4, nb4, cb4, r4, al4, nl4, cl4, af4, nf4, cf4, c4, v4, rfl⟩ := Tm.In_boxS hin
            unfold tcells at HB4 HSM
            have HSE : Hid (∀ W, Below mb W0 W → W.cell? ⟨g, oo + k * 11, none⟩ = some (.int .i64 t4.kind) ∧ W.cell? ⟨g, oo + k * 11 + 1, none⟩ = some (.bool b4) ∧ W.cell? ⟨g, oo + k * 11 + 2, none⟩ = some (.int .i64 i4) ∧ W.cell? ⟨g, oo + k * 11 + 3, none⟩ = some (.float .f64 f4) ∧ W.cell? ⟨g, oo + k * 11 + 4, none⟩ = some (.string x4) ∧ W.cell? ⟨g, oo + k * 11 + 5, none⟩ = some (.slice ab4 nb4 cb4) ∧ W.cell? ⟨g, oo + k * 11 + 6, none⟩ = some (.int .u64 r4) ∧ W.cell? ⟨g, oo + k * 11 + 7, none⟩ = some (.slice al4 nl4 cl4) ∧ W.cell? ⟨g, oo + k * 11 + 8, none⟩ = some (.slice af4 nf4 cf4) ∧ W.cell? ⟨g, oo + k * 11 + 9, none⟩ = some (.string c4) ∧ W.cell? ⟨g, oo + k * 11 + 10, none⟩ = some (.int .i64 v4) ∧ W.cell? ⟨w.heap.size, 0, none⟩ = some (.int .i64 t1.kind) ∧ W.cell? ⟨w.heap.size, 1, none⟩ = some (.bool b1) ∧ W.cell? ⟨w.heap.size, 2, none⟩ = some (.int .i64 i1) ∧ W.cell? ⟨w.heap.size, 3, none⟩ = some (.float .f64 f1) ∧ W.cell? ⟨w.heap.size, 4, none⟩ = some (.string x1) ∧ W.cell? ⟨w.heap.size, 5, none⟩ = some (.slice ab1 nb1 cb1) ∧ W.cell? ⟨w.heap.size, 6, none⟩ = some (.int .u64 r1) ∧ W.cell? ⟨w.heap.size, 7, none⟩ = some (.slice al1 nl1 cl1) ∧ W.cell? ⟨w.heap.size, 8, none⟩ = some (.slice af1 nf1 cf1) ∧ W.cell? ⟨w.heap.size, 9, none⟩ = some (.string c1) ∧ W.cell? ⟨w.heap.size, 10, none⟩ = some (.int .i64 v1)) := fun W hW => by
              obtain ⟨d0, d1, d2, d3, d4, d5, d6, d7, d8, d9, d10⟩ := eleven (w := W) (g := g) (o := oo + k * 11) (HEL.out W hW)
              obtain ⟨a0, a1, a2, a3, a4, a5, a6, a7, a8, a9, a10, a11, a12, a13, a14, a15, a16, a17, a18, a19, a20, a21, a22, a23, a24, a25, a26, a27, a28, a29, a30, a31, a32⟩ := HS.out W hW
              exact ⟨d0, d1, d2, d3, d4, d5, d6, d7, d8, d9, d10, a0, a1, a2, a3, a4, a5, a6, a7, a8, a9, a10⟩
            have hi0 : (0 : Int) ≤ (k : Int) := Int.natCast_nonneg _
            have hi1 : (k : Int) < (L.len : Int) := by omega
            clear hx hg hcs hin HEL
            generalize hsm : t4.sameB t1 = sm at HSM
            have HSF : Hid (t4.sameB t1 = sm) := hsm
            clear hsm
            go_region_held3 (fun W => W.cell? ⟨g, oo + k * 11, none⟩ = some (.int .i64 t4.kind) ∧ W.cell? ⟨g, oo + k * 11 + 1, none⟩ = some (.bool b4) ∧ W.cell? ⟨g, oo + k * 11 + 2, none⟩ = some (.int .i64 i4) ∧ W.cell? ⟨g, oo + k * 11 + 3, none⟩ = some (.float .f64 f4) ∧ W.cell? ⟨g, oo + k * 11 + 4, none⟩ = some (.string x4) ∧ W.cell? ⟨g, oo + k * 11 + 5, none⟩ = some (.slice ab4 nb4 cb4) ∧ W.cell? ⟨g, oo + k * 11 + 6, none⟩ = some (.int .u64 r4) ∧ W.cell? ⟨g, oo + k * 11 + 7, none⟩ = some (.slice al4 nl4 cl4) ∧ W.cell? ⟨g, oo + k * 11 + 8, none⟩ = some (.slice af4 nf4 cf4) ∧ W.cell? ⟨g, oo + k * 11 + 9, none⟩ = some (.string c4) ∧ W.cell? ⟨g, oo + k * 11 + 10, none⟩ = some (.int .i64 v4) ∧ W.cell? ⟨w.heap.size, 0, none⟩ = some (.int .i64 t1.kind) ∧ W.cell? ⟨w.heap.size, 1, none⟩ = some (.bool b1) ∧ W.cell? ⟨w.heap.size, 2, none⟩ = some (.int .i64 i1) ∧ W.cell? ⟨w.heap.size, 3, none⟩ = some (.float .f64 f1) ∧ W.cell? ⟨w.heap.size, 4, none⟩ = some (.string x1) ∧ W.cell? ⟨w.heap.size, 5, none⟩ = some (.slice ab1 nb1 cb1) ∧ W.cell? ⟨w.heap.size, 6, none⟩ = some (.int .u64 r1) ∧ W.cell? ⟨w.heap.size, 7, none⟩ = some (.slice al1 nl1 cl1) ∧ W.cell? ⟨w.heap.size, 8, none⟩ = some (.slice af1 nf1 cf1) ∧ W.cell? ⟨w.heap.size, 9, none⟩ = some (.string c1) ∧ W.cell? ⟨w.heap.size, 10, none⟩ = some (.int .i64 v1))
              (first | exact HSE.out _ HI.out.1 | exact HSE.out _ HI.out.1.drew | exact HSE.out _ HW5.out)
              ((go_at_call 21; refine (HSM.out _ ?_).mono ?_; exact HBW.out _ HI.out.1.drew; rintro e w5 ⟨rfl, hb5⟩; have HW5 : Hid (Below mb W0 w5) := HI.out.1.drew.trans (hb5.mono (Nat.le_of_lt HI.out.2.1.lt)); have HD5 : Hid (DM w5 mb G) := HI.out.2.1.call ((Below.refl _ _).drew.trans hb5); clear hb5))
            cases sm
            · obtain ⟨d0, d1, d2, d3, d4, d5, d6, d7, d8, d9, d10, d11, d12, d13, d14, d15, d16, d17, d18, d19, d20, d21⟩ := HSE.out _ HW5.out
              go_wp2_with fail
              refine (HB4.out _ (HBW.out _ HW5.out)).mono ?_
              rintro e w6 ⟨u6, rfl, hb6, hv6⟩
              have HW6 : Hid (Below mb W0 w6) := HW5.out.trans (hb6.mono (Nat.le_of_lt HD5.out.lt))
              have HD6 : Hid (DM w6 mb G) := HD5.out.call hb6
              have HV6 : Hid (t4.V w6 (Lo w6.heap.size) u6) := t4.V_same (Same.refl _ _) (fun k hk => hk.2) u6 hv6
              clear hb6 hv6 d0 d1 d2 d3 d4 d5 d6 d7 d8 d9 d10 d11 d12 d13 d14 d15 d16 d17 d18 d19 d20 d21
              go_wp2_with fail
              refine (Delete_val G mb t4 u6 _ HD6.out HV6.out HIN.out.2).mono ?_
              rintro e w7 hput
              obtain ⟨p7, had7, G7, rfl, hb7, hd7, hk7⟩ := del_other HI.out.2.2 HI.out.2.1.apart HIN.out.1 HSF.out HBD.out.1 HIN.out.2 hput
              have H7 : Hid (Below mb W0 w7 ∧ DM w7 mb G7 ∧ Kp t1 L k o' G7) := ⟨HW6.out.trans hb7, hd7, hk7⟩
              clear hput hb7 hd7 hk7
              go_wp2_with fail
              go_roundw
              case rel => exact ⟨k, G7, _, rfl, by go_num, by omega, H7.out⟩
              case measure => first | (simp [intOf]; done) | (simp [intOf]; omega)
            · go_wp2_with fail
              go_roundw
              case rel => exact ⟨k, G, _, rfl, by go_num, by omega, HW5.out, HD5.out, HI.out.2.2.drop HIN.out.1 (.inr HSF.out)⟩
              case measure => first | (simp [intOf]; done) | (simp [intOf]; omega)
  · refine cutW (P := fun W => Code.wp _ _ _ _ W) _ (fun W => Hid (W5 w W (w.heap.size + 1 + 1 + 1) (w.heap.size + 1 + 1) (w.heap.size + 1 + 1 + 1 + 1) (tcells t1.kind b1 i1 f1 x1 (.slice ab1 nb1 cb1) r1 (.slice al1 nl1 cl1) (.slice af1 nf1 cf1) c1 v1) (tcells t2.kind b2 i2 f2 x2 (.slice ab2 nb2 cb2) r2 (.slice al2 nl2 cl2) (.slice af2 nf2 cf2) c2 v2) (tcells t3.kind b3 i3 f3 x3 (.slice ab3 nb3 cb3) r3 (.slice al3 nl3 cl3) (.slice af3 nf3 cf3) c3 v3))) ?_ ?_
    · obtain ⟨q1, q2, q3, q4, q5⟩ := five_at w _ _ _ _ _ _ rfl
      exact ⟨q1, q3, q2, q4, q5, by omega, by omega, by omega⟩
    generalize w.heap.size + 1 + 1 + 1 + 1 = mb
    generalize w.heap.size + 1 + 1 + 1 = fb
    generalize w.heap.size + 1 + 1 = lb
    intro W0 H0
    have HS : Hid (∀ W, Below mb W0 W → W.cell? ⟨w.heap.size, 0, none⟩ = some (.int .i64 t1.kind) ∧ W.cell? ⟨w.heap.size, 1, none⟩ = some (.bool b1) ∧ W.cell? ⟨w.heap.size, 2, none⟩ = some (.int .i64 i1) ∧ W.cell? ⟨w.heap.size, 3, none⟩ = some (.float .f64 f1) ∧ W.cell? ⟨w.heap.size, 4, none⟩ = some (.string x1) ∧ W.cell? ⟨w.heap.size, 5, none⟩ = some (.slice ab1 nb1 cb1) ∧ W.cell? ⟨w.heap.size, 6, none⟩ = some (.int .u64 r1) ∧ W.cell? ⟨w.heap.size, 7, none⟩ = some (.slice al1 nl1 cl1) ∧ W.cell? ⟨w.heap.size, 8, none⟩ = some (.slice af1 nf1 cf1) ∧ W.cell? ⟨w.heap.size, 9, none⟩ = some (.string c1) ∧ W.cell? ⟨w.heap.size, 10, none⟩ = some (.int .i64 v1) ∧ W.cell? ⟨fb, 0, none⟩ = some (.int .i64 t2.kind) ∧ W.cell? ⟨fb, 1, none⟩ = some (.bool b2) ∧ W.cell? ⟨fb, 2, none⟩ = some (.int .i64 i2) ∧ W.cell? ⟨fb, 3, none⟩ = some (.float .f64 f2) ∧ W.cell? ⟨fb, 4, none⟩ = some (.string x2) ∧ W.cell? ⟨fb, 5, none⟩ = some (.slice ab2 nb2 cb2) ∧ W.cell? ⟨fb, 6, none⟩ = some (.int .u64 r2) ∧ W.cell? ⟨fb, 7, none⟩ = some (.slice al2 nl2 cl2) ∧ W.cell? ⟨fb, 8, none⟩ = some (.slice af2 nf2 cf2) ∧ W.cell? ⟨fb, 9, none⟩ = some (.string c2) ∧ W.cell? ⟨fb, 10, none⟩ = some (.int .i64 v2) ∧ W.cell? ⟨lb, 0, none⟩ = some (.int .i64 t3.kind) ∧ W.cell? ⟨lb, 1, none⟩ = some (.bool b3) ∧ W.cell? ⟨lb, 2, none⟩ = some (.int .i64 i3) ∧ W.cell? ⟨lb, 3, none⟩ = some (.float .f64 f3) ∧ W.cell? ⟨lb, 4, none⟩ = some (.string x3) ∧ W.cell? ⟨lb, 5, none⟩ = some (.slice ab3 nb3 cb3) ∧ W.cell? ⟨lb, 6, none⟩ = some (.int .u64 r3) ∧ W.cell? ⟨lb, 7, none⟩ = some (.slice al3 nl3 cl3) ∧ W.cell? ⟨lb, 8, none⟩ = some (.slice af3 nf3 cf3) ∧ W.cell? ⟨lb, 9, none⟩ = some (.string c3) ∧ W.cell? ⟨lb, 10, none⟩ = some (.int .i64 v3)) := fun W hW => by
      obtain ⟨a0, a1, a2, a3, a4, a5, a6, a7, a8, a9, a10⟩ := tbox (w := W) (by rw [hW.block _ H0.out.kb]; exact H0.out.k)
      obtain ⟨a11, a12, a13, a14, a15, a16, a17, a18, a19, a20, a21⟩ := tbox (w := W) (by rw [hW.block _ H0.out.fb]; exact H0.out.f)
      obtain ⟨a22, a23, a24, a25, a26, a27, a28, a29, a30, a31, a32⟩ := tbox (w := W) (by rw [hW.block _ H0.out.lb]; exact H0.out.l)
      exact ⟨a0, a1, a2, a3, a4, a5, a6, a7, a8, a9, a10, a11, a12, a13, a14, a15, a16, a17, a18, a19, a20, a21, a22, a23, a24, a25, a26, a27, a28, a29, a30, a31, a32⟩
    have HS22 : Hid (∀ W, Below mb W0 W → W.cell? ⟨w.heap.size, 0, none⟩ = some (.int .i64 t1.kind) ∧ W.cell? ⟨w.heap.size, 1, none⟩ = some (.bool b1) ∧ W.cell? ⟨w.heap.size, 2, none⟩ = some (.int .i64 i1) ∧ W.cell? ⟨w.heap.size, 3, none⟩ = some (.float .f64 f1) ∧ W.cell? ⟨w.heap.size, 4, none⟩ = some (.string x1) ∧ W.cell? ⟨w.heap.size, 5, none⟩ = some (.slice ab1 nb1 cb1) ∧ W.cell? ⟨w.heap.size, 6, none⟩ = some (.int .u64 r1) ∧ W.cell? ⟨w.heap.size, 7, none⟩ = some (.slice al1 nl1 cl1) ∧ W.cell? ⟨w.heap.size, 8, none⟩ = some (.slice af1 nf1 cf1) ∧ W.cell? ⟨w.heap.size, 9, none⟩ = some (.string c1) ∧ W.cell? ⟨w.heap.size, 10, none⟩ = some (.int .i64 v1) ∧ W.cell? ⟨fb, 0, none⟩ = some (.int .i64 t2.kind) ∧ W.cell? ⟨fb, 1, none⟩ = some (.bool b2) ∧ W.cell? ⟨fb, 2, none⟩ = some (.int .i64 i2) ∧ W.cell? ⟨fb, 3, none⟩ = some (.float .f64 f2) ∧ W.cell? ⟨fb, 4, none⟩ = some (.string x2) ∧ W.cell? ⟨fb, 5, none⟩ = some (.slice ab2 nb2 cb2) ∧ W.cell? ⟨fb, 6, none⟩ = some (.int .u64 r2) ∧ W.cell? ⟨fb, 7, none⟩ = some (.slice al2 nl2 cl2) ∧ W.cell? ⟨fb, 8, none⟩ = some (.slice af2 nf2 cf2) ∧ W.cell? ⟨fb, 9, none⟩ = some (.string c2) ∧ W.cell? ⟨fb, 10, none⟩ = some (.int .i64 v2)) := fun W hW => by
      obtain ⟨a0, a1, a2, a3, a4, a5, a6, a7, a8, a9, a10, a11, a12, a13, a14, a15, a16, a17, a18, a19, a20, a21, a22, a23, a24, a25, a26, a27, a28, a29, a30, a31, a32⟩ := HS.out W hW
      exact ⟨a0, a1, a2, a3, a4, a5, a6, a7, a8, a9, a10, a11, a12, a13, a14, a15, a16, a17, a18, a19, a20, a21⟩
    have HD0 : Hid (DM W0 mb []) := ⟨(fun g hg => by cases hg), _, H0.out.m, .inl ⟨rfl, rfl⟩⟩
    have HZ : Hid (mb ≤ W0.heap.size) := Nat.le_of_lt HD0.out.lt
    have HBW : Hid (∀ W, Below mb W0 W → Below w.heap.size w W) := fun W hW => H0.out.bel.trans (hW.mono (Nat.le_of_lt H0.out.kb))
    clear H0
    go_region_held3 (fun W => W.cell? ⟨w.heap.size, 0, none⟩ = some (.int .i64 t1.kind) ∧ W.cell? ⟨w.heap.size, 1, none⟩ = some (.bool b1) ∧ W.cell? ⟨w.heap.size, 2, none⟩ = some (.int .i64 i1) ∧ W.cell? ⟨w.heap.size, 3, none⟩ = some (.float .f64 f1) ∧ W.cell? ⟨w.heap.size, 4, none⟩ = some (.string x1) ∧ W.cell? ⟨w.heap.size, 5, none⟩ = some (.slice ab1 nb1 cb1) ∧ W.cell? ⟨w.heap.size, 6, none⟩ = some (.int .u64 r1) ∧ W.cell? ⟨w.heap.size, 7, none⟩ = some (.slice al1 nl1 cl1) ∧ W.cell? ⟨w.heap.size, 8, none⟩ = some (.slice af1 nf1 cf1) ∧ W.cell? ⟨w.heap.size, 9, none⟩ = some (.string c1) ∧ W.cell? ⟨w.heap.size, 10, none⟩ = some (.int .i64 v1) ∧ W.cell? ⟨fb, 0, none⟩ = some (.int .i64 t2.kind) ∧ W.cell? ⟨fb, 1, none⟩ = some (.bool b2) ∧ W.cell? ⟨fb, 2, none⟩ = some (.int .i64 i2) ∧ W.cell? ⟨fb, 3, none⟩ = some (.float .f64 f2) ∧ W.cell? ⟨fb, 4, none⟩ = some (.string x2) ∧ W.cell? ⟨fb, 5, none⟩ = some (.slice ab2 nb2 cb2) ∧ W.cell? ⟨fb, 6, none⟩ = some (.int .u64 r2) ∧ W.cell? ⟨fb, 7, none⟩ = some (.slice al2 nl2 cl2) ∧ W.cell? ⟨fb, 8, none⟩ = some (.slice af2 nf2 cf2) ∧ W.cell? ⟨fb, 9, none⟩ = some (.string c2) ∧ W.cell? ⟨fb, 10, none⟩ = some (.int .i64 v2))
      (first | exact HS22.out _ (Below.refl _ _) | exact HS22.out _ (Below.refl _ _).drew | exact HS22.out _ HW1.out | exact HS22.out _ HW2.out | exact HS22.out _ HW3.out)
      ((first
        | (go_at_call_of 11 al1; refine (HB1.out _ ?_).mono ?_; exact HBW.out _ (Below.refl _ _).drew; rintro e w1 ⟨u1, rfl, hb1, hv1⟩; have HW1 : Hid (Below mb W0 w1) := (Below.refl _ _).drew.trans (hb1.mono HZ.out); have HD1 : Hid (DM w1 mb []) := HD0.out.call ((Below.refl _ _).drew.trans hb1); have HV1 : Hid (t1.V w1 (Lo w1.heap.size) u1) := t1.V_same (Same.refl _ _) (fun k hk => hk.2) u1 hv1; clear hb1 hv1)
        | (go_at_call_of 11 al2; refine (HB2.out _ ?_).mono ?_; exact HBW.out _ HW1.out; rintro e w2 ⟨u2, rfl, hb2, hv2⟩; have HW2 : Hid (Below mb W0 w2) := HW1.out.trans (hb2.mono (Nat.le_of_lt HD1.out.lt)); have HD2 : Hid (DM w2 mb []) := HD1.out.call hb2; have HV2 : Hid (t1.V w2 (Lo w2.heap.size) u1 ∧ t2.V w2 (Lo w2.heap.size) u2) := ⟨t1.V_same (fun k hk => hb2.block k hk) (fun k hk => Nat.lt_of_lt_of_le hk hb2.size) u1 HV1.out, t2.V_same (Same.refl _ _) (fun k hk => hk.2) u2 hv2⟩; clear hb2 hv2)
        | (go_at_call 33; refine (Put_any [] mb t1 t2 u1 u2 _ HD2.out HV2.out.1 HBD.out.1 HV2.out.2 HBD.out.2.1).mono ?_; rintro e w3 hput; obtain ⟨p3, had3, e0, o, G3, rfl, hb3, hd3, hk3, ho3⟩ := put_first (L := L) hput; have HW3 : Hid (Below mb W0 w3) := HW2.out.trans hb3; have HD3 : Hid (DM w3 mb G3 ∧ Kp t1 L 0 o G3 ∧ ((e0 = 0 ∧ o = some t2 ∧ t2.all.e = 0) ∨ (e0 ≠ 0 ∧ o = none))) := ⟨hd3, hk3, ho3⟩; clear hput hb3 hd3 hk3 ho3)))
    clear HD0 HD1 HD2 HV1 HV2 HW1 HW2
    all_goals go_wp2_with fail
    go_loopw [13] (fun x wr => ∃ (k : Nat) (G : List (ByteArray × Tm)), x = .int .i64 k ∧ k ≤ L.len ∧ Hid (Below mb W0 wr ∧ DM wr mb G ∧ Kp t1 L k o G)) (fun x _ => L.len - (intOf x).toNat)
    case atStart => exact ⟨0, G3, rfl, Nat.zero_le _, HW3.out, HD3.out.1, HD3.out.2.1⟩
    case round =>
      obtain ⟨k, G, rfl, hk, HI⟩ := hrel
      rcases Nat.lt_or_ge k L.len with hlt | hge
      · go_wp2_with fail
        obtain ⟨t4, hx⟩ := L.nth_some k hlt
        obtain ⟨g, oo, cs, rfl, hg, hcs, hin⟩ := L.In_nth al 0 k t4 HLI.out hx
        rw [Nat.zero_add] at hcs
        have HIN : Hid (L.nth k = some t4 ∧ t4.Bdd) := ⟨hx, t4.In_bdd _ hin⟩
        have HB4 : Hid (∀ W, Below w.heap.size w W → Calls Try.prog 11 #[.agg cs] W fun e w' => ∃ v, e = .returned v ∧ Below W.heap.size W w' ∧ t4.V w' (Fr W w') v) := fun W hW =>
          built_any t4.sz t4 (Nat.le_refl _) cs _ W (t4.In_same (Same.of_below hW (Nat.le_refl _)) (fun _ h => h) cs hin) (Sub.lo hW.size)
        have HSM : Hid (∀ W, Below w.heap.size w W → Calls Try.prog 21 #[.agg cs, .agg #[.int .i64 t1.kind, .bool b1, .int .i64 i1, .float .f64 f1, .string x1, .slice ab1 nb1 cb1, .int .u64 r1, .slice al1 nl1 cl1, .slice af1 nf1 cf1, .string c1, .int .i64 v1]] W fun e w' => e = .returned (.bool (t4.sameB t1)) ∧ Below W.heap.size W w') := fun W hW =>
          refSame_any t4 t1 cs _ (Lo w.heap.size) W (t4.In_same (Same.of_below hW (Nat.le_refl _)) (fun _ h => h) cs hin) (t1.In_same (Same.of_below hW (Nat.le_refl _)) (fun _ h => h) _ H123.out.1) (Sub.lo hW.size)
        have HEL : Hid (∀ W, Below mb W0 W → ∀ x, x < 11 → W.cell? ⟨g, oo + k * 11 + x, none⟩ = cs[x]?) := fun W hW x hx => by rw [(HBW.out W hW).cell (p := ⟨g, oo + k * 11 + x, none⟩) hg]; exact hcs x hx
        obtain ⟨b4, i4, f4, x4, ab4, nb4, cb4, r4, al4, nl4, cl4, af4, nf4, cf4, c4, v4, rfl⟩ := Tm.In_boxS hin
        unfold tcells at HB4 HSM
        have HSE : Hid (∀ W, Below mb W0 W → W.cell? ⟨g, oo + k * 11, none⟩ = some (.int .i64 t4.kind) ∧ W.cell? ⟨g, oo + k * 11 + 1, none⟩ = some (.bool b4) ∧ W.cell? ⟨g, oo + k * 11 + 2, none⟩ = some (.int .i64 i4) ∧ W.cell? ⟨g, oo + k * 11 + 3, none⟩ = some (.float .f64 f4) ∧ W.cell? ⟨g, oo + k * 11 + 4, none⟩ = some (.string x4) ∧ W.cell? ⟨g, oo + k * 11 + 5, none⟩ = some (.slice ab4 nb4 cb4) ∧ W.cell? ⟨g, oo + k * 11 + 6, none⟩ = some (.int .u64 r4) ∧ W.cell? ⟨g, oo + k * 11 + 7, none⟩ = some (.slice al4 nl4 cl4) ∧ W.cell? ⟨g, oo + k * 11 + 8, none⟩ = some (.slice af4 nf4 cf4) ∧ W.cell? ⟨g, oo + k * 11 + 9, none⟩ = some (.string c4) ∧ W.cell? ⟨g, oo + k * 11 + 10, none⟩ = some (.int .i64 v4) ∧ W.cell? ⟨w.heap.size, 0, none⟩ = some (.int .i64 t1.kind) ∧ W.cell? ⟨w.heap.size, 1, none⟩ = some (.bool b1) ∧ W.cell? ⟨w.heap.size, 2, none⟩ = some (.int .i64 i1) ∧ W.cell? ⟨w.heap.size, 3, none⟩ = some (.float .f64 f1) ∧ W.cell? ⟨w.heap.size, 4, none⟩ = some (.string x1) ∧ W.cell? ⟨w.heap.size, 5, none⟩ = some (.slice ab1 nb1 cb1) ∧ W.cell? ⟨w.heap.size, 6, none⟩ = some (.int .u64 r1) ∧ W.cell? ⟨w.heap.size, 7, none⟩ = some (.slice al1 nl1 cl1) ∧ W.cell? ⟨w.heap.size, 8, none⟩ = some (.slice af1 nf1 cf1) ∧ W.cell? ⟨w.heap.size, 9, none⟩ = some (.string c1) ∧ W.cell? ⟨w.heap.size, 10, none⟩ = some (.int .i64 v1)) := fun W hW => by
          obtain ⟨d0, d1, d2, d3, d4, d5, d6, d7, d8, d9, d10⟩ := eleven (w := W) (g := g) (o := oo + k * 11) (HEL.out W hW)
          obtain ⟨a0, a1, a2, a3, a4, a5, a6, a7, a8, a9, a10, a11, a12, a13, a14, a15, a16, a17, a18, a19, a20, a21, a22, a23, a24, a25, a26, a27, a28, a29, a30, a31, a32⟩ := HS.out W hW
          exact ⟨d0, d1, d2, d3, d4, d5, d6, d7, d8, d9, d10, a0, a1, a2, a3, a4, a5, a6, a7, a8, a9, a10⟩
        have hi0 : (0 : Int) ≤ (k : Int) := Int.natCast_nonneg _
        have hi1 : (k : Int) < (L.len : Int) := by omega
        clear hx hg hcs hin HEL
        generalize hsm : t4.sameB t1 = sm at HSM
        have HSF : Hid (t4.sameB t1 = sm) := hsm
        clear hsm
        go_region_held3 (fun W => W.cell? ⟨g, oo + k * 11, none⟩ = some (.int .i64 t4.kind) ∧ W.cell? ⟨g, oo + k * 11 + 1, none⟩ = some (.bool b4) ∧ W.cell? ⟨g, oo + k * 11 + 2, none⟩ = some (.int .i64 i4) ∧ W.cell? ⟨g, oo + k * 11 + 3, none⟩ = some (.float .f64 f4) ∧ W.cell? ⟨g, oo + k * 11 + 4, none⟩ = some (.string x4) ∧ W.cell? ⟨g, oo + k * 11 + 5, none⟩ = some (.slice ab4 nb4 cb4) ∧ W.cell? ⟨g, oo + k * 11 + 6, none⟩ = some (.int .u64 r4) ∧ W.cell? ⟨g, oo + k * 11 + 7, none⟩ = some (.slice al4 nl4 cl4) ∧ W.cell? ⟨g, oo + k * 11 + 8, none⟩ = some (.slice af4 nf4 cf4) ∧ W.cell? ⟨g, oo + k * 11 + 9, none⟩ = some (.string c4) ∧ W.cell? ⟨g, oo + k * 11 + 10, none⟩ = some (.int .i64 v4) ∧ W.cell? ⟨w.heap.size, 0, none⟩ = some (.int .i64 t1.kind) ∧ W.cell? ⟨w.heap.size, 1, none⟩ = some (.bool b1) ∧ W.cell? ⟨w.heap.size, 2, none⟩ = some (.int .i64 i1) ∧ W.cell? ⟨w.heap.size, 3, none⟩ = some (.float .f64 f1) ∧ W.cell? ⟨w.heap.size, 4, none⟩ = some (.string x1) ∧ W.cell? ⟨w.heap.size, 5, none⟩ = some (.slice ab1 nb1 cb1) ∧ W.cell? ⟨w.heap.size, 6, none⟩ = some (.int .u64 r1) ∧ W.cell? ⟨w.heap.size, 7, none⟩ = some (.slice al1 nl1 cl1) ∧ W.cell? ⟨w.heap.size, 8, none⟩ = some (.slice af1 nf1 cf1) ∧ W.cell? ⟨w.heap.size, 9, none⟩ = some (.string c1) ∧ W.cell? ⟨w.heap.size, 10, none⟩ = some (.int .i64 v1))
          (first | exact HSE.out _ HI.out.1 | exact HSE.out _ HI.out.1.drew | exact HSE.out _ HW5.out)
          ((go_at_call 21; refine (HSM.out _ ?_).mono ?_; exact HBW.out _ HI.out.1.drew; rintro e w5 ⟨rfl, hb5⟩; have HW5 : Hid (Below mb W0 w5) := HI.out.1.drew.trans (hb5.mono (Nat.le_of_lt HI.out.2.1.lt)); have HD5 : Hid (DM w5 mb G) := HI.out.2.1.call ((Below.refl _ _).drew.trans hb5); clear hb5))
        cases sm
        · obtain ⟨d0, d1, d2, d3, d4, d5, d6, d7, d8, d9, d10, d11, d12, d13, d14, d15, d16, d17, d18, d19, d20, d21⟩ := HSE.out _ HW5.out
          go_wp2_with fail
          refine (HB4.out _ (HBW.out _ HW5.out)).mono ?_
          rintro e w6 ⟨u6, rfl, hb6, hv6⟩
          have HW6 : Hid (Below mb W0 w6) := HW5.out.trans (hb6.mono (Nat.le_of_lt HD5.out.lt))
          have HD6 : Hid (DM w6 mb G) := HD5.out.call hb6
          have HV6 : Hid (t4.V w6 (Lo w6.heap.size) u6) := t4.V_same (Same.refl _ _) (fun k hk => hk.2) u6 hv6
          clear hb6 hv6 d0 d1 d2 d3 d4 d5 d6 d7 d8 d9 d10 d11 d12 d13 d14 d15 d16 d17 d18 d19 d20 d21
          go_wp2_with fail
          refine (Put_any G mb t4 tTr u6 _ _ HD6.out HV6.out HIN.out.2 (tTr_V _ _) tTr_bdd).mono ?_
          rintro e w7 hput
          obtain ⟨p7, had7, e7, G7, rfl, hb7, hd7, hk7⟩ := put_other HI.out.2.2 HIN.out.1 HSF.out HBD.out.1 HIN.out.2 hput
          have H7 : Hid (Below mb W0 w7 ∧ DM w7 mb G7 ∧ Kp t1 L (k + 1) o G7) := ⟨HW6.out.trans hb7, hd7, hk7⟩
          clear hput hb7 hd7 hk7
          go_wp2_with fail
          go_roundw
          case rel => exact ⟨k + 1, G7, by go_num, by omega, H7.out⟩
          case measure => simp [intOf]; omega
        · go_wp2_with fail
          go_roundw
          case rel => exact ⟨k + 1, G, by go_num, by omega, HW5.out, HD5.out, HI.out.2.2.skip⟩
          case measure => simp [intOf]; omega
      · obtain rfl : k = L.len := by omega
        clear hk
        have HS13 : Hid (∀ W, Below mb W0 W → W.cell? ⟨w.heap.size, 0, none⟩ = some (.int .i64 t1.kind) ∧ W.cell? ⟨w.heap.size, 1, none⟩ = some (.bool b1) ∧ W.cell? ⟨w.heap.size, 2, none⟩ = some (.int .i64 i1) ∧ W.cell? ⟨w.heap.size, 3, none⟩ = some (.float .f64 f1) ∧ W.cell? ⟨w.heap.size, 4, none⟩ = some (.string x1) ∧ W.cell? ⟨w.heap.size, 5, none⟩ = some (.slice ab1 nb1 cb1) ∧ W.cell? ⟨w.heap.size, 6, none⟩ = some (.int .u64 r1) ∧ W.cell? ⟨w.heap.size, 7, none⟩ = some (.slice al1 nl1 cl1) ∧ W.cell? ⟨w.heap.size, 8, none⟩ = some (.slice af1 nf1 cf1) ∧ W.cell? ⟨w.heap.size, 9, none⟩ = some (.string c1) ∧ W.cell? ⟨w.heap.size, 10, none⟩ = some (.int .i64 v1) ∧ W.cell? ⟨lb, 0, none⟩ = some (.int .i64 t3.kind) ∧ W.cell? ⟨lb, 1, none⟩ = some (.bool b3) ∧ W.cell? ⟨lb, 2, none⟩ = some (.int .i64 i3) ∧ W.cell? ⟨lb, 3, none⟩ = some (.float .f64 f3) ∧ W.cell? ⟨lb, 4, none⟩ = some (.string x3) ∧ W.cell? ⟨lb, 5, none⟩ = some (.slice ab3 nb3 cb3) ∧ W.cell? ⟨lb, 6, none⟩ = some (.int .u64 r3) ∧ W.cell? ⟨lb, 7, none⟩ = some (.slice al3 nl3 cl3) ∧ W.cell? ⟨lb, 8, none⟩ = some (.slice af3 nf3 cf3) ∧ W.cell? ⟨lb, 9, none⟩ = some (.string c3) ∧ W.cell? ⟨lb, 10, none⟩ = some (.int .i64 v3)) := fun W hW => by
          obtain ⟨a0, a1, a2, a3, a4, a5, a6, a7, a8, a9, a10, a11, a12, a13, a14, a15, a16, a17, a18, a19, a20, a21, a22, a23, a24, a25, a26, a27, a28, a29, a30, a31, a32⟩ := HS.out W hW
          exact ⟨a0, a1, a2, a3, a4, a5, a6, a7, a8, a9, a10, a22, a23, a24, a25, a26, a27, a28, a29, a30, a31, a32⟩
        go_wp2_with fail
        go_region_held3 (fun W => W.cell? ⟨w.heap.size, 0, none⟩ = some (.int .i64 t1.kind) ∧ W.cell? ⟨w.heap.size, 1, none⟩ = some (.bool b1) ∧ W.cell? ⟨w.heap.size, 2, none⟩ = some (.int .i64 i1) ∧ W.cell? ⟨w.heap.size, 3, none⟩ = some (.float .f64 f1) ∧ W.cell? ⟨w.heap.size, 4, none⟩ = some (.string x1) ∧ W.cell? ⟨w.heap.size, 5, none⟩ = some (.slice ab1 nb1 cb1) ∧ W.cell? ⟨w.heap.size, 6, none⟩ = some (.int .u64 r1) ∧ W.cell? ⟨w.heap.size, 7, none⟩ = some (.slice al1 nl1 cl1) ∧ W.cell? ⟨w.heap.size, 8, none⟩ = some (.slice af1 nf1 cf1) ∧ W.cell? ⟨w.heap.size, 9, none⟩ = some (.string c1) ∧ W.cell? ⟨w.heap.size, 10, none⟩ = some (.int .i64 v1) ∧ W.cell? ⟨lb, 0, none⟩ = some (.int .i64 t3.kind) ∧ W.cell? ⟨lb, 1, none⟩ = some (.bool b3) ∧ W.cell? ⟨lb, 2, none⟩ = some (.int .i64 i3) ∧ W.cell? ⟨lb, 3, none⟩ = some (.float .f64 f3) ∧ W.cell? ⟨lb, 4, none⟩ = some (.string x3) ∧ W.cell? ⟨lb, 5, none⟩ = some (.slice ab3 nb3 cb3) ∧ W.cell? ⟨lb, 6, none⟩ = some (.int .u64 r3) ∧ W.cell? ⟨lb, 7, none⟩ = some (.slice al3 nl3 cl3) ∧ W.cell? ⟨lb, 8, none⟩ = some (.slice af3 nf3 cf3) ∧ W.cell? ⟨lb, 9, none⟩ = some (.string c3) ∧ W.cell? ⟨lb, 10, none⟩ = some (.int .i64 v3))
          (first | exact HS13.out _ HI.out.1 | exact HS13.out _ HI.out.1.drew | exact HS13.out _ HW6.out | exact HS13.out _ HW7.out | exact HS13.out _ HW8.out)
          ((first
            | (go_at_call_of 11 al1; refine (HB1.out _ ?_).mono ?_; exact HBW.out _ HI.out.1.drew; rintro e w6 ⟨u6, rfl, hb6, hv6⟩; have HW6 : Hid (Below mb W0 w6) := HI.out.1.drew.trans (hb6.mono (Nat.le_of_lt HI.out.2.1.lt)); have HD6 : Hid (DM w6 mb G) := HI.out.2.1.call ((Below.refl _ _).drew.trans hb6); have HV6 : Hid (t1.V w6 (Lo w6.heap.size) u6) := t1.V_same (Same.refl _ _) (fun k hk => hk.2) u6 hv6; clear hb6 hv6)
            | (go_at_call_of 11 al3; refine (HB3.out _ ?_).mono ?_; exact HBW.out _ HW6.out; rintro e w7 ⟨u7, rfl, hb7, hv7⟩; have HW7 : Hid (Below mb W0 w7) := HW6.out.trans (hb7.mono (Nat.le_of_lt HD6.out.lt)); have HD7 : Hid (DM w7 mb G) := HD6.out.call hb7; have HV7 : Hid (t1.V w7 (Lo w7.heap.size) u6 ∧ t3.V w7 (Lo w7.heap.size) u7) := ⟨t1.V_same (fun k hk => hb7.block k hk) (fun k hk => Nat.lt_of_lt_of_le hk hb7.size) u6 HV6.out, t3.V_same (Same.refl _ _) (fun k hk => hk.2) u7 hv7⟩; clear hb7 hv7)
            | (go_at_call 33; refine (Put_any G mb t1 t3 u6 u7 _ HD7.out HV7.out.1 HBD.out.1 HV7.out.2 HBD.out.2.2.1).mono ?_; rintro e w8 hput; obtain ⟨p8, had8, e1, o', G8, rfl, hb8, hd8, hk8, ho8⟩ := put_last HI.out.2.2 hput; have HW8 : Hid (Below mb W0 w8) := HW7.out.trans hb8; have HD8 : Hid (DM w8 mb G8 ∧ Kp t1 L L.len o' G8 ∧ ((e1 = 0 ∧ had8 = o.isSome ∧ o' = some t3 ∧ t3.all.e = 0) ∨ (e1 ≠ 0 ∧ o' = o))) := ⟨hd8, hk8, ho8⟩; clear hput hb8 hd8 hk8 ho8)))
        clear HD6 HD7 HV6 HV7 HW6 HW7 HI
        all_goals go_wp2_with fail
        go_loopw [17] (fun x wr => ∃ (k : Nat) (G : List (ByteArray × Tm)) (z : Int), x = .int .i64 z ∧ z = (k : Int) - 1 ∧ k ≤ L.len ∧ Hid (Below mb W0 wr ∧ DM wr mb G ∧ Kp t1 L k o' G)) (fun x _ => (intOf x + 1).toNat)
        case atStart => exact ⟨L.len, G8, _, rfl, by go_num, Nat.le_refl _, HW8.out, HD8.out.1, HD8.out.2.1⟩
        case round =>
          obtain ⟨k, G, z, rfl, hz, hk, HI⟩ := hrel
          cases k with
          | zero =>
            have hzn : z < 0 := by omega
            clear hz
            obtain ⟨a0, a1, a2, a3, a4, a5, a6, a7, a8, a9, a10, a11, a12, a13, a14, a15, a16, a17, a18, a19, a20, a21, a22, a23, a24, a25, a26, a27, a28, a29, a30, a31, a32⟩ := HS.out _ HI.out.1
            go_wp2_with fail
            refine (HB1.out _ (HBW.out _ HI.out.1)).mono ?_
            rintro e w9 ⟨u9, rfl, hb9, hv9⟩
            have HW9 : Hid (Below mb W0 w9) := HI.out.1.trans (hb9.mono (Nat.le_of_lt HI.out.2.1.lt))
            have HD9 : Hid (DM w9 mb G) := HI.out.2.1.call hb9
            have HV9 : Hid (t1.V w9 (Lo w9.heap.size) u9) := t1.V_same (Same.refl _ _) (fun k hk => hk.2) u9 hv9
            clear hb9 hv9 a0 a1 a2 a3 a4 a5 a6 a7 a8 a9 a10 a11 a12 a13 a14 a15 a16 a17 a18 a19 a20 a21 a22 a23 a24 a25 a26 a27 a28 a29 a30 a31 a32
            go_wp2_with fail
            refine (Get_val G mb t1 u9 _ HD9.out HV9.out HBD.out.1).mono ?_
            rintro e wa hget
            obtain ⟨hba, hga⟩ := get_key HI.out.2.2 hget
            have HWa : Hid (Below mb W0 wa) := HW9.out.trans (hba.mono (Nat.le_of_lt HD9.out.lt))
            have HDa : Hid (DM wa mb G) := HD9.out.call hba
            have HKa : Hid (Kp t1 L 0 o' G) := HI.out.2.2
            clear hget hba HV9 HD9 HW9 HI
            obtain ⟨-, -, h3⟩ := HD3.out
            obtain ⟨-, -, h8⟩ := HD8.out
            clear HD3 HD8
            rcases h8 with ⟨rfl, hh, rfl, ok3⟩ | ⟨he1, rfl⟩
            · rcases hga with ⟨t, v, ht, rfl, hv⟩ | ⟨hn, _⟩
              case inr => cases hn
              injection ht with ht
              subst ht
              rcases h3 with ⟨rfl, rfl, ok2⟩ | ⟨he0, rfl⟩
              · obtain rfl : had8 = true := by simpa using hh
                clear hh ok2
                have HLen : Hid (∀ W, Below wa.heap.size wa W → Calls Try.prog 36 #[.pointer (some ⟨mb, 0, none⟩)] W fun e w' => e = .returned (.int .i64 1) ∧ Below W.heap.size W w') := fun W hW => by
                  have := Len_any G mb W (HDa.out.call hW)
                  rw [HKa.out.some HDa.out.apart] at this
                  exact this
                have HIs : Hid (Calls Try.prog 14 #[v, .agg #[.int .i64 t3.kind, .bool b3, .int .i64 i3, .float .f64 f3, .string x3, .slice ab3 nb3 cb3, .int .u64 r3, .slice al3 nl3 cl3, .slice af3 nf3 cf3, .string c3, .int .i64 v3]] wa fun e w' => e = .returned (.bool true) ∧ Below wa.heap.size wa w') :=
                  Is_any t3 v _ wa (Lo wa.heap.size) (t3.V_same (Same.refl _ _) (fun k hk => hk.2) v hv) (t3.In_same (Same.of_below (HBW.out _ HWa.out) (Nat.le_refl _)) (fun k hk => Nat.lt_of_lt_of_le hk (HBW.out _ HWa.out).size) _ H123.out.2.2) (Sub.lo (Nat.le_refl _)) ok3
                clear hv HKa
                obtain ⟨a0, a1, a2, a3, a4, a5, a6, a7, a8, a9, a10, a11, a12, a13, a14, a15, a16, a17, a18, a19, a20, a21, a22, a23, a24, a25, a26, a27, a28, a29, a30, a31, a32⟩ := HS.out _ HWa.out
                go_wp2_with fail
                refine HIs.out.mono ?_
                rintro e wb ⟨rfl, hbb⟩
                have HBb : Hid (Below wa.heap.size wa wb) := hbb
                clear hbb a0 a1 a2 a3 a4 a5 a6 a7 a8 a9 a10 a11 a12 a13 a14 a15 a16 a17 a18 a19 a20 a21 a22 a23 a24 a25 a26 a27 a28 a29 a30 a31 a32
                go_wp2_with fail
                refine (HLen.out _ HBb.out).mono ?_
                rintro e wc ⟨rfl, hbc⟩
                have HBc : Hid (Below w.heap.size w wc) := below_to (HBW.out _ HWa.out) (below_to HBb.out hbc)
                clear hbc
                go_wp2_with fail
                go_ret
                exact ⟨rfl, HBc.out⟩
              · obtain rfl : had8 = false := by simpa using hh
                have he0' := ne_bool he0
                have he0e : (e0 == 0) = false := by simp [he0]
                clear hh he0
                have HLen : Hid (∀ W, Below wa.heap.size wa W → Calls Try.prog 36 #[.pointer (some ⟨mb, 0, none⟩)] W fun e w' => e = .returned (.int .i64 1) ∧ Below W.heap.size W w') := fun W hW => by
                  have := Len_any G mb W (HDa.out.call hW)
                  rw [HKa.out.some HDa.out.apart] at this
                  exact this
                have HIs : Hid (Calls Try.prog 14 #[v, .agg #[.int .i64 t3.kind, .bool b3, .int .i64 i3, .float .f64 f3, .string x3, .slice ab3 nb3 cb3, .int .u64 r3, .slice al3 nl3 cl3, .slice af3 nf3 cf3, .string c3, .int .i64 v3]] wa fun e w' => e = .returned (.bool true) ∧ Below wa.heap.size wa w') :=
                  Is_any t3 v _ wa (Lo wa.heap.size) (t3.V_same (Same.refl _ _) (fun k hk => hk.2) v hv) (t3.In_same (Same.of_below (HBW.out _ HWa.out) (Nat.le_refl _)) (fun k hk => Nat.lt_of_lt_of_le hk (HBW.out _ HWa.out).size) _ H123.out.2.2) (Sub.lo (Nat.le_refl _)) ok3
                clear hv HKa
                obtain ⟨a0, a1, a2, a3, a4, a5, a6, a7, a8, a9, a10, a11, a12, a13, a14, a15, a16, a17, a18, a19, a20, a21, a22, a23, a24, a25, a26, a27, a28, a29, a30, a31, a32⟩ := HS.out _ HWa.out
                go_wp2_with fail
                refine HIs.out.mono ?_
                rintro e wb ⟨rfl, hbb⟩
                have HBb : Hid (Below wa.heap.size wa wb) := hbb
                clear hbb a0 a1 a2 a3 a4 a5 a6 a7 a8 a9 a10 a11 a12 a13 a14 a15 a16 a17 a18 a19 a20 a21 a22 a23 a24 a25 a26 a27 a28 a29 a30 a31 a32
                go_wp2_with fail
                refine (HLen.out _ HBb.out).mono ?_
                rintro e wc ⟨rfl, hbc⟩
                have HBc : Hid (Below w.heap.size w wc) := below_to (HBW.out _ HWa.out) (below_to HBb.out hbc)
                clear hbc
                go_wp2_with fail
                go_ret
                exact ⟨rfl, HBc.out⟩
            · have he1' := ne_bool he1
              rcases h3 with ⟨rfl, rfl, ok2⟩ | ⟨he0, rfl⟩
              · rcases hga with ⟨t, v, ht, rfl, hv⟩ | ⟨hn, _⟩
                case inr => cases hn
                injection ht with ht
                subst ht
                by_cases hfl : e1 = 50
                · subst hfl
                  have HBc : Hid (Below w.heap.size w wa) := HBW.out _ HWa.out
                  clear hv he1 he1'
                  go_wp2_with fail
                  go_ret
                  exact ⟨rfl, HBc.out⟩
                · have hfl' : (e1 == 50) = false := by simp [hfl]
                  clear he1 hfl
                  have HLen : Hid (∀ W, Below wa.heap.size wa W → Calls Try.prog 36 #[.pointer (some ⟨mb, 0, none⟩)] W fun e w' => e = .returned (.int .i64 1) ∧ Below W.heap.size W w') := fun W hW => by
                    have := Len_any G mb W (HDa.out.call hW)
                    rw [HKa.out.some HDa.out.apart] at this
                    exact this
                  have HIs : Hid (Calls Try.prog 14 #[v, .agg #[.int .i64 t2.kind, .bool b2, .int .i64 i2, .float .f64 f2, .string x2, .slice ab2 nb2 cb2, .int .u64 r2, .slice al2 nl2 cl2, .slice af2 nf2 cf2, .string c2, .int .i64 v2]] wa fun e w' => e = .returned (.bool true) ∧ Below wa.heap.size wa w') :=
                    Is_any t2 v _ wa (Lo wa.heap.size) (t2.V_same (Same.refl _ _) (fun k hk => hk.2) v hv) (t2.In_same (Same.of_below (HBW.out _ HWa.out) (Nat.le_refl _)) (fun k hk => Nat.lt_of_lt_of_le hk (HBW.out _ HWa.out).size) _ H123.out.2.1) (Sub.lo (Nat.le_refl _)) ok2
                  clear hv HKa
                  obtain ⟨a0, a1, a2, a3, a4, a5, a6, a7, a8, a9, a10, a11, a12, a13, a14, a15, a16, a17, a18, a19, a20, a21, a22, a23, a24, a25, a26, a27, a28, a29, a30, a31, a32⟩ := HS.out _ HWa.out
                  go_wp2_with fail
                  refine HIs.out.mono ?_
                  rintro e wb ⟨rfl, hbb⟩
                  have HBb : Hid (Below wa.heap.size wa wb) := hbb
                  clear hbb a0 a1 a2 a3 a4 a5 a6 a7 a8 a9 a10 a11 a12 a13 a14 a15 a16 a17 a18 a19 a20 a21 a22 a23 a24 a25 a26 a27 a28 a29 a30 a31 a32
                  go_wp2_with fail
                  refine (HLen.out _ HBb.out).mono ?_
                  rintro e wc ⟨rfl, hbc⟩
                  have HBc : Hid (Below w.heap.size w wc) := below_to (HBW.out _ HWa.out) (below_to HBb.out hbc)
                  clear hbc
                  go_wp2_with fail
                  go_ret
                  exact ⟨rfl, HBc.out⟩
              · rcases hga with ⟨t, v, ht, _⟩ | ⟨_, rfl⟩
                · cases ht
                have he0' := ne_bool he0
                have HLen : Hid (∀ W, Below wa.heap.size wa W → Calls Try.prog 36 #[.pointer (some ⟨mb, 0, none⟩)] W fun e w' => e = .returned (.int .i64 0) ∧ Below W.heap.size W w') := fun W hW => by
                  have := Len_any G mb W (HDa.out.call hW)
                  rw [HKa.out.none] at this
                  exact this
                clear he0 he1 HKa
                go_wp2_with fail
                refine (one_put wa).mono ?_
                rintro e wb ⟨pb, hdb, rfl, hbb, hdm⟩
                have HBb : Hid (Below wa.heap.size wa wb ∧ DM wb wa.heap.size [(tAq.key, tNl)]) := ⟨hbb, hdm⟩
                clear hbb hdm
                go_wp2_with fail
                refine (one_get _ _ HBb.out.2).mono ?_
                rintro e wc ⟨rfl, hbc⟩
                have HBc : Hid (Below wa.heap.size wa wc) := HBb.out.1.trans (hbc.mono HBb.out.1.size)
                clear hbc
                go_wp2_with fail
                refine (HLen.out _ HBc.out).mono ?_
                rintro e wd ⟨rfl, hbd⟩
                have HBd : Hid (Below w.heap.size w wd) := below_to (HBW.out _ HWa.out) (below_to HBc.out hbd)
                clear hbd
                go_wp2_with fail
                go_ret
                exact ⟨rfl, HBd.out⟩
          | succ k =>
            obtain rfl : z = (k : Int) := by omega
            have hlt : k < L.len := by omega
            clear hz
            go_wp2_with fail
            obtain ⟨t4, hx⟩ := L.nth_some k hlt
            obtain ⟨g, oo, cs, rfl, hg, hcs, hin⟩ := L.In_nth al 0 k t4 HLI.out hx
            rw [Nat.zero_add] at hcs
            have HIN : Hid (L.nth k = some t4 ∧ t4.Bdd) := ⟨hx, t4.In_bdd _ hin⟩
            have HB4 : Hid (∀ W, Below w.heap.size w W → Calls Try.prog 11 #[.agg cs] W fun e w' => ∃ v, e = .returned v ∧ Below W.heap.size W w' ∧ t4.V w' (Fr W w') v) := fun W hW =>
              built_any t4.sz t4 (Nat.le_refl _) cs _ W (t4.In_same (Same.of_below hW (Nat.le_refl _)) (fun _ h => h) cs hin) (Sub.lo hW.size)
            have HSM : Hid (∀ W, Below w.heap.size w W → Calls Try.prog 21 #[.agg cs, .agg #[.int .i64 t1.kind, .bool b1, .int .i64 i1, .float .f64 f1, .string x1, .slice ab1 nb1 cb1, .int .u64 r1, .slice al1 nl1 cl1, .slice af1 nf1 cf1, .string c1, .int .i64 v1]] W fun e w' => e = .returned (.bool (t4.sameB t1)) ∧ Below W.heap.size W w') := fun W hW =>
              refSame_any t4 t1 cs _ (Lo w.heap.size) W (t4.In_same (Same.of_below hW (Nat.le_refl _)) (fun _ h => h) cs hin) (t1.In_same (Same.of_below hW (Nat.le_refl _)) (fun _ h => h) _ H123.out.1) (Sub.lo hW.size)
            have HEL : Hid (∀ W, Below mb W0 W → ∀ x, x < 11 → W.cell? ⟨g, oo + k * 11 + x, none⟩ = cs[x]?) := fun W hW x hx => by rw [(HBW.out W hW).cell (p := ⟨g, oo + k * 11 + x, none⟩) hg]; exact hcs x hx
            obtain ⟨b4, i4, f4, x4, ab4, nb4, cb4, r4, al4, nl4, cl4, af4, nf4, cf4, c4, v4, rfl⟩ := Tm.In_boxS hin
            unfold tcells at HB4 HSM
            have HSE : Hid (∀ W, Below mb W0 W → W.cell? ⟨g, oo + k * 11, none⟩ = some (.int .i64 t4.kind) ∧ W.cell? ⟨g, oo + k * 11 + 1, none⟩ = some (.bool b4) ∧ W.cell? ⟨g, oo + k * 11 + 2, none⟩ = some (.int .i64 i4) ∧ W.cell? ⟨g, oo + k * 11 + 3, none⟩ = some (.float .f64 f4) ∧ W.cell? ⟨g, oo + k * 11 + 4, none⟩ = some (.string x4) ∧ W.cell? ⟨g, oo + k * 11 + 5, none⟩ = some (.slice ab4 nb4 cb4) ∧ W.cell? ⟨g, oo + k * 11 + 6, none⟩ = some (.int .u64 r4) ∧ W.cell? ⟨g, oo + k * 11 + 7, none⟩ = some (.slice al4 nl4 cl4) ∧ W.cell? ⟨g, oo + k * 11 + 8, none⟩ = some (.slice af4 nf4 cf4) ∧ W.cell? ⟨g, oo + k * 11 + 9, none⟩ = some (.string c4) ∧ W.cell? ⟨g, oo + k * 11 + 10, none⟩ = some (.int .i64 v4) ∧ W.cell? ⟨w.heap.size, 0, none⟩ = some (.int .i64 t1.kind) ∧ W.cell? ⟨w.heap.size, 1, none⟩ = some (.bool b1) ∧ W.cell? ⟨w.heap.size, 2, none⟩ = some (.int .i64 i1) ∧ W.cell? ⟨w.heap.size, 3, none⟩ = some (.float .f64 f1) ∧ W.cell? ⟨w.heap.size, 4, none⟩ = some (.string x1) ∧ W.cell? ⟨w.heap.size, 5, none⟩ = some (.slice ab1 nb1 cb1) ∧ W.cell? ⟨w.heap.size, 6, none⟩ = some (.int .u64 r1) ∧ W.cell? ⟨w.heap.size, 7, none⟩ = some (.slice al1 nl1 cl1) ∧ W.cell? ⟨w.heap.size, 8, none⟩ = some (.slice af1 nf1 cf1) ∧ W.cell? ⟨w.heap.size, 9, none⟩ = some (.string c1) ∧ W.cell? ⟨w.heap.size, 10, none⟩ = some (.int .i64 v1)) := fun W hW => by
              obtain ⟨d0, d1, d2, d3, d4, d5, d6, d7, d8, d9, d10⟩ := eleven (w := W) (g := g) (o := oo + k * 11) (HEL.out W hW)
              obtain ⟨a0, a1, a2, a3, a4, a5, a6, a7, a8, a9, a10, a11, a12, a13, a14, a15, a16, a17, a18, a19, a20, a21, a22, a23, a24, a25, a26, a27, a28, a29, a30, a31, a32⟩ := HS.out W hW
              exact ⟨d0, d1, d2, d3, d4, d5, d6, d7, d8, d9, d10, a0, a1, a2, a3, a4, a5, a6, a7, a8, a9, a10⟩
            have hi0 : (0 : Int) ≤ (k : Int) := Int.natCast_nonneg _
            have hi1 : (k : Int) < (L.len : Int) := by omega
            clear hx hg hcs hin HEL
            generalize hsm : t4.sameB t1 = sm at HSM
            have HSF : Hid (t4.sameB t1 = sm) := hsm
            clear hsm
            go_region_held3 (fun W => W.cell? ⟨g, oo + k * 11, none⟩ = some (.int .i64 t4.kind) ∧ W.cell? ⟨g, oo + k * 11 + 1, none⟩ = some (.bool b4) ∧ W.cell? ⟨g, oo + k * 11 + 2, none⟩ = some (.int .i64 i4) ∧ W.cell? ⟨g, oo + k * 11 + 3, none⟩ = some (.float .f64 f4) ∧ W.cell? ⟨g, oo + k * 11 + 4, none⟩ = some (.string x4) ∧ W.cell? ⟨g, oo + k * 11 + 5, none⟩ = some (.slice ab4 nb4 cb4) ∧ W.cell? ⟨g, oo + k * 11 + 6, none⟩ = some (.int .u64 r4) ∧ W.cell? ⟨g, oo + k * 11 + 7, none⟩ = some (.slice al4 nl4 cl4) ∧ W.cell? ⟨g, oo + k * 11 + 8, none⟩ = some (.slice af4 nf4 cf4) ∧ W.cell? ⟨g, oo + k * 11 + 9, none⟩ = some (.string c4) ∧ W.cell? ⟨g, oo + k * 11 + 10, none⟩ = some (.int .i64 v4) ∧ W.cell? ⟨w.heap.size, 0, none⟩ = some (.int .i64 t1.kind) ∧ W.cell? ⟨w.heap.size, 1, none⟩ = some (.bool b1) ∧ W.cell? ⟨w.heap.size, 2, none⟩ = some (.int .i64 i1) ∧ W.cell? ⟨w.heap.size, 3, none⟩ = some (.float .f64 f1) ∧ W.cell? ⟨w.heap.size, 4, none⟩ = some (.string x1) ∧ W.cell? ⟨w.heap.size, 5, none⟩ = some (.slice ab1 nb1 cb1) ∧ W.cell? ⟨w.heap.size, 6, none⟩ = some (.int .u64 r1) ∧ W.cell? ⟨w.heap.size, 7, none⟩ = some (.slice al1 nl1 cl1) ∧ W.cell? ⟨w.heap.size, 8, none⟩ = some (.slice af1 nf1 cf1) ∧ W.cell? ⟨w.heap.size, 9, none⟩ = some (.string c1) ∧ W.cell? ⟨w.heap.size, 10, none⟩ = some (.int .i64 v1))
              (first | exact HSE.out _ HI.out.1 | exact HSE.out _ HI.out.1.drew | exact HSE.out _ HW5.out)
              ((go_at_call 21; refine (HSM.out _ ?_).mono ?_; exact HBW.out _ HI.out.1.drew; rintro e w5 ⟨rfl, hb5⟩; have HW5 : Hid (Below mb W0 w5) := HI.out.1.drew.trans (hb5.mono (Nat.le_of_lt HI.out.2.1.lt)); have HD5 : Hid (DM w5 mb G) := HI.out.2.1.call ((Below.refl _ _).drew.trans hb5); clear hb5))
            cases sm
            · obtain ⟨d0, d1, d2, d3, d4, d5, d6, d7, d8, d9, d10, d11, d12, d13, d14, d15, d16, d17, d18, d19, d20, d21⟩ := HSE.out _ HW5.out
              go_wp2_with fail
              refine (HB4.out _ (HBW.out _ HW5.out)).mono ?_
              rintro e w6 ⟨u6, rfl, hb6, hv6⟩
              have HW6 : Hid (Below mb W0 w6) := HW5.out.trans (hb6.mono (Nat.le_of_lt HD5.out.lt))
              have HD6 : Hid (DM w6 mb G) := HD5.out.call hb6
              have HV6 : Hid (t4.V w6 (Lo w6.heap.size) u6) := t4.V_same (Same.refl _ _) (fun k hk => hk.2) u6 hv6
              clear hb6 hv6 d0 d1 d2 d3 d4 d5 d6 d7 d8 d9 d10 d11 d12 d13 d14 d15 d16 d17 d18 d19 d20 d21
              go_wp2_with fail
              refine (Delete_val G mb t4 u6 _ HD6.out HV6.out HIN.out.2).mono ?_
              rintro e w7 hput
              obtain ⟨p7, had7, G7, rfl, hb7, hd7, hk7⟩ := del_other HI.out.2.2 HI.out.2.1.apart HIN.out.1 HSF.out HBD.out.1 HIN.out.2 hput
              have H7 : Hid (Below mb W0 w7 ∧ DM w7 mb G7 ∧ Kp t1 L k o' G7) := ⟨HW6.out.trans hb7, hd7, hk7⟩
              clear hput hb7 hd7 hk7
              go_wp2_with fail
              go_roundw
              case rel => exact ⟨k, G7, _, rfl, by go_num, by omega, H7.out⟩
              case measure => first | (simp [intOf]; done) | (simp [intOf]; omega)
            · go_wp2_with fail
              go_roundw
              case rel => exact ⟨k, G, _, rfl, by go_num, by omega, HW5.out, HD5.out, HI.out.2.2.drop HIN.out.1 (.inr HSF.out)⟩
              case measure => first | (simp [intOf]; done) | (simp [intOf]; omega)
end Go.Proofs.Ytadcbhdhgobknaa

