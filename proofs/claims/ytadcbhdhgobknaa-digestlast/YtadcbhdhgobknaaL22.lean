/- The document's own order of two terms (tenonref01.Compare), kind by kind. -/
import Derived.Test.YtadcbhdhgobknaaL21
import Derived.Laws.BytesArg
import Derived.Test.YtadcbhdhgobknaaL14
namespace Go.Proofs.Ytadcbhdhgobknaa
open Go.RowKit

theorem two_below (w : World) (o p : Obj) : Below w.heap.size w ((w.alloc o).alloc p) := ((Below.refl _ _).alloc (Nat.le_refl _) _).alloc (by simp) _
theorem cmpI_add (a b c : Int) : Sp.cmpI (a + c) (b + c) = Sp.cmpI a b := by unfold Sp.cmpI; simp
theorem wrap_plus {i : Int} (h0 : -9223372036854775808 ≤ i) (h1 : i ≤ 9223372036854775807) : IntKind.u64.wrap (IntKind.u64.wrap i + 9223372036854775808) = i + 9223372036854775808 := by
  rw [IntKind.wrap_u64, IntKind.wrap_u64]; omega

theorem Try.undU : Try.prog.underlying 5 = some (.int .u8) := by kernel_rfl
theorem Try.undS : Try.prog.underlying 9 = some .string := by kernel_rfl
theorem nums_at (x : ByteArray) (i : Nat) (h : i < x.size) : (x.data.toList.map fun u => (u.toNat : Int)).getD i 0 = Sp.byte x i := by
  have h' : i < x.data.size := h
  unfold Sp.byte
  have e : x.data[i]? = some x.data[i] := Array.getElem?_eq_getElem h'
  simp only [List.getD, List.getElem?_map, Array.getElem?_toList, e, Option.map_some, Option.getD_some, Array.getD, dif_pos h']
  rfl
theorem str_of (x : ByteArray) : strOfNums (x.data.toList.map fun u => (u.toNat : Int)) = x := by
  unfold strOfNums
  rw [List.map_map]
  have : ((fun n : Int => UInt8.ofNat n.toNat) ∘ fun u : UInt8 => (u.toNat : Int)) = id := by funext u; simp
  rw [this, List.map_id]
theorem conv_run (x : ByteArray) (a : Option Addr) (c : Nat) (S : Nat → Prop) (w : World) (ha : BytesAt w S a x) : (convert 23 9 (.slice a x.size c)).run Try.prog w = .ok (.string x) w := by
  by_cases h0 : x.size = 0
  · obtain rfl := ba_empty h0
    cases a with
    | none => exact run_convert_bytes_nil w _ 5 Try.undB Try.undU _ _ _ Try.undS
    | some a =>
      rw [run_convert_bytes_string w _ _ 5 _ _ _ Try.undB Try.undU Try.undS]
      exact run_bytesToString w a 0 c [] rfl
  · obtain ⟨g, o, rfl, _, _⟩ := ha 0 (by omega)
    have := run_convert_bytes_arg (P := Try.prog) w 23 5 Try.undB Try.undU g o x.size c (x.data.toList.map fun u => (u.toNat : Int)) (by simp) (fun i hi => by
      obtain ⟨g', o', e, _, hc⟩ := ha i hi
      simp only [Option.some.injEq, Addr.mk.injEq, and_true] at e
      obtain ⟨rfl, rfl⟩ := e
      rw [hc, nums_at x i hi]) 9 Try.undS
    rw [this, str_of]

section
variable (b : Bool) (i : Int) (f : Nat) (tx : ByteArray) (vb : Value) (rf : Int) (vl vf : Value) (c : ByteArray) (vr : Int)
variable (b2 : Bool) (i2 : Int) (f2 : Nat) (tx2 : ByteArray) (vb2 : Value) (rf2 : Int) (vl2 vf2 : Value) (c2 : ByteArray) (vr2 : Int) (w : World)
set_option maxRecDepth 100000 in
set_option maxHeartbeats 1000000 in
theorem compare_diff (k k2 : Int) (hne : k ≠ k2) (h1 : 1 ≤ k) (h2 : k ≤ 10) (g1 : 1 ≤ k2) (g2 : k2 ≤ 10) :
    Calls Try.prog 48 #[.agg (tcells k b i f tx vb rf vl vf c vr), .agg (tcells k2 b2 i2 f2 tx2 vb2 rf2 vl2 vf2 c2 vr2)] w fun e w' => e = .returned (.int .i64 (Sp.cmpI k k2)) ∧ Below w.heap.size w w' := by
  unfold tcells
  have hn : (k != k2) = true := by simp [hne]
  have e1 : IntKind.u64.wrap k = k := wrapU (by omega) (by omega)
  have e2 : IntKind.u64.wrap k2 = k2 := wrapU (by omega) (by omega)
  have HB := two_below w
  have HB : Hid _ := HB
  clear hne h1 h2 g1 g2
  go_enter Try.func48, Try.ntmps48
  go_wp2_with (go_at_call 85; refine (numbers_any _ _ _).mono ?_; rintro e w' ⟨rfl, rfl⟩)
  go_ret
  exact ⟨rfl, HB.out _ _⟩
set_option maxRecDepth 100000 in
set_option maxHeartbeats 1000000 in
theorem compare_1 :
    Calls Try.prog 48 #[.agg (tcells 1 b i f tx vb rf vl vf c vr), .agg (tcells 1 b2 i2 f2 tx2 vb2 rf2 vl2 vf2 c2 vr2)] w fun e w' => e = .returned (.int .i64 (0)) ∧ Below w.heap.size w w' := by
  unfold tcells
  have HB := two_below w
  have HB : Hid _ := HB
  go_enter Try.func48, Try.ntmps48
  go_wp2_with fail
  go_ret
  exact ⟨rfl, HB.out _ _⟩
set_option maxRecDepth 100000 in
set_option maxHeartbeats 1000000 in
theorem compare_2 :
    Calls Try.prog 48 #[.agg (tcells 2 b i f tx vb rf vl vf c vr), .agg (tcells 2 b2 i2 f2 tx2 vb2 rf2 vl2 vf2 c2 vr2)] w fun e w' => e = .returned (.int .i64 (Sp.cmpI (Sp.rank b) (Sp.rank b2))) ∧ Below w.heap.size w w' := by
  unfold tcells
  have HB := two_below w
  have HB : Hid _ := HB
  go_enter Try.func48, Try.ntmps48
  go_wp2_with fail
  go_quiet ((first | (go_at_call 86; exact Calls.quiet_of_same ((flag_any _ _).mono (fun e w' h => ⟨h.1, h.2.symm⟩))) | (go_at_call 85; exact Calls.quiet_of_same ((numbers_any _ _ _).mono (fun e w' h => ⟨h.1, h.2.symm⟩)))))
  go_wp2_with fail
  go_ret
  exact ⟨rfl, (HB.out _ _).trans (below_drewN' _ _ _)⟩
set_option maxRecDepth 100000 in
set_option maxHeartbeats 1000000 in
theorem compare_3 (h0 : -9223372036854775808 ≤ i) (h1 : i ≤ 9223372036854775807) (g0 : -9223372036854775808 ≤ i2) (g1 : i2 ≤ 9223372036854775807) :
    Calls Try.prog 48 #[.agg (tcells 3 b i f tx vb rf vl vf c vr), .agg (tcells 3 b2 i2 f2 tx2 vb2 rf2 vl2 vf2 c2 vr2)] w fun e w' => e = .returned (.int .i64 (Sp.cmpI i i2)) ∧ Below w.heap.size w w' := by
  unfold tcells
  have e1 := wrap_plus h0 h1
  have e2 := wrap_plus g0 g1
  clear h0 h1 g0 g1
  have HB := two_below w
  have HB : Hid _ := HB
  go_enter Try.func48, Try.ntmps48
  go_wp2_with (go_at_call 85; refine (numbers_any _ _ _).mono ?_; rintro e w' ⟨rfl, rfl⟩)
  go_ret
  exact ⟨ret_int (cmpI_add _ _ _), HB.out _ _⟩
set_option maxRecDepth 100000 in
set_option maxHeartbeats 1000000 in
theorem compare_4 (h : f < 18446744073709551616) (g : f2 < 18446744073709551616) :
    Calls Try.prog 48 #[.agg (tcells 4 b i f tx vb rf vl vf c vr), .agg (tcells 4 b2 i2 f2 tx2 vb2 rf2 vl2 vf2 c2 vr2)] w fun e w' => e = .returned (.int .i64 (Sp.cmpI (Sp.frank f) (Sp.frank f2))) ∧ Below w.heap.size w w' := by
  unfold tcells
  have HX : Hid (f < 18446744073709551616 ∧ f2 < 18446744073709551616) := ⟨h, g⟩
  clear h g
  have HB := two_below w
  have HB : Hid _ := HB
  go_enter Try.func48, Try.ntmps48
  go_wp2_with fail
  go_quiet ((first | (go_at_call_of 87 f; exact Calls.quiet_of_same ((place_any f _ HX.out.1).mono (fun e w' h => ⟨h.1, h.2.symm⟩))) | (go_at_call 87; exact Calls.quiet_of_same ((place_any f2 _ HX.out.2).mono (fun e w' h => ⟨h.1, h.2.symm⟩))) | (go_at_call 85; exact Calls.quiet_of_same ((numbers_any _ _ _).mono (fun e w' h => ⟨h.1, h.2.symm⟩)))))
  go_wp2_with fail
  go_ret
  exact ⟨rfl, (HB.out _ _).trans (below_drewN' _ _ _)⟩
set_option maxRecDepth 100000 in
set_option maxHeartbeats 1000000 in
theorem compare_5 :
    Calls Try.prog 48 #[.agg (tcells 5 b i f tx vb rf vl vf c vr), .agg (tcells 5 b2 i2 f2 tx2 vb2 rf2 vl2 vf2 c2 vr2)] w fun e w' => e = .returned (.int .i64 (Sp.cmpS tx tx2)) ∧ Below w.heap.size w w' := by
  unfold tcells
  have HB := two_below w
  have HB : Hid _ := HB
  go_enter Try.func48, Try.ntmps48
  go_wp2_with (go_at_call 88; refine (texts_any _ _ _).mono ?_; rintro e w' ⟨rfl, rfl⟩)
  go_ret
  exact ⟨rfl, HB.out _ _⟩
set_option maxRecDepth 100000 in
set_option maxHeartbeats 1000000 in
theorem compare_7 (h0 : 0 ≤ rf) (h1 : rf ≤ 18446744073709551615) (g0 : 0 ≤ rf2) (g1 : rf2 ≤ 18446744073709551615) :
    Calls Try.prog 48 #[.agg (tcells 7 b i f tx vb rf vl vf c vr), .agg (tcells 7 b2 i2 f2 tx2 vb2 rf2 vl2 vf2 c2 vr2)] w fun e w' => e = .returned (.int .i64 (Sp.cmpI rf rf2)) ∧ Below w.heap.size w w' := by
  unfold tcells
  have e1 : IntKind.u64.wrap rf = rf := wrapU h0 h1
  have e2 : IntKind.u64.wrap rf2 = rf2 := wrapU g0 g1
  clear h0 h1 g0 g1
  have HB := two_below w
  have HB : Hid _ := HB
  go_enter Try.func48, Try.ntmps48
  go_wp2_with (go_at_call 85; refine (numbers_any _ _ _).mono ?_; rintro e w' ⟨rfl, rfl⟩)
  go_ret
  exact ⟨rfl, HB.out _ _⟩
set_option maxRecDepth 100000 in
set_option maxHeartbeats 1000000 in
theorem compare_9 (R : Int) (h : ∀ W, Below w.heap.size w W → Calls Try.prog 89 #[vf, vf2] W fun e w' => e = .returned (.int .i64 R) ∧ Below W.heap.size W w') :
    Calls Try.prog 48 #[.agg (tcells 9 b i f tx vb rf vl vf c vr), .agg (tcells 9 b2 i2 f2 tx2 vb2 rf2 vl2 vf2 c2 vr2)] w fun e w' => e = .returned (.int .i64 R) ∧ Below w.heap.size w w' := by
  unfold tcells
  have HX : Hid _ := h
  clear h
  have HB := two_below w
  have HB : Hid _ := HB
  go_enter Try.func48, Try.ntmps48
  go_wp2_with (go_at_call 89; refine (HX.out _ (HB.out _ _)).mono ?_; rintro e w1 ⟨rfl, hb1⟩)
  go_ret
  exact ⟨rfl, below_to (HB.out _ _) hb1⟩

set_option maxRecDepth 100000 in
set_option maxHeartbeats 1000000 in
theorem compare_10 (R : Int) (v1 : 1 ≤ vr ∧ vr ≤ 1000) (v2 : 1 ≤ vr2 ∧ vr2 ≤ 1000) (h : ∀ W, Below w.heap.size w W → Calls Try.prog 89 #[vf, vf2] W fun e w' => e = .returned (.int .i64 R) ∧ Below W.heap.size W w') :
    Calls Try.prog 48 #[.agg (tcells 10 b i f tx vb rf vl vf c vr), .agg (tcells 10 b2 i2 f2 tx2 vb2 rf2 vl2 vf2 c2 vr2)] w fun e w' => e = .returned (.int .i64 (if Sp.cmpS c c2 ≠ 0 then Sp.cmpS c c2 else if Sp.cmpI vr vr2 ≠ 0 then Sp.cmpI vr vr2 else R)) ∧ Below w.heap.size w w' := by
  unfold tcells
  have HX : Hid _ := h
  clear h
  have HB := two_below w
  have HB : Hid _ := HB
  have e1 : IntKind.u64.wrap vr = vr := wrapU (by omega) (by omega)
  have e2 : IntKind.u64.wrap vr2 = vr2 := wrapU (by omega) (by omega)
  clear v1 v2
  generalize hR : (if Sp.cmpS c c2 ≠ 0 then Sp.cmpS c c2 else if Sp.cmpI vr vr2 ≠ 0 then Sp.cmpI vr vr2 else R) = Q
  have HR : Hid (_ = Q) := hR
  clear hR
  by_cases hn : Sp.cmpS c c2 ≠ 0
  · have hn' := ne_bool hn
    have H : Hid (Q = Sp.cmpS c c2) := by show _ = _; rw [← HR.out, if_pos hn]
    clear hn
    go_enter Try.func48, Try.ntmps48
    go_wp2_with (go_at_call 88; refine (texts_any _ _ _).mono ?_; rintro e w' ⟨rfl, rfl⟩)
    go_ret
    exact ⟨ret_int H.out.symm, HB.out _ _⟩
  · have hn0 : Sp.cmpS c c2 = 0 := Decidable.not_not.1 hn
    by_cases hv : Sp.cmpI vr vr2 ≠ 0
    · have hv' : (vr != vr2) = true := by
        simp; intro e; subst e; exact hv (cmpI_self _)
      have H : Hid (Q = Sp.cmpI vr vr2) := by show _ = _; rw [← HR.out, if_neg hn, if_pos hv]
      clear hn hv
      go_enter Try.func48, Try.ntmps48
      go_wp2_with (first | (go_at_call 88; refine (texts_any _ _ _).mono ?_; rintro e w' ⟨rfl, rfl⟩) | (go_at_call 85; refine (numbers_any _ _ _).mono ?_; rintro e w' ⟨rfl, rfl⟩))
      go_ret
      exact ⟨ret_int H.out.symm, HB.out _ _⟩
    · have hv' : (vr != vr2) = false := by simp; exact cmpI_zero (Decidable.not_not.1 hv)
      have H : Hid (Q = R) := by show _ = _; rw [← HR.out, if_neg hn, if_neg hv]
      clear hn hv
      go_enter Try.func48, Try.ntmps48
      go_wp2_with (first | (go_at_call 88; refine (texts_any _ _ _).mono ?_; rintro e w' ⟨rfl, rfl⟩) | (go_at_call 89; refine (HX.out _ (HB.out _ _)).mono ?_; rintro e w1 ⟨rfl, hb1⟩))
      go_ret
      exact ⟨ret_int H.out.symm, below_to (HB.out _ _) hb1⟩

set_option maxRecDepth 100000 in
set_option maxHeartbeats 1000000 in
theorem compare_6 (x y : ByteArray) (a b' : Option Addr) (ca cb : Nat) (S : Nat → Prop) (ha : BytesAt w S a x) (hb : BytesAt w S b' y) (hS : Sub S w) :
    Calls Try.prog 48 #[.agg (tcells 6 b i f tx (.slice a x.size ca) rf vl vf c vr), .agg (tcells 6 b2 i2 f2 tx2 (.slice b' y.size cb) rf2 vl2 vf2 c2 vr2)] w fun e w' => e = .returned (.int .i64 (Sp.cmpS x y)) ∧ Below w.heap.size w w' := by
  unfold tcells
  have HL1 : ∀ o p, (convert 23 9 (.slice a x.size ca)).run Try.prog ((w.alloc o).alloc p) = .ok (.string x) ((w.alloc o).alloc p) := fun o p => conv_run x a ca S _ (ha.same (hS.same (two_below w o p)) (fun _ h => h))
  have HL2 : ∀ o p, (convert 23 9 (.slice b' y.size cb)).run Try.prog ((w.alloc o).alloc p) = .ok (.string y) ((w.alloc o).alloc p) := fun o p => conv_run y b' cb S _ (hb.same (hS.same (two_below w o p)) (fun _ h => h))
  clear ha hb
  have HB := two_below w
  have HB : Hid _ := HB
  go_enter Try.func48, Try.ntmps48
  go_wp2_with (go_at_call 88; refine (texts_any _ _ _).mono ?_; rintro e w' ⟨rfl, rfl⟩)
  go_ret
  exact ⟨rfl, HB.out _ _⟩
end
end Go.Proofs.Ytadcbhdhgobknaa

/- tenonmake.Same, Lists, Entries: two terms of one value are told to be the same. -/
namespace Go.Proofs.Ytadcbhdhgobknaa
open Go.RowKit

mutual
/-- two terms of one value: the same in all that plays a part -/
def Tm.eqv : Tm → Tm → Prop
  | .mk k b i f tx by' rf l fs c v, .mk k2 b2 i2 f2 tx2 by2 rf2 l2 fs2 c2 v2 => k = k2 ∧ (1 ≤ k ∧ k ≤ 10) ∧ (k = 2 → b = b2) ∧ (k = 3 → i = i2) ∧ (k = 4 → f = f2) ∧ (k = 5 → tx = tx2) ∧ (k = 6 → by' = by2) ∧ (k = 7 → rf = rf2) ∧ (k = 8 → l.eqv l2) ∧ (k = 9 ∨ k = 10 → fs.eqv fs2) ∧ (k = 10 → c = c2 ∧ v = v2)
def TmL.eqv : TmL → TmL → Prop
  | .nil, .nil => True
  | .cons t l, .cons t2 l2 => t.eqv t2 ∧ l.eqv l2
  | _, _ => False
def TmF.eqv : TmF → TmF → Prop
  | .nil, .nil => True
  | .cons n t l, .cons n2 t2 l2 => n = n2 ∧ t.eqv t2 ∧ l.eqv l2
  | _, _ => False
end
theorem TmL.eqv_len : (a b : TmL) → a.eqv b → a.len = b.len
  | .nil, .nil, _ => rfl
  | .nil, .cons _ _, h => by simp [TmL.eqv] at h
  | .cons _ _, .nil, h => by simp [TmL.eqv] at h
  | .cons t l, .cons u r, h => by simp only [TmL.eqv] at h; simp only [TmL.len, TmL.eqv_len l r h.2]
theorem TmF.eqv_len : (a b : TmF) → a.eqv b → a.len = b.len
  | .nil, .nil, _ => rfl
  | .nil, .cons _ _ _, h => by simp [TmF.eqv] at h
  | .cons _ _ _, .nil, h => by simp [TmF.eqv] at h
  | .cons n t l, .cons m u r, h => by simp only [TmF.eqv] at h; simp only [TmF.len, TmF.eqv_len l r h.2.2]

def SmC (N : Nat) : Prop := ∀ (s t : Tm), s.sz ≤ N → s.eqv t → ∀ (cs ct : Array Value) (S : Nat → Prop) (w : World), s.In w S cs → t.In w S ct → Sub S w →
  Calls Try.prog 22 #[.agg cs, .agg ct] w fun e w' => e = .returned (.bool true) ∧ Below w.heap.size w w'
theorem SmC.at {N : Nat} (HC : SmC N) {s t : Tm} (hN : s.sz ≤ N) (he : s.eqv t) {cs ct : Array Value} {S : Nat → Prop} {w : World} (hs : s.In w S cs) (ht : t.In w S ct) (hS : Sub S w) :
    ∀ W, Below w.heap.size w W → Calls Try.prog 22 #[.agg cs, .agg ct] W fun e w' => e = .returned (.bool true) ∧ Below W.heap.size W w' :=
  fun W hW => HC s t hN he cs ct S W (s.In_same (hS.same hW) (fun _ h => h) cs hs) (t.In_same (hS.same hW) (fun _ h => h) ct ht) (hS.later hW)

set_option maxRecDepth 100000 in
set_option maxHeartbeats 2000000 in
theorem lists_any (N : Nat) (HC : SmC N) (A B : TmL) (hN : A.sz ≤ N) (hE : A.eqv B) (a b : Option Addr) (ca cb : Nat) (S : Nat → Prop) (w : World) (ha : A.In w S a 0) (hb : B.In w S b 0) (hS : Sub S w) (la : A.len * 152 ≤ 140737488355328) :
    Calls Try.prog 50 #[.slice a A.len ca, .slice b B.len cb] w fun e w' => e = .returned (.bool true) ∧ Below w.heap.size w w' := by
  have hlen := TmL.eqv_len A B hE
  rw [← hlen]
  clear hlen
  have HCH : Hid (SmC N) := HC
  have H0 : Hid (A.In w S a 0 ∧ B.In w S b 0 ∧ A.eqv B) := ⟨ha, hb, hE⟩
  clear HC ha hb hE
  go_enter Try.func50, Try.ntmps50
  go_wp2_with fail
  go_loopw [5] (fun x wr => ∃ (k : Nat) (l r : TmL), x = .int .i64 k ∧ l.len + k = A.len ∧ l.sz ≤ N ∧ Hid (l.In w S a k ∧ r.In w S b k ∧ l.eqv r) ∧ Hid (Below w.heap.size w wr)) (fun x _ => A.len - (intOf x).toNat)
  case atStart => exact ⟨0, A, B, rfl, rfl, hN, H0.out, Below.refl _ _⟩
  case round =>
    obtain ⟨k, l, r, rfl, hl, hlN, HI, HW⟩ := hrel
    clear H0
    cases l with
    | nil =>
      have h1 : A.len ≤ k := by simp [TmL.len] at hl; omega
      clear hl
      go_wp2_with fail
      go_ret
      exact ⟨rfl, HW.out⟩
    | cons t l =>
      cases r with
      | nil => exact absurd HI.out.2.2 (by simp [TmL.eqv])
      | cons u r =>
        obtain ⟨hv1, hv2, he⟩ := HI.out
        simp only [TmL.eqv] at he
        simp only [TmL.In] at hv1 hv2
        obtain ⟨g1, o1, cs1, rfl, hg1, c1, ht, hl'⟩ := hv1
        obtain ⟨g2, o2, cs2, rfl, hg2, c2, hu, hr'⟩ := hv2
        have hk1 : k < A.len := by simp only [TmL.len] at hl; omega
        have hi0 : (0 : Int) ≤ (k : Int) := Int.natCast_nonneg _
        have hi1 : (k : Int) < (A.len : Int) := by omega
        have HL : Hid (l.len + (k + 1) = A.len) := by show _ = _; simp only [TmL.len] at hl; omega
        have htN : t.sz ≤ N ∧ l.sz ≤ N := by simp [TmL.sz] at hlN; omega
        have hs : Same S w wr := hS.same HW.out
        have HO : Hid (∀ W, Below wr.heap.size wr W → Calls Try.prog 22 #[.agg cs1, .agg cs2] W fun e w' => e = .returned (.bool true) ∧ Below W.heap.size W w') :=
          HCH.out.at htN.1 he.1 (t.In_same hs (fun _ h => h) cs1 ht) (u.In_same hs (fun _ h => h) cs2 hu) (hS.later HW.out)
        obtain ⟨k1, b1, i1, f1, tx1, vb1, rf1, vl1, vf1, cl1, vr1, rfl⟩ := Tm.In_tc ht
        obtain ⟨k2, b2, i2, f2, tx2, vb2, rf2, vl2, vf2, cl2, vr2, rfl⟩ := Tm.In_tc hu
        obtain ⟨e0, e1, e2, e3, e4, e5, e6, e7, e8, e9, e10⟩ := eleven (w := wr) (g := g1) (o := o1 + k * 11) (fun x hx => by rw [hs.cell (p := ⟨g1, o1 + k * 11 + x, none⟩) hg1]; exact c1 x hx)
        obtain ⟨d0, d1, d2, d3, d4, d5, d6, d7, d8, d9, d10⟩ := eleven (w := wr) (g := g2) (o := o2 + k * 11) (fun x hx => by rw [hs.cell (p := ⟨g2, o2 + k * 11 + x, none⟩) hg2]; exact c2 x hx)
        have HN : Hid (l.In w S (some ⟨g1, o1, none⟩) (k + 1) ∧ r.In w S (some ⟨g2, o2, none⟩) (k + 1) ∧ l.eqv r) := ⟨hl', hr', he.2⟩
        unfold tcells at HO
        clear hl hlN HI hl' hr' he ht hu hs c1 c2
        go_wp2_with fail
        go_region_with ((go_at_call 22; refine (HO.out _ ?_).mono ?_; exact (Below.refl _ _).drew; rintro e w4 ⟨rfl, hb4⟩; have HB4 : Hid (Below w.heap.size w w4) := HW.out.trans (((Below.refl _ _).drew.trans hb4).mono HW.out.size); clear hb4))
        all_goals
          go_wp2_with fail
          go_roundw
          case rel => exact ⟨k + 1, l, r, by go_num, HL.out, htN.2, HN.out, HB4.out⟩
          case measure => simp [intOf]; omega
end Go.Proofs.Ytadcbhdhgobknaa

