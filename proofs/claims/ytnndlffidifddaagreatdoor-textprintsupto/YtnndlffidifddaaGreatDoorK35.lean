/- tenonmake.plain, kind by kind. -/
import Derived.Test.YtnndlffidifddaaGreatDoorK34
import Derived.Test.YtnndlffidifddaaGreatDoorK14
import Derived.Test.YtnndlffidifddaaGreatDoorK6
import Derived.Test.YtnndlffidifddaaGreatDoorK33
import Derived.Test.YtnndlffidifddaaGreatDoorK3
import Derived.Deep.RegionWith
import Derived.Laws.BytesArg
namespace Go.Proofs.YtnndlffidifddaaGreatDoor
open Go.RowKit

theorem box_at1 {w : World} {o : Obj} {w1 : World} (h : Below (w.alloc o).heap.size (w.alloc o) w1) : w1.heap[w.heap.size]? = some o ∧ Below w.heap.size w w1 ∧ w.heap.size + 1 ≤ w1.heap.size := by
  refine ⟨?_, below_to ((Below.refl _ _).alloc (Nat.le_refl _) _) h, by have := h.size; simpa using this⟩
  rw [h.block w.heap.size (by simp)]; exact heap_alloc_new w o

set_option maxRecDepth 100000 in
set_option maxHeartbeats 1000000 in
theorem pl_1 (w : World) (deep : Int) (hd : deep ≤ 400) : Calls Tryz.prog 38 #[.nilIface, .int .i64 deep] w fun e w' => e = .returned (.agg (tcells 1 false 0 0 ByteArray.empty (.slice none 0 0) 0 (.slice none 0 0) (.slice none 0 0) ByteArray.empty 0)) ∧ Below w.heap.size w w' := by
  have hd' : decide (400 < deep) = false := by simp; omega
  go_enter Tryz.func38, Tryz.ntmps38
  go_wp2_with fail
  refine bodyPost_ret (v := .agg (tcells 1 false 0 0 ByteArray.empty (.slice none 0 0) 0 (.slice none 0 0) (.slice none 0 0) ByteArray.empty 0)) (by simp [results, Tryz.results38, go_sem, tcells] <;> rfl) rfl ⟨rfl, ?_⟩
  exact (Below.refl _ _).alloc (Nat.le_refl _) _
set_option maxRecDepth 100000 in
set_option maxHeartbeats 1000000 in
theorem pl_2 (b : Bool) (w : World) (deep : Int) (hd : deep ≤ 400) : Calls Tryz.prog 38 #[.iface 4 (.bool b), .int .i64 deep] w fun e w' => e = .returned (.agg (tcells 2 b 0 0 ByteArray.empty (.slice none 0 0) 0 (.slice none 0 0) (.slice none 0 0) ByteArray.empty 0)) ∧ Below w.heap.size w w' := by
  have hd' : decide (400 < deep) = false := by simp; omega
  go_enter Tryz.func38, Tryz.ntmps38
  go_wp2_with fail
  refine bodyPost_ret (v := .agg (tcells 2 b 0 0 ByteArray.empty (.slice none 0 0) 0 (.slice none 0 0) (.slice none 0 0) ByteArray.empty 0)) (by simp [results, Tryz.results38, go_sem, tcells] <;> rfl) rfl ⟨rfl, ?_⟩
  exact (Below.refl _ _).alloc (Nat.le_refl _) _
set_option maxRecDepth 100000 in
set_option maxHeartbeats 1000000 in
theorem pl_3 (i : Int) (w : World) (deep : Int) (hd : deep ≤ 400) : Calls Tryz.prog 38 #[.iface 2 (.int .i64 i), .int .i64 deep] w fun e w' => e = .returned (.agg (tcells 3 false i 0 ByteArray.empty (.slice none 0 0) 0 (.slice none 0 0) (.slice none 0 0) ByteArray.empty 0)) ∧ Below w.heap.size w w' := by
  have hd' : decide (400 < deep) = false := by simp; omega
  go_enter Tryz.func38, Tryz.ntmps38
  go_wp2_with fail
  refine bodyPost_ret (v := .agg (tcells 3 false i 0 ByteArray.empty (.slice none 0 0) 0 (.slice none 0 0) (.slice none 0 0) ByteArray.empty 0)) (by simp [results, Tryz.results38, go_sem, tcells] <;> rfl) rfl ⟨rfl, ?_⟩
  exact (Below.refl _ _).alloc (Nat.le_refl _) _
set_option maxRecDepth 100000 in
set_option maxHeartbeats 1000000 in
theorem pl_4 (f : Nat) (w : World) (deep : Int) (hd : deep ≤ 400) : Calls Tryz.prog 38 #[.iface 22 (.float .f64 f), .int .i64 deep] w fun e w' => e = .returned (.agg (tcells 4 false 0 f ByteArray.empty (.slice none 0 0) 0 (.slice none 0 0) (.slice none 0 0) ByteArray.empty 0)) ∧ Below w.heap.size w w' := by
  have hd' : decide (400 < deep) = false := by simp; omega
  go_enter Tryz.func38, Tryz.ntmps38
  go_wp2_with fail
  refine bodyPost_ret (v := .agg (tcells 4 false 0 f ByteArray.empty (.slice none 0 0) 0 (.slice none 0 0) (.slice none 0 0) ByteArray.empty 0)) (by simp [results, Tryz.results38, go_sem, tcells] <;> rfl) rfl ⟨rfl, ?_⟩
  exact (Below.refl _ _).alloc (Nat.le_refl _) _
set_option maxRecDepth 100000 in
set_option maxHeartbeats 1000000 in
theorem pl_5 (s : ByteArray) (w : World) (deep : Int) (hd : deep ≤ 400) : Calls Tryz.prog 38 #[.iface 9 (.string s), .int .i64 deep] w fun e w' => e = .returned (.agg (tcells 5 false 0 0 s (.slice none 0 0) 0 (.slice none 0 0) (.slice none 0 0) ByteArray.empty 0)) ∧ Below w.heap.size w w' := by
  have hd' : decide (400 < deep) = false := by simp; omega
  go_enter Tryz.func38, Tryz.ntmps38
  go_wp2_with fail
  refine bodyPost_ret (v := .agg (tcells 5 false 0 0 s (.slice none 0 0) 0 (.slice none 0 0) (.slice none 0 0) ByteArray.empty 0)) (by simp [results, Tryz.results38, go_sem, tcells] <;> rfl) rfl ⟨rfl, ?_⟩
  exact (Below.refl _ _).alloc (Nat.le_refl _) _
set_option maxRecDepth 100000 in
set_option maxHeartbeats 1000000 in
theorem pl_7 (rf : Int) (w : World) (deep : Int) (hd : deep ≤ 400) : Calls Tryz.prog 38 #[.iface 25 (.int .u64 rf), .int .i64 deep] w fun e w' => e = .returned (.agg (tcells 7 false 0 0 ByteArray.empty (.slice none 0 0) rf (.slice none 0 0) (.slice none 0 0) ByteArray.empty 0)) ∧ Below w.heap.size w w' := by
  have hd' : decide (400 < deep) = false := by simp; omega
  go_enter Tryz.func38, Tryz.ntmps38
  go_wp2_with fail
  refine bodyPost_ret (v := .agg (tcells 7 false 0 0 ByteArray.empty (.slice none 0 0) rf (.slice none 0 0) (.slice none 0 0) ByteArray.empty 0)) (by simp [results, Tryz.results38, go_sem, tcells] <;> rfl) rfl ⟨rfl, ?_⟩
  exact (Below.refl _ _).alloc (Nat.le_refl _) _
set_option maxRecDepth 100000 in
set_option maxHeartbeats 1000000 in
theorem pl_9 (al : Option Addr) (L L' : TmF) (cl : Nat) (w : World) (deep : Int) (hd : deep ≤ 400) (h : ∀ W, Below w.heap.size w W → Calls Tryz.prog 56 #[.slice al L.len cl, .int .i64 deep] W fun e w' => ∃ a cap, e = .returned (.slice a L.len cap) ∧ Below W.heap.size W w' ∧ L'.In w' (Fr W w') a 0) :
    Calls Tryz.prog 38 #[.iface 43 (.slice al L.len cl), .int .i64 deep] w fun e w' => ∃ a cap, e = .returned (.agg (tcells 9 false 0 0 ByteArray.empty (.slice none 0 0) 0 (.slice none 0 0) (.slice a L.len cap) ByteArray.empty 0)) ∧ Below w.heap.size w w' ∧ L'.In w' (Fr w w') a 0 := by
  have hd' : decide (400 < deep) = false := by simp; omega
  have HC : Hid _ := h
  clear h
  go_enter Tryz.func38, Tryz.ntmps38
  go_wp2_with (go_at_call 56; refine (HC.out _ ((Below.refl _ _).alloc (Nat.le_refl _) _)).mono ?_; rintro e w1 ⟨a, cap, rfl, hb1, hl1⟩; obtain ⟨hR, hbw, hsz⟩ := box_at1 hb1; obtain ⟨r0, r1, r2, r3, r4, r5, r6, r7, r8, r9, r10⟩ := tbox hR; have hf := box_writes hR; have f0 := hf 0; have f1 := hf 1; have f2 := hf 2; have f3 := hf 3; have f4 := hf 4; have f5 := hf 5; have f6 := hf 6; have f7 := hf 7; have f8 := hf 8; have f9 := hf 9; have f10 := hf 10; have HB1 : Hid (Below w.heap.size w w1) := hbw; have HL1 : Hid (L'.In w1 (fun k => w.heap.size + 1 ≤ k ∧ k < w1.heap.size) a 0) := L'.In_same (Same.refl _ _) (fun k hk => ⟨by have := hk.1; simpa using this, hk.2⟩) _ _ hl1; clear hb1 hl1 hR hf hbw)
  have HE : Hid (Below w.heap.size w (setN w1 w.heap.size 0 [.int .i64 9, .bool false, .int .i64 0, .float .f64 0, .string ByteArray.empty, .slice none 0 0, .int .u64 0, .slice none 0 0, .slice a L.len cap, .string ByteArray.empty, .int .i64 0]) ∧ L'.In (setN w1 w.heap.size 0 [.int .i64 9, .bool false, .int .i64 0, .float .f64 0, .string ByteArray.empty, .slice none 0 0, .int .u64 0, .slice none 0 0, .slice a L.len cap, .string ByteArray.empty, .int .i64 0]) (Fr w (setN w1 w.heap.size 0 [.int .i64 9, .bool false, .int .i64 0, .float .f64 0, .string ByteArray.empty, .slice none 0 0, .int .u64 0, .slice none 0 0, .slice a L.len cap, .string ByteArray.empty, .int .i64 0])) a 0) := ⟨setN_below (Nat.le_refl _) _ _ _ _ HB1.out, L'.In_same (fun k hk => setN_other (by have := hk.1; omega) _ _ _) (fun k hk => ⟨by have := hk.1; omega, by rw [setN_size]; exact hk.2⟩) _ _ HL1.out⟩
  refine bodyPost_ret (v := .agg (tcells 9 false 0 0 ByteArray.empty (.slice none 0 0) 0 (.slice none 0 0) (.slice a L.len cap) ByteArray.empty 0)) (by simp [results, Tryz.results38, go_sem, tcells, r0, r1, r2, r3, r4, r5, r6, r7, r8, r9, r10] <;> rfl) rfl ⟨a, cap, rfl, HE.out.1, HE.out.2⟩
set_option maxRecDepth 100000 in
set_option maxHeartbeats 2000000 in
theorem pl_10 (g : Nat) (s : ByteArray) (vr : Int) (al : Option Addr) (L L' : TmF) (cl : Nat) (w : World) (deep : Int) (hd : deep ≤ 400) (hg : g < w.heap.size) (c0 : w.cell? ⟨g, 0, none⟩ = some (.string s)) (c1 : w.cell? ⟨g, 1, none⟩ = some (.int .i64 vr)) (c2 : w.cell? ⟨g, 2, none⟩ = some (.slice al L.len cl))
    (h : ∀ W, Below w.heap.size w W → Calls Tryz.prog 56 #[.slice al L.len cl, .int .i64 deep] W fun e w' => ∃ a cap, e = .returned (.slice a L.len cap) ∧ Below W.heap.size W w' ∧ L'.In w' (Fr W w') a 0) :
    Calls Tryz.prog 38 #[.iface 45 (.pointer (some ⟨g, 0, none⟩)), .int .i64 deep] w fun e w' => ∃ a cap, e = .returned (.agg (tcells 10 false 0 0 ByteArray.empty (.slice none 0 0) 0 (.slice none 0 0) (.slice a L.len cap) s vr)) ∧ Below w.heap.size w w' ∧ L'.In w' (Fr w w') a 0 := by
  have hd' : decide (400 < deep) = false := by simp; omega
  have HC : Hid _ := h
  have HX : Hid (∀ W, Below w.heap.size w W → W.cell? ⟨g, 0, none⟩ = some (.string s) ∧ W.cell? ⟨g, 1, none⟩ = some (.int .i64 vr) ∧ W.cell? ⟨g, 2, none⟩ = some (.slice al L.len cl)) := fun W hW => ⟨by rw [hW.cell (p := ⟨g, 0, none⟩) hg]; exact c0, by rw [hW.cell (p := ⟨g, 1, none⟩) hg]; exact c1, by rw [hW.cell (p := ⟨g, 2, none⟩) hg]; exact c2⟩
  have HB0 : Hid (Below w.heap.size w (w.alloc (.cells #[.int .i64 0, .bool false, .int .i64 0, .float .f64 0, .string ByteArray.empty, .slice none 0 0, .int .u64 0, .slice none 0 0, .slice none 0 0, .string ByteArray.empty, .int .i64 0] 29))) := (Below.refl _ _).alloc (Nat.le_refl _) _
  have hfar : g ≠ w.heap.size := by omega
  clear c0 c1 c2 h
  go_enter Tryz.func38, Tryz.ntmps38
  go_wp2_with fail
  go_region_held3 (fun W => W.cell? ⟨g, 0, none⟩ = some (.string s) ∧ W.cell? ⟨g, 1, none⟩ = some (.int .i64 vr) ∧ W.cell? ⟨g, 2, none⟩ = some (.slice al L.len cl))
    (first | (refine ⟨?_, ?_, ?_⟩ <;> ((repeat rw [cell_far hfar]); first | with_reducible exact (HX.out w2 HBw2.out).1 | with_reducible exact (HX.out w2 HBw2.out).2.1 | with_reducible exact (HX.out w2 HBw2.out).2.2)) | exact HX.out _ HB0.out | exact HX.out _ HB0.out.drew)
    ((first
      | (go_at_call 56; refine (HC.out _ ?_).mono ?_; exact HB0.out.drew; rintro e w2 ⟨a, cap, rfl, hb2, hl2⟩; have hb2' : Below (w.alloc (.cells #[.int .i64 0, .bool false, .int .i64 0, .float .f64 0, .string ByteArray.empty, .slice none 0 0, .int .u64 0, .slice none 0 0, .slice none 0 0, .string ByteArray.empty, .int .i64 0] 29)).heap.size (w.alloc (.cells #[.int .i64 0, .bool false, .int .i64 0, .float .f64 0, .string ByteArray.empty, .slice none 0 0, .int .u64 0, .slice none 0 0, .slice none 0 0, .string ByteArray.empty, .int .i64 0] 29)) w2 := below_to (Below.refl _ _).drew hb2; obtain ⟨hR, hbw, hsz⟩ := box_at1 hb2'; obtain ⟨r0, r1, r2, r3, r4, r5, r6, r7, r8, r9, r10⟩ := tbox hR; have hf := box_writes hR; have f0 := hf 0; have f1 := hf 1; have f2 := hf 2; have f3 := hf 3; have f4 := hf 4; have f5 := hf 5; have f6 := hf 6; have f7 := hf 7; have f8 := hf 8; have f9 := hf 9; have f10 := hf 10; have HBw2 : Hid (Below w.heap.size w w2) := hbw; have HL2 : Hid (L'.In w2 (fun k => w.heap.size + 1 ≤ k ∧ k < w2.heap.size) a 0) := L'.In_same (Same.refl _ _) (fun k hk => ⟨by have h2 := hk.1; simpa using h2, hk.2⟩) _ _ hl2; clear hb2 hb2' hl2 hR hf hbw)))
  have HE : Hid (Below w.heap.size w (setN w2 w.heap.size 0 [.int .i64 10, .bool false, .int .i64 0, .float .f64 0, .string ByteArray.empty, .slice none 0 0, .int .u64 0, .slice none 0 0, .slice a L.len cap, .string s, .int .i64 vr]) ∧ L'.In (setN w2 w.heap.size 0 [.int .i64 10, .bool false, .int .i64 0, .float .f64 0, .string ByteArray.empty, .slice none 0 0, .int .u64 0, .slice none 0 0, .slice a L.len cap, .string s, .int .i64 vr]) (Fr w (setN w2 w.heap.size 0 [.int .i64 10, .bool false, .int .i64 0, .float .f64 0, .string ByteArray.empty, .slice none 0 0, .int .u64 0, .slice none 0 0, .slice a L.len cap, .string s, .int .i64 vr])) a 0) := ⟨setN_below (Nat.le_refl _) _ _ _ _ HBw2.out, L'.In_same (fun k hk => setN_other (by have := hk.1; omega) _ _ _) (fun k hk => ⟨by have := hk.1; omega, by rw [setN_size]; exact hk.2⟩) _ _ HL2.out⟩
  go_wp2_with fail
  refine bodyPost_ret (v := .agg (tcells 10 false 0 0 ByteArray.empty (.slice none 0 0) 0 (.slice none 0 0) (.slice a L.len cap) s vr)) (by simp [results, Tryz.results38, go_sem, tcells, r0, r1, r2, r3, r4, r5, r6, r7, r8, r9, r10] <;> rfl) rfl ⟨a, cap, rfl, HE.out.1, HE.out.2⟩
end Go.Proofs.YtnndlffidifddaaGreatDoor

/- value.Order and value.Same at two terms' values. -/
namespace Go.Proofs.YtnndlffidifddaaGreatDoor
open Go.RowKit

/-- what Order answers: a number and an error -/
def Tm.ordN (s t : Tm) : Int := if s.all.e ≠ 0 ∨ t.all.e ≠ 0 then 0 else s.cmp t
def Tm.ordE (s t : Tm) : Int := if s.all.e ≠ 0 then s.all.e else t.all.e
/-- whether two values can be and are the same -/
def Tm.sameB (s t : Tm) : Bool := decide (s.all.e = 0 ∧ t.all.e = 0 ∧ s.cmp t = 0)

theorem Tm.ok_all {t : Tm} (h : t.all.e = 0) : t.Ok := ⟨1, 0, 0, h⟩

end Go.Proofs.YtnndlffidifddaaGreatDoor

/- value.Same at two terms' values; two terms in boxes. -/
namespace Go.Proofs.YtnndlffidifddaaGreatDoor
open Go.RowKit

/-- the eleven cells of a term in box g -/
def Tbx (W : World) (g : Nat) (k : Int) (b : Bool) (i : Int) (f : Nat) (tx : ByteArray) (vb : Value) (rf : Int) (vl vf : Value) (c : ByteArray) (vr : Int) : Prop :=
  W.cell? ⟨g, 0, none⟩ = some (.int .i64 k) ∧ W.cell? ⟨g, 1, none⟩ = some (.bool b) ∧ W.cell? ⟨g, 2, none⟩ = some (.int .i64 i) ∧ W.cell? ⟨g, 3, none⟩ = some (.float .f64 f) ∧ W.cell? ⟨g, 4, none⟩ = some (.string tx) ∧ W.cell? ⟨g, 5, none⟩ = some vb ∧ W.cell? ⟨g, 6, none⟩ = some (.int .u64 rf) ∧ W.cell? ⟨g, 7, none⟩ = some vl ∧ W.cell? ⟨g, 8, none⟩ = some vf ∧ W.cell? ⟨g, 9, none⟩ = some (.string c) ∧ W.cell? ⟨g, 10, none⟩ = some (.int .i64 vr)
theorem Tm.In_box {w : World} {B : Nat → Prop} {t : Tm} {cs : Array Value} (h : t.In w B cs) : ∃ b i f tx vb rf vl vf c vr, cs = tcells t.kind b i f tx vb rf vl vf c vr := by
  cases t; simp only [Tm.In] at h; obtain ⟨_, _, _, _, _, _, rfl, _⟩ := h; exact ⟨_, _, _, _, _, _, _, _, _, _, rfl⟩
end Go.Proofs.YtnndlffidifddaaGreatDoor

/- The leaves of the document's own order: tenonref01's numbers, texts, flag, place. -/
namespace Go.Proofs.YtnndlffidifddaaGreatDoor
open Go.RowKit

end Go.Proofs.YtnndlffidifddaaGreatDoor

/- The document's own order of terms (tenonref01.fields, tenonref01.Compare) is the plain order. -/
namespace Go.Proofs.YtnndlffidifddaaGreatDoor
open Go.RowKit

theorem Tm.In_tc {w : World} {B : Nat → Prop} {t : Tm} {cs : Array Value} (h : t.In w B cs) : ∃ k b i f tx vb rf vl vf c vr, cs = tcells k b i f tx vb rf vl vf c vr := by
  cases t; simp only [Tm.In] at h; obtain ⟨_, _, _, _, _, _, rfl, _⟩ := h; exact ⟨_, _, _, _, _, _, _, _, _, _, _, rfl⟩

end Go.Proofs.YtnndlffidifddaaGreatDoor

/- The document's own order of two terms (tenonref01.Compare), kind by kind. -/
namespace Go.Proofs.YtnndlffidifddaaGreatDoor
open Go.RowKit

theorem two_below (w : World) (o p : Obj) : Below w.heap.size w ((w.alloc o).alloc p) := ((Below.refl _ _).alloc (Nat.le_refl _) _).alloc (by simp) _
theorem Tryz.undU : Tryz.prog.underlying 5 = some (.int .u8) := by kernel_rfl
theorem Tryz.undS : Tryz.prog.underlying 9 = some .string := by kernel_rfl
theorem nums_at (x : ByteArray) (i : Nat) (h : i < x.size) : (x.data.toList.map fun u => (u.toNat : Int)).getD i 0 = Sp.byte x i := by
  have h' : i < x.data.size := h
  unfold Sp.byte
  have e : x.data[i]? = some x.data[i] := Array.getElem?_eq_getElem h'
  simp only [List.getD, List.getElem?_map, Array.getElem?_toList, e, Option.map_some, Option.getD_some, Array.getD, dif_pos h']
  rfl
theorem str_of (x : ByteArray) : strOfNums (x.data.toList.map fun u => (u.toNat : Int)) = x := by
  unfold strOfNums
  rw [List.map_map]
  have : ((fun n : Int => UInt8.ofNat n.toNat) ∘ fun u : UInt8 => (u.toNat : Int)) = id := by funext u; simp
  rw [this, List.map_id]
theorem conv_run (x : ByteArray) (a : Option Addr) (c : Nat) (S : Nat → Prop) (w : World) (ha : BytesAt w S a x) : (convert 23 9 (.slice a x.size c)).run Tryz.prog w = .ok (.string x) w := by
  by_cases h0 : x.size = 0
  · obtain rfl := ba_empty h0
    cases a with
    | none => exact run_convert_bytes_nil w _ 5 Tryz.undB Tryz.undU _ _ _ Tryz.undS
    | some a =>
      rw [run_convert_bytes_string w _ _ 5 _ _ _ Tryz.undB Tryz.undU Tryz.undS]
      exact run_bytesToString w a 0 c [] rfl
  · obtain ⟨g, o, rfl, _, _⟩ := ha 0 (by omega)
    have := run_convert_bytes_arg (P := Tryz.prog) w 23 5 Tryz.undB Tryz.undU g o x.size c (x.data.toList.map fun u => (u.toNat : Int)) (by simp) (fun i hi => by
      obtain ⟨g', o', e, _, hc⟩ := ha i hi
      simp only [Option.some.injEq, Addr.mk.injEq, and_true] at e
      obtain ⟨rfl, rfl⟩ := e
      rw [hc, nums_at x i hi]) 9 Tryz.undS
    rw [this, str_of]

section
variable (b : Bool) (i : Int) (f : Nat) (tx : ByteArray) (vb : Value) (rf : Int) (vl vf : Value) (c : ByteArray) (vr : Int)
variable (b2 : Bool) (i2 : Int) (f2 : Nat) (tx2 : ByteArray) (vb2 : Value) (rf2 : Int) (vl2 vf2 : Value) (c2 : ByteArray) (vr2 : Int) (w : World)
end
end Go.Proofs.YtnndlffidifddaaGreatDoor

/- tenonmake.Same, Lists, Entries: two terms of one value are told to be the same. -/
namespace Go.Proofs.YtnndlffidifddaaGreatDoor
open Go.RowKit

mutual
/-- two terms of one value: the same in all that plays a part -/
def Tm.eqv : Tm → Tm → Prop
  | .mk k b i f tx by' rf l fs c v, .mk k2 b2 i2 f2 tx2 by2 rf2 l2 fs2 c2 v2 => k = k2 ∧ (1 ≤ k ∧ k ≤ 10) ∧ (k = 2 → b = b2) ∧ (k = 3 → i = i2) ∧ (k = 4 → f = f2) ∧ (k = 5 → tx = tx2) ∧ (k = 6 → by' = by2) ∧ (k = 7 → rf = rf2) ∧ (k = 8 → l.eqv l2) ∧ (k = 9 ∨ k = 10 → fs.eqv fs2) ∧ (k = 10 → c = c2 ∧ v = v2)
def TmL.eqv : TmL → TmL → Prop
  | .nil, .nil => True
  | .cons t l, .cons t2 l2 => t.eqv t2 ∧ l.eqv l2
  | _, _ => False
def TmF.eqv : TmF → TmF → Prop
  | .nil, .nil => True
  | .cons n t l, .cons n2 t2 l2 => n = n2 ∧ t.eqv t2 ∧ l.eqv l2
  | _, _ => False
end
theorem TmL.eqv_len : (a b : TmL) → a.eqv b → a.len = b.len
  | .nil, .nil, _ => rfl
  | .nil, .cons _ _, h => by simp [TmL.eqv] at h
  | .cons _ _, .nil, h => by simp [TmL.eqv] at h
  | .cons t l, .cons u r, h => by simp only [TmL.eqv] at h; simp only [TmL.len, TmL.eqv_len l r h.2]
theorem TmF.eqv_len : (a b : TmF) → a.eqv b → a.len = b.len
  | .nil, .nil, _ => rfl
  | .nil, .cons _ _ _, h => by simp [TmF.eqv] at h
  | .cons _ _ _, .nil, h => by simp [TmF.eqv] at h
  | .cons n t l, .cons m u r, h => by simp only [TmF.eqv] at h; simp only [TmF.len, TmF.eqv_len l r h.2.2]

def SmC (N : Nat) : Prop := ∀ (s t : Tm), s.sz ≤ N → s.eqv t → ∀ (cs ct : Array Value) (S : Nat → Prop) (w : World), s.In w S cs → t.In w S ct → Sub S w →
  Calls Tryz.prog 19 #[.agg cs, .agg ct] w fun e w' => e = .returned (.bool true) ∧ Below w.heap.size w w'
theorem SmC.at {N : Nat} (HC : SmC N) {s t : Tm} (hN : s.sz ≤ N) (he : s.eqv t) {cs ct : Array Value} {S : Nat → Prop} {w : World} (hs : s.In w S cs) (ht : t.In w S ct) (hS : Sub S w) :
    ∀ W, Below w.heap.size w W → Calls Tryz.prog 19 #[.agg cs, .agg ct] W fun e w' => e = .returned (.bool true) ∧ Below W.heap.size W w' :=
  fun W hW => HC s t hN he cs ct S W (s.In_same (hS.same hW) (fun _ h => h) cs hs) (t.In_same (hS.same hW) (fun _ h => h) ct ht) (hS.later hW)

set_option maxRecDepth 100000 in
set_option maxHeartbeats 2000000 in
theorem lists_any (N : Nat) (HC : SmC N) (A B : TmL) (hN : A.sz ≤ N) (hE : A.eqv B) (a b : Option Addr) (ca cb : Nat) (S : Nat → Prop) (w : World) (ha : A.In w S a 0) (hb : B.In w S b 0) (hS : Sub S w) (la : A.len * 152 ≤ 140737488355328) :
    Calls Tryz.prog 36 #[.slice a A.len ca, .slice b B.len cb] w fun e w' => e = .returned (.bool true) ∧ Below w.heap.size w w' := by
  have hlen := TmL.eqv_len A B hE
  rw [← hlen]
  clear hlen
  have HCH : Hid (SmC N) := HC
  have H0 : Hid (A.In w S a 0 ∧ B.In w S b 0 ∧ A.eqv B) := ⟨ha, hb, hE⟩
  clear HC ha hb hE
  go_enter Tryz.func36, Tryz.ntmps36
  go_wp2_with fail
  go_loopw [5] (fun x wr => ∃ (k : Nat) (l r : TmL), x = .int .i64 k ∧ l.len + k = A.len ∧ l.sz ≤ N ∧ Hid (l.In w S a k ∧ r.In w S b k ∧ l.eqv r) ∧ Hid (Below w.heap.size w wr)) (fun x _ => A.len - (intOf x).toNat)
  case atStart => exact ⟨0, A, B, rfl, rfl, hN, H0.out, Below.refl _ _⟩
  case round =>
    obtain ⟨k, l, r, rfl, hl, hlN, HI, HW⟩ := hrel
    clear H0
    cases l with
    | nil =>
      have h1 : A.len ≤ k := by simp [TmL.len] at hl; omega
      clear hl
      go_wp2_with fail
      go_ret
      exact ⟨rfl, HW.out⟩
    | cons t l =>
      cases r with
      | nil => exact absurd HI.out.2.2 (by simp [TmL.eqv])
      | cons u r =>
        obtain ⟨hv1, hv2, he⟩ := HI.out
        simp only [TmL.eqv] at he
        simp only [TmL.In] at hv1 hv2
        obtain ⟨g1, o1, cs1, rfl, hg1, c1, ht, hl'⟩ := hv1
        obtain ⟨g2, o2, cs2, rfl, hg2, c2, hu, hr'⟩ := hv2
        have hk1 : k < A.len := by simp only [TmL.len] at hl; omega
        have hi0 : (0 : Int) ≤ (k : Int) := Int.natCast_nonneg _
        have hi1 : (k : Int) < (A.len : Int) := by omega
        have HL : Hid (l.len + (k + 1) = A.len) := by show _ = _; simp only [TmL.len] at hl; omega
        have htN : t.sz ≤ N ∧ l.sz ≤ N := by simp [TmL.sz] at hlN; omega
        have hs : Same S w wr := hS.same HW.out
        have HO : Hid (∀ W, Below wr.heap.size wr W → Calls Tryz.prog 19 #[.agg cs1, .agg cs2] W fun e w' => e = .returned (.bool true) ∧ Below W.heap.size W w') :=
          HCH.out.at htN.1 he.1 (t.In_same hs (fun _ h => h) cs1 ht) (u.In_same hs (fun _ h => h) cs2 hu) (hS.later HW.out)
        obtain ⟨k1, b1, i1, f1, tx1, vb1, rf1, vl1, vf1, cl1, vr1, rfl⟩ := Tm.In_tc ht
        obtain ⟨k2, b2, i2, f2, tx2, vb2, rf2, vl2, vf2, cl2, vr2, rfl⟩ := Tm.In_tc hu
        obtain ⟨e0, e1, e2, e3, e4, e5, e6, e7, e8, e9, e10⟩ := eleven (w := wr) (g := g1) (o := o1 + k * 11) (fun x hx => by rw [hs.cell (p := ⟨g1, o1 + k * 11 + x, none⟩) hg1]; exact c1 x hx)
        obtain ⟨d0, d1, d2, d3, d4, d5, d6, d7, d8, d9, d10⟩ := eleven (w := wr) (g := g2) (o := o2 + k * 11) (fun x hx => by rw [hs.cell (p := ⟨g2, o2 + k * 11 + x, none⟩) hg2]; exact c2 x hx)
        have HN : Hid (l.In w S (some ⟨g1, o1, none⟩) (k + 1) ∧ r.In w S (some ⟨g2, o2, none⟩) (k + 1) ∧ l.eqv r) := ⟨hl', hr', he.2⟩
        unfold tcells at HO
        clear hl hlN HI hl' hr' he ht hu hs c1 c2
        go_wp2_with fail
        go_region_with ((go_at_call 19; refine (HO.out _ ?_).mono ?_; exact (Below.refl _ _).drew; rintro e w4 ⟨rfl, hb4⟩; have HB4 : Hid (Below w.heap.size w w4) := HW.out.trans (((Below.refl _ _).drew.trans hb4).mono HW.out.size); clear hb4))
        all_goals
          go_wp2_with fail
          go_roundw
          case rel => exact ⟨k + 1, l, r, by go_num, HL.out, htN.2, HN.out, HB4.out⟩
          case measure => simp [intOf]; omega
end Go.Proofs.YtnndlffidifddaaGreatDoor

