/- wire.Decode and wire.Skip at bytes that begin with a value. -/
import Derived.Test.YtmmiiapfefmcjaaJ30
import Derived.Test.YtmmiiapfefmcjaaJ18
import Derived.Test.YtmmiiapfefmcjaaJ25
import Derived.Test.YtmmiiapfefmcjaaJ28
import Derived.Test.YtmmiiapfefmcjaaJ21
import Derived.Test.YtmmiiapfefmcjaaJ20
import Derived.Test.YtmmiiapfefmcjaaJ11
import Derived.Test.YtmmiiapfefmcjaaJ8
import Derived.Deep.RegionWith
namespace Go.Proofs.Ytmmiiapfefmcjaa
open Go.RowKit

theorem RdB.take {w : World} {B : Nat → Prop} {a : Option Addr} {xs : List Int} (h : RdB w B a xs) (n : Nat) : RdB w B a (xs.take n) := fun j u hu => by
  rw [List.getElem?_take] at hu
  split at hu
  · exact h j u hu
  · simp at hu
theorem By.take {xs : List Int} (h : By xs) (n : Nat) : By (xs.take n) := fun x hx => h x (List.mem_of_mem_take hx)

set_option maxRecDepth 100000 in
set_option maxHeartbeats 1000000 in
theorem Skip_ok (xs : List Int) (hby : By xs) (t : Tm) (p2 a2 : Nat) (hr : Sp.rdV xs 64 0 0 = .ok (t, p2) a2) (a : Option Addr) (cap : Nat) (w : World) (hrd : RdB w (Lo w.heap.size) a xs) (hcp : xs.length ≤ cap) (hln : xs.length ≤ 281474976710656) :
    Calls Try.prog 25 #[.slice a xs.length cap] w fun e w' => e = .returned (.tuple #[.int .i64 (a2 : Int), .int .i64 0]) ∧ Below w.heap.size w w' := by
  have HL : Hid (Calls Try.prog 47 #[.slice a xs.length cap] w fun e w' => e = .returned (.tuple #[.int .i64 (a2 : Int), .int .i64 0]) ∧ Below w.heap.size w w') := look_ok xs hby t p2 a2 hr a cap w hrd hcp hln
  clear hr hby hrd
  go_enter Try.func25, Try.ntmps25
  go_wp2_with fail
  refine HL.out.mono ?_
  rintro e w1 ⟨rfl, hb1⟩
  go_wp2_with fail
  go_ret2
  exact ⟨rfl, hb1⟩

set_option maxRecDepth 100000 in
set_option maxHeartbeats 1000000 in
theorem Decode_ok (xs : List Int) (hby : By xs) (t : Tm) (p2 p3 a2 : Nat) (hr : Sp.rdV xs 64 0 0 = .ok (t, p2) a2) (hr2 : Sp.rdV (xs.take a2) 64 0 0 = .ok (t, p3) a2) (hle : a2 ≤ xs.length) (g0 o0 : Nat) (cap : Nat) (w : World) (hrd : RdB w (Lo w.heap.size) (some ⟨g0, o0, none⟩) xs) (hcp : xs.length ≤ cap) (hln : xs.length ≤ 281474976710656) :
    Calls Try.prog 24 #[.slice (some ⟨g0, o0, none⟩) xs.length cap] w fun e w' => ∃ v, e = .returned (.tuple #[v, .int .i64 (a2 : Int), .int .i64 0]) ∧ Below w.heap.size w w' ∧ t.V w' (Fr w w') v := by
  have HL : Hid (Calls Try.prog 47 #[.slice (some ⟨g0, o0, none⟩) xs.length cap] w fun e w' => e = .returned (.tuple #[.int .i64 (a2 : Int), .int .i64 0]) ∧ Below w.heap.size w w') := look_ok xs hby t p2 a2 hr _ cap w hrd hcp hln
  have hlt : (xs.take a2).length = a2 := by rw [List.length_take]; omega
  have HX : Hid (By (xs.take a2) ∧ Sp.rdV (xs.take a2) 64 0 0 = .ok (t, p3) a2 ∧ RdB w (Lo w.heap.size) (some ⟨g0, o0, none⟩) (xs.take a2) ∧ (xs.take a2).length = a2) := ⟨hby.take _, hr2, hrd.take _, hlt⟩
  clear hr hby hrd hr2 hlt
  go_enter Try.func24, Try.ntmps24
  go_wp2_with fail
  refine HL.out.mono ?_
  rintro e w1 ⟨rfl, hb1⟩
  have HB1 : Hid (Below w.heap.size w w1) := hb1
  clear hb1 HL
  go_wp2_with fail
  have HN : Hid (Rdr (w1.alloc (.cells #[.slice (some ⟨g0, o0, none⟩) a2 cap, .int .i64 0, .int .i64 0] 91)) w1.heap.size (some ⟨g0, o0, none⟩) (xs.take a2) cap 0 0) := by
    have := newRdr w1 (some ⟨g0, o0, none⟩) (xs.take a2) cap (HX.out.2.2.1.same (Same.of_below HB1.out (Nat.le_refl _)) (Lo.le HB1.out.size)) (by rw [HX.out.2.2.2]; omega) (by rw [HX.out.2.2.2]; omega)
    rw [HX.out.2.2.2] at this
    exact this
  refine (made_ok (xs.take a2) HX.out.1 64 w1.heap.size _ cap 0 0 0 t p3 a2 _ HN.out HX.out.2.1).mono ?_
  rintro e w2 ⟨v, rfl, hr2, hb2, hv⟩
  have hz := HB1.out.size
  have HE : Hid (Below w.heap.size w w2 ∧ t.V w2 (Fr w w2) v) := ⟨(HB1.out.alloc hz _).trans (hb2.below hz), t.V_same (Same.refl _ _) (fun k hk => ⟨by have := hk.1; simp at this; omega, hk.2⟩) v hv⟩
  clear hr2 hb2 hv
  go_wp2_with fail
  go_ret3
  exact ⟨v, rfl, HE.out⟩
end Go.Proofs.Ytmmiiapfefmcjaa

/- Bytes that a function made: rows that are joined. -/
namespace Go.Proofs.Ytmmiiapfefmcjaa
open Go.RowKit

/-- what a function that makes bytes answers -/
def NewB (w : World) (ys : List Int) (e : Ending) (w' : World) : Prop := ∃ g cap, e = .returned (.slice (some ⟨g, 0, none⟩) ys.length cap) ∧ Outs w' w.heap.size (some ⟨g, 0, none⟩) cap ys ∧ Below w.heap.size w w'
theorem u8s_one (ys : List Int) : ∀ u ∈ u8s ys, u.oneCell' = true := fun u hu => by
  simp only [u8s, List.mem_map] at hu
  obtain ⟨x, _, rfl⟩ := hu; rfl
theorem outs_src {w : World} {base g cap : Nat} {ys : List Int} (h : Outs w base (some ⟨g, 0, none⟩) cap ys) : Src Try.prog 1 23 (.slice (some ⟨g, 0, none⟩) ys.length cap) ys.length (u8s ys) w :=
  Src.ofSlice _ Try.undB ⟨g, 0, none⟩ ys.length cap _ (by simp [u8s]) (fun j u hu => h.1.cells (g := g) rfl j u hu) (u8s_one ys)
theorem outs_call {w w' : World} {base : Nat} {a : Option Addr} {cap : Nat} {xs : List Int} (h : Outs w base a cap xs) (hb : Below w.heap.size w w') : Outs w' base a cap xs :=
  ⟨owns_below hb h.1, Nat.le_trans h.2 hb.size⟩
theorem outs_none (w : World) : Outs (w.alloc (.cells #[] 5)) w.heap.size (some ⟨w.heap.size, 0, none⟩) 0 [] :=
  ⟨⟨rfl, .inr ⟨w.heap.size, 0, #[], rfl, Nat.le_refl _, heap_alloc_new w _, Nat.le_refl _, by simp [maxLen], rfl, rfl⟩⟩, by simp⟩
end Go.Proofs.Ytmmiiapfefmcjaa

/- tenonmake.plain, kind by kind. -/
namespace Go.Proofs.Ytmmiiapfefmcjaa
open Go.RowKit

theorem box_at1 {w : World} {o : Obj} {w1 : World} (h : Below (w.alloc o).heap.size (w.alloc o) w1) : w1.heap[w.heap.size]? = some o ∧ Below w.heap.size w w1 ∧ w.heap.size + 1 ≤ w1.heap.size := by
  refine ⟨?_, below_to ((Below.refl _ _).alloc (Nat.le_refl _) _) h, by have := h.size; simpa using this⟩
  rw [h.block w.heap.size (by simp)]; exact heap_alloc_new w o

set_option maxRecDepth 100000 in
set_option maxHeartbeats 1000000 in
theorem pl_1 (w : World) (deep : Int) (hd : deep ≤ 400) : Calls Try.prog 65 #[.nilIface, .int .i64 deep] w fun e w' => e = .returned (.agg (tcells 1 false 0 0 ByteArray.empty (.slice none 0 0) 0 (.slice none 0 0) (.slice none 0 0) ByteArray.empty 0)) ∧ Below w.heap.size w w' := by
  have hd' : decide (400 < deep) = false := by simp; omega
  go_enter Try.func65, Try.ntmps65
  go_wp2_with fail
  refine bodyPost_ret (v := .agg (tcells 1 false 0 0 ByteArray.empty (.slice none 0 0) 0 (.slice none 0 0) (.slice none 0 0) ByteArray.empty 0)) (by simp [results, Try.results65, go_sem, tcells] <;> rfl) rfl ⟨rfl, ?_⟩
  exact (Below.refl _ _).alloc (Nat.le_refl _) _
set_option maxRecDepth 100000 in
set_option maxHeartbeats 1000000 in
theorem pl_2 (b : Bool) (w : World) (deep : Int) (hd : deep ≤ 400) : Calls Try.prog 65 #[.iface 4 (.bool b), .int .i64 deep] w fun e w' => e = .returned (.agg (tcells 2 b 0 0 ByteArray.empty (.slice none 0 0) 0 (.slice none 0 0) (.slice none 0 0) ByteArray.empty 0)) ∧ Below w.heap.size w w' := by
  have hd' : decide (400 < deep) = false := by simp; omega
  go_enter Try.func65, Try.ntmps65
  go_wp2_with fail
  refine bodyPost_ret (v := .agg (tcells 2 b 0 0 ByteArray.empty (.slice none 0 0) 0 (.slice none 0 0) (.slice none 0 0) ByteArray.empty 0)) (by simp [results, Try.results65, go_sem, tcells] <;> rfl) rfl ⟨rfl, ?_⟩
  exact (Below.refl _ _).alloc (Nat.le_refl _) _
set_option maxRecDepth 100000 in
set_option maxHeartbeats 1000000 in
theorem pl_3 (i : Int) (w : World) (deep : Int) (hd : deep ≤ 400) : Calls Try.prog 65 #[.iface 2 (.int .i64 i), .int .i64 deep] w fun e w' => e = .returned (.agg (tcells 3 false i 0 ByteArray.empty (.slice none 0 0) 0 (.slice none 0 0) (.slice none 0 0) ByteArray.empty 0)) ∧ Below w.heap.size w w' := by
  have hd' : decide (400 < deep) = false := by simp; omega
  go_enter Try.func65, Try.ntmps65
  go_wp2_with fail
  refine bodyPost_ret (v := .agg (tcells 3 false i 0 ByteArray.empty (.slice none 0 0) 0 (.slice none 0 0) (.slice none 0 0) ByteArray.empty 0)) (by simp [results, Try.results65, go_sem, tcells] <;> rfl) rfl ⟨rfl, ?_⟩
  exact (Below.refl _ _).alloc (Nat.le_refl _) _
set_option maxRecDepth 100000 in
set_option maxHeartbeats 1000000 in
theorem pl_4 (f : Nat) (w : World) (deep : Int) (hd : deep ≤ 400) : Calls Try.prog 65 #[.iface 22 (.float .f64 f), .int .i64 deep] w fun e w' => e = .returned (.agg (tcells 4 false 0 f ByteArray.empty (.slice none 0 0) 0 (.slice none 0 0) (.slice none 0 0) ByteArray.empty 0)) ∧ Below w.heap.size w w' := by
  have hd' : decide (400 < deep) = false := by simp; omega
  go_enter Try.func65, Try.ntmps65
  go_wp2_with fail
  refine bodyPost_ret (v := .agg (tcells 4 false 0 f ByteArray.empty (.slice none 0 0) 0 (.slice none 0 0) (.slice none 0 0) ByteArray.empty 0)) (by simp [results, Try.results65, go_sem, tcells] <;> rfl) rfl ⟨rfl, ?_⟩
  exact (Below.refl _ _).alloc (Nat.le_refl _) _
set_option maxRecDepth 100000 in
set_option maxHeartbeats 1000000 in
theorem pl_5 (s : ByteArray) (w : World) (deep : Int) (hd : deep ≤ 400) : Calls Try.prog 65 #[.iface 9 (.string s), .int .i64 deep] w fun e w' => e = .returned (.agg (tcells 5 false 0 0 s (.slice none 0 0) 0 (.slice none 0 0) (.slice none 0 0) ByteArray.empty 0)) ∧ Below w.heap.size w w' := by
  have hd' : decide (400 < deep) = false := by simp; omega
  go_enter Try.func65, Try.ntmps65
  go_wp2_with fail
  refine bodyPost_ret (v := .agg (tcells 5 false 0 0 s (.slice none 0 0) 0 (.slice none 0 0) (.slice none 0 0) ByteArray.empty 0)) (by simp [results, Try.results65, go_sem, tcells] <;> rfl) rfl ⟨rfl, ?_⟩
  exact (Below.refl _ _).alloc (Nat.le_refl _) _
set_option maxRecDepth 100000 in
set_option maxHeartbeats 1000000 in
theorem pl_7 (rf : Int) (w : World) (deep : Int) (hd : deep ≤ 400) : Calls Try.prog 65 #[.iface 25 (.int .u64 rf), .int .i64 deep] w fun e w' => e = .returned (.agg (tcells 7 false 0 0 ByteArray.empty (.slice none 0 0) rf (.slice none 0 0) (.slice none 0 0) ByteArray.empty 0)) ∧ Below w.heap.size w w' := by
  have hd' : decide (400 < deep) = false := by simp; omega
  go_enter Try.func65, Try.ntmps65
  go_wp2_with fail
  refine bodyPost_ret (v := .agg (tcells 7 false 0 0 ByteArray.empty (.slice none 0 0) rf (.slice none 0 0) (.slice none 0 0) ByteArray.empty 0)) (by simp [results, Try.results65, go_sem, tcells] <;> rfl) rfl ⟨rfl, ?_⟩
  exact (Below.refl _ _).alloc (Nat.le_refl _) _
set_option maxRecDepth 100000 in
set_option maxHeartbeats 1000000 in
theorem pl_9 (al : Option Addr) (L L' : TmF) (cl : Nat) (w : World) (deep : Int) (hd : deep ≤ 400) (h : ∀ W, Below w.heap.size w W → Calls Try.prog 108 #[.slice al L.len cl, .int .i64 deep] W fun e w' => ∃ a cap, e = .returned (.slice a L.len cap) ∧ Below W.heap.size W w' ∧ L'.In w' (Fr W w') a 0) :
    Calls Try.prog 65 #[.iface 72 (.slice al L.len cl), .int .i64 deep] w fun e w' => ∃ a cap, e = .returned (.agg (tcells 9 false 0 0 ByteArray.empty (.slice none 0 0) 0 (.slice none 0 0) (.slice a L.len cap) ByteArray.empty 0)) ∧ Below w.heap.size w w' ∧ L'.In w' (Fr w w') a 0 := by
  have hd' : decide (400 < deep) = false := by simp; omega
  have HC : Hid _ := h
  clear h
  go_enter Try.func65, Try.ntmps65
  go_wp2_with (go_at_call 108; refine (HC.out _ ((Below.refl _ _).alloc (Nat.le_refl _) _)).mono ?_; rintro e w1 ⟨a, cap, rfl, hb1, hl1⟩; obtain ⟨hR, hbw, hsz⟩ := box_at1 hb1; obtain ⟨r0, r1, r2, r3, r4, r5, r6, r7, r8, r9, r10⟩ := tbox hR; have hf := box_writes hR; have f0 := hf 0; have f1 := hf 1; have f2 := hf 2; have f3 := hf 3; have f4 := hf 4; have f5 := hf 5; have f6 := hf 6; have f7 := hf 7; have f8 := hf 8; have f9 := hf 9; have f10 := hf 10; have HB1 : Hid (Below w.heap.size w w1) := hbw; have HL1 : Hid (L'.In w1 (fun k => w.heap.size + 1 ≤ k ∧ k < w1.heap.size) a 0) := L'.In_same (Same.refl _ _) (fun k hk => ⟨by have := hk.1; simpa using this, hk.2⟩) _ _ hl1; clear hb1 hl1 hR hf hbw)
  have HE : Hid (Below w.heap.size w (setN w1 w.heap.size 0 [.int .i64 9, .bool false, .int .i64 0, .float .f64 0, .string ByteArray.empty, .slice none 0 0, .int .u64 0, .slice none 0 0, .slice a L.len cap, .string ByteArray.empty, .int .i64 0]) ∧ L'.In (setN w1 w.heap.size 0 [.int .i64 9, .bool false, .int .i64 0, .float .f64 0, .string ByteArray.empty, .slice none 0 0, .int .u64 0, .slice none 0 0, .slice a L.len cap, .string ByteArray.empty, .int .i64 0]) (Fr w (setN w1 w.heap.size 0 [.int .i64 9, .bool false, .int .i64 0, .float .f64 0, .string ByteArray.empty, .slice none 0 0, .int .u64 0, .slice none 0 0, .slice a L.len cap, .string ByteArray.empty, .int .i64 0])) a 0) := ⟨setN_below (Nat.le_refl _) _ _ _ _ HB1.out, L'.In_same (fun k hk => setN_other (by have := hk.1; omega) _ _ _) (fun k hk => ⟨by have := hk.1; omega, by rw [setN_size]; exact hk.2⟩) _ _ HL1.out⟩
  refine bodyPost_ret (v := .agg (tcells 9 false 0 0 ByteArray.empty (.slice none 0 0) 0 (.slice none 0 0) (.slice a L.len cap) ByteArray.empty 0)) (by simp [results, Try.results65, go_sem, tcells, r0, r1, r2, r3, r4, r5, r6, r7, r8, r9, r10] <;> rfl) rfl ⟨a, cap, rfl, HE.out.1, HE.out.2⟩
set_option maxRecDepth 100000 in
set_option maxHeartbeats 2000000 in
theorem pl_10 (g : Nat) (s : ByteArray) (vr : Int) (al : Option Addr) (L L' : TmF) (cl : Nat) (w : World) (deep : Int) (hd : deep ≤ 400) (hg : g < w.heap.size) (c0 : w.cell? ⟨g, 0, none⟩ = some (.string s)) (c1 : w.cell? ⟨g, 1, none⟩ = some (.int .i64 vr)) (c2 : w.cell? ⟨g, 2, none⟩ = some (.slice al L.len cl))
    (h : ∀ W, Below w.heap.size w W → Calls Try.prog 108 #[.slice al L.len cl, .int .i64 deep] W fun e w' => ∃ a cap, e = .returned (.slice a L.len cap) ∧ Below W.heap.size W w' ∧ L'.In w' (Fr W w') a 0) :
    Calls Try.prog 65 #[.iface 74 (.pointer (some ⟨g, 0, none⟩)), .int .i64 deep] w fun e w' => ∃ a cap, e = .returned (.agg (tcells 10 false 0 0 ByteArray.empty (.slice none 0 0) 0 (.slice none 0 0) (.slice a L.len cap) s vr)) ∧ Below w.heap.size w w' ∧ L'.In w' (Fr w w') a 0 := by
  have hd' : decide (400 < deep) = false := by simp; omega
  have HC : Hid _ := h
  have HX : Hid (∀ W, Below w.heap.size w W → W.cell? ⟨g, 0, none⟩ = some (.string s) ∧ W.cell? ⟨g, 1, none⟩ = some (.int .i64 vr) ∧ W.cell? ⟨g, 2, none⟩ = some (.slice al L.len cl)) := fun W hW => ⟨by rw [hW.cell (p := ⟨g, 0, none⟩) hg]; exact c0, by rw [hW.cell (p := ⟨g, 1, none⟩) hg]; exact c1, by rw [hW.cell (p := ⟨g, 2, none⟩) hg]; exact c2⟩
  have HB0 : Hid (Below w.heap.size w (w.alloc (.cells #[.int .i64 0, .bool false, .int .i64 0, .float .f64 0, .string ByteArray.empty, .slice none 0 0, .int .u64 0, .slice none 0 0, .slice none 0 0, .string ByteArray.empty, .int .i64 0] 29))) := (Below.refl _ _).alloc (Nat.le_refl _) _
  have hfar : g ≠ w.heap.size := by omega
  clear c0 c1 c2 h
  go_enter Try.func65, Try.ntmps65
  go_wp2_with fail
  go_region_held3 (fun W => W.cell? ⟨g, 0, none⟩ = some (.string s) ∧ W.cell? ⟨g, 1, none⟩ = some (.int .i64 vr) ∧ W.cell? ⟨g, 2, none⟩ = some (.slice al L.len cl))
    (first | (refine ⟨?_, ?_, ?_⟩ <;> ((repeat rw [cell_far hfar]); first | with_reducible exact (HX.out w2 HBw2.out).1 | with_reducible exact (HX.out w2 HBw2.out).2.1 | with_reducible exact (HX.out w2 HBw2.out).2.2)) | exact HX.out _ HB0.out | exact HX.out _ HB0.out.drew)
    ((first
      | (go_at_call 108; refine (HC.out _ ?_).mono ?_; exact HB0.out.drew; rintro e w2 ⟨a, cap, rfl, hb2, hl2⟩; have hb2' : Below (w.alloc (.cells #[.int .i64 0, .bool false, .int .i64 0, .float .f64 0, .string ByteArray.empty, .slice none 0 0, .int .u64 0, .slice none 0 0, .slice none 0 0, .string ByteArray.empty, .int .i64 0] 29)).heap.size (w.alloc (.cells #[.int .i64 0, .bool false, .int .i64 0, .float .f64 0, .string ByteArray.empty, .slice none 0 0, .int .u64 0, .slice none 0 0, .slice none 0 0, .string ByteArray.empty, .int .i64 0] 29)) w2 := below_to (Below.refl _ _).drew hb2; obtain ⟨hR, hbw, hsz⟩ := box_at1 hb2'; obtain ⟨r0, r1, r2, r3, r4, r5, r6, r7, r8, r9, r10⟩ := tbox hR; have hf := box_writes hR; have f0 := hf 0; have f1 := hf 1; have f2 := hf 2; have f3 := hf 3; have f4 := hf 4; have f5 := hf 5; have f6 := hf 6; have f7 := hf 7; have f8 := hf 8; have f9 := hf 9; have f10 := hf 10; have HBw2 : Hid (Below w.heap.size w w2) := hbw; have HL2 : Hid (L'.In w2 (fun k => w.heap.size + 1 ≤ k ∧ k < w2.heap.size) a 0) := L'.In_same (Same.refl _ _) (fun k hk => ⟨by have h2 := hk.1; simpa using h2, hk.2⟩) _ _ hl2; clear hb2 hb2' hl2 hR hf hbw)))
  have HE : Hid (Below w.heap.size w (setN w2 w.heap.size 0 [.int .i64 10, .bool false, .int .i64 0, .float .f64 0, .string ByteArray.empty, .slice none 0 0, .int .u64 0, .slice none 0 0, .slice a L.len cap, .string s, .int .i64 vr]) ∧ L'.In (setN w2 w.heap.size 0 [.int .i64 10, .bool false, .int .i64 0, .float .f64 0, .string ByteArray.empty, .slice none 0 0, .int .u64 0, .slice none 0 0, .slice a L.len cap, .string s, .int .i64 vr]) (Fr w (setN w2 w.heap.size 0 [.int .i64 10, .bool false, .int .i64 0, .float .f64 0, .string ByteArray.empty, .slice none 0 0, .int .u64 0, .slice none 0 0, .slice a L.len cap, .string s, .int .i64 vr])) a 0) := ⟨setN_below (Nat.le_refl _) _ _ _ _ HBw2.out, L'.In_same (fun k hk => setN_other (by have := hk.1; omega) _ _ _) (fun k hk => ⟨by have := hk.1; omega, by rw [setN_size]; exact hk.2⟩) _ _ HL2.out⟩
  go_wp2_with fail
  refine bodyPost_ret (v := .agg (tcells 10 false 0 0 ByteArray.empty (.slice none 0 0) 0 (.slice none 0 0) (.slice a L.len cap) s vr)) (by simp [results, Try.results65, go_sem, tcells, r0, r1, r2, r3, r4, r5, r6, r7, r8, r9, r10] <;> rfl) rfl ⟨a, cap, rfl, HE.out.1, HE.out.2⟩
end Go.Proofs.Ytmmiiapfefmcjaa

/- tenonref01.Check at a term: what the plain walk through it says. -/
namespace Go.Proofs.Ytmmiiapfefmcjaa
open Go.RowKit

theorem part_all (N : Nat) : PartC N := by
  induction N with
  | zero => intro t ht; cases t; simp [Tm.sz] at ht
  | succ N ih => intro t hN cs B p d a n w h hB h1 h2 h3 h4; exact part_any N ih t hN cs B p d a n w h hB h1 h2 h3 h4

theorem part_top (t : Tm) (cs : Array Value) (B : Nat → Prop) (w : World) (h : t.In w B cs) (hB : Sub B w) : ∀ W, Below w.heap.size w W →
    Calls Try.prog 38 #[.agg #[.int .i64 0, .int .i64 0, .int .i64 0, .int .i64 0], .agg cs, .int .i64 1] W fun e w' => ∃ n d a, e = .returned (.agg #[.int .i64 n, .int .i64 d, .int .i64 a, .int .i64 t.all.e]) ∧ Below W.heap.size W w' ∧ Seen 0 t.all n d a :=
  fun W hW => part_all t.sz t (Nat.le_refl _) cs B 0 0 0 1 W (t.In_same (hB.same hW) (fun _ h => h) cs h) (hB.later hW) (by decide) (by decide) (by decide) (by decide)

set_option maxRecDepth 100000 in
set_option maxHeartbeats 400000 in
theorem refCheck_any (t : Tm) (cs : Array Value) (B : Nat → Prop) (w : World) (h : t.In w B cs) (hB : Sub B w) :
    Calls Try.prog 12 #[.agg cs] w fun e w' => e = .returned (.tuple #[.int .i64 t.cAt, .int .i64 t.all.e]) ∧ Below w.heap.size w w' := by
  have HP := part_top t cs B w h hB
  obtain ⟨k, b, i, f, tx, vb, rf, vl, vf, c, vr, rfl⟩ : ∃ k b i f tx vb rf vl vf c vr, cs = tcells k b i f tx vb rf vl vf c vr := by
    cases t; simp only [Tm.In] at h; obtain ⟨_, _, _, _, _, _, rfl, _⟩ := h; exact ⟨_, _, _, _, _, _, _, _, _, _, _, rfl⟩
  clear h
  unfold tcells at HP ⊢
  have HP : Hid _ := HP
  have HS : Hid (∀ n d a, Seen 0 t.all n d a → a = t.cAt) := fun n d a hs => by
    unfold Tm.cAt
    by_cases he : t.all.e ≠ 0
    · rw [if_pos he]; exact hs.2 he
    · rw [if_neg he]; exact (hs.1 (Decidable.not_not.1 he)).2.2
  go_enter Try.func12, Try.ntmps12
  go_wp2_with (go_at_call 38; refine (HP.out _ ?_).mono ?_; exact (Below.refl _ _).alloc (Nat.le_refl _) _; rintro e w1 ⟨n, d, a, rfl, hb1, hs⟩; obtain rfl := HS.out n d a hs)
  go_quiet (fail)
  go_wp2_with fail
  go_ret2
  have hz : w.heap.size ≤ w1.heap.size := by have := hb1.size; simp at this; omega
  exact ⟨rfl, ((((Below.refl _ _).alloc (Nat.le_refl _) _).trans (hb1.mono (by simp))).alloc hz _).trans (below_drewN' _ _ _)⟩
end Go.Proofs.Ytmmiiapfefmcjaa

/- value.Order and value.Same at two terms' values. -/
namespace Go.Proofs.Ytmmiiapfefmcjaa
open Go.RowKit

/-- what Order answers: a number and an error -/
def Tm.ordN (s t : Tm) : Int := if s.all.e ≠ 0 ∨ t.all.e ≠ 0 then 0 else s.cmp t
def Tm.ordE (s t : Tm) : Int := if s.all.e ≠ 0 then s.all.e else t.all.e
/-- whether two values can be and are the same -/
def Tm.sameB (s t : Tm) : Bool := decide (s.all.e = 0 ∧ t.all.e = 0 ∧ s.cmp t = 0)

theorem Tm.ok_all {t : Tm} (h : t.all.e = 0) : t.Ok := ⟨1, 0, 0, h⟩

end Go.Proofs.Ytmmiiapfefmcjaa

/- value.Same at two terms' values; two terms in boxes. -/
namespace Go.Proofs.Ytmmiiapfefmcjaa
open Go.RowKit

/-- the eleven cells of a term in box g -/
def Tbx (W : World) (g : Nat) (k : Int) (b : Bool) (i : Int) (f : Nat) (tx : ByteArray) (vb : Value) (rf : Int) (vl vf : Value) (c : ByteArray) (vr : Int) : Prop :=
  W.cell? ⟨g, 0, none⟩ = some (.int .i64 k) ∧ W.cell? ⟨g, 1, none⟩ = some (.bool b) ∧ W.cell? ⟨g, 2, none⟩ = some (.int .i64 i) ∧ W.cell? ⟨g, 3, none⟩ = some (.float .f64 f) ∧ W.cell? ⟨g, 4, none⟩ = some (.string tx) ∧ W.cell? ⟨g, 5, none⟩ = some vb ∧ W.cell? ⟨g, 6, none⟩ = some (.int .u64 rf) ∧ W.cell? ⟨g, 7, none⟩ = some vl ∧ W.cell? ⟨g, 8, none⟩ = some vf ∧ W.cell? ⟨g, 9, none⟩ = some (.string c) ∧ W.cell? ⟨g, 10, none⟩ = some (.int .i64 vr)
theorem Tm.In_box {w : World} {B : Nat → Prop} {t : Tm} {cs : Array Value} (h : t.In w B cs) : ∃ b i f tx vb rf vl vf c vr, cs = tcells t.kind b i f tx vb rf vl vf c vr := by
  cases t; simp only [Tm.In] at h; obtain ⟨_, _, _, _, _, _, rfl, _⟩ := h; exact ⟨_, _, _, _, _, _, _, _, _, _, rfl⟩
end Go.Proofs.Ytmmiiapfefmcjaa

/- The leaves of the document's own order: tenonref01's numbers, texts, flag, place. -/
namespace Go.Proofs.Ytmmiiapfefmcjaa
open Go.RowKit

end Go.Proofs.Ytmmiiapfefmcjaa

/- The document's own order of terms (tenonref01.fields, tenonref01.Compare) is the plain order. -/
namespace Go.Proofs.Ytmmiiapfefmcjaa
open Go.RowKit

def CmpC (N : Nat) : Prop := ∀ (s t : Tm), s.sz ≤ N → ∀ (cs ct : Array Value) (S : Nat → Prop) (w : World), s.In w S cs → t.In w S ct → Sub S w → s.Ok → t.Ok →
  Calls Try.prog 43 #[.agg cs, .agg ct] w fun e w' => e = .returned (.int .i64 (s.cmp t)) ∧ Below w.heap.size w w'

theorem CmpC.at {N : Nat} (HC : CmpC N) {s t : Tm} (hN : s.sz ≤ N) {cs ct : Array Value} {S : Nat → Prop} {w : World} (hs : s.In w S cs) (ht : t.In w S ct) (hS : Sub S w) (os : s.Ok) (ot : t.Ok) :
    ∀ W, Below w.heap.size w W → Calls Try.prog 43 #[.agg cs, .agg ct] W fun e w' => e = .returned (.int .i64 (s.cmp t)) ∧ Below W.heap.size W w' :=
  fun W hW => HC s t hN cs ct S W (s.In_same (hS.same hW) (fun _ h => h) cs hs) (t.In_same (hS.same hW) (fun _ h => h) ct ht) (hS.later hW) os ot

theorem Tm.In_tc {w : World} {B : Nat → Prop} {t : Tm} {cs : Array Value} (h : t.In w B cs) : ∃ k b i f tx vb rf vl vf c vr, cs = tcells k b i f tx vb rf vl vf c vr := by
  cases t; simp only [Tm.In] at h; obtain ⟨_, _, _, _, _, _, rfl, _⟩ := h; exact ⟨_, _, _, _, _, _, _, _, _, _, _, rfl⟩

end Go.Proofs.Ytmmiiapfefmcjaa

