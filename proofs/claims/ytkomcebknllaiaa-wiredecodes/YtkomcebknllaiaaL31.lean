/- wire.look at bytes that begin with a value. -/
import Derived.Test.YtkomcebknllaiaaL30
import Derived.Test.YtkomcebknllaiaaL8
import Derived.Test.YtkomcebknllaiaaL26
import Derived.Test.YtkomcebknllaiaaL27
import Derived.Test.YtkomcebknllaiaaL23
import Derived.Test.YtkomcebknllaiaaL22
import Derived.Test.YtkomcebknllaiaaL4
import Derived.Deep.RegionWith
namespace Go.Proofs.Ytkomcebknllaiaa
open Go.RowKit

theorem newRdr (w0 : World) (a : Option Addr) (xs : List Int) (cap : Nat) (h : RdB w0 (Lo w0.heap.size) a xs) (hcp : xs.length ≤ cap) (hln : xs.length ≤ 281474976710656) : Rdr (w0.alloc (.cells #[.slice a xs.length cap, .int .i64 0, .int .i64 0] 95)) w0.heap.size a xs cap 0 0 := by
  have hn := heap_alloc_new w0 (.cells #[.slice a xs.length cap, .int .i64 0, .int .i64 0] 95)
  refine ⟨?_, ?_, ?_, frozen_of_row _ _ 1 _ _ hn, frozen_of_row _ _ 2 _ _ hn, h.same (fun k hk => Below.heap_alloc _ _ _ hk) (fun _ h => h), hcp, hln, Nat.zero_le _, Nat.zero_le _⟩
  · simp
  · simp
  · simp
/-- the two variables that look's results lie in, and the reader, all new -/
def lookW (w : World) (a : Option Addr) (n cap : Nat) : World := ((w.alloc (.cells #[.int .i64 0] 3)).alloc (.cells #[.int .i64 0] 30)).alloc (.cells #[.slice a n cap, .int .i64 0, .int .i64 0] 95)
theorem lookW_rdr (w : World) (a : Option Addr) (xs : List Int) (cap : Nat) (h : RdB w (Lo w.heap.size) a xs) (hcp : xs.length ≤ cap) (hln : xs.length ≤ 281474976710656) : Rdr (lookW w a xs.length cap) (w.heap.size + 1 + 1) a xs cap 0 0 ∧ Below w.heap.size w (lookW w a xs.length cap) ∧ (lookW w a xs.length cap).heap.size = w.heap.size + 1 + 1 + 1 ∧ (lookW w a xs.length cap).heap[w.heap.size]? = some (.cells #[.int .i64 0] 3 (0, 0)) ∧ (lookW w a xs.length cap).heap[w.heap.size + 1]? = some (.cells #[.int .i64 0] 30 (0, 0)) := by
  have hb : Below w.heap.size w ((w.alloc (.cells #[.int .i64 0] 3)).alloc (.cells #[.int .i64 0] 30)) := ((Below.refl _ _).alloc (Nat.le_refl _) _).alloc (by simp) _
  have hz : ((w.alloc (.cells #[.int .i64 0] 3)).alloc (.cells #[.int .i64 0] 30)).heap.size = w.heap.size + 1 + 1 := by simp
  have h1 := newRdr ((w.alloc (.cells #[.int .i64 0] 3)).alloc (.cells #[.int .i64 0] 30)) a xs cap (h.same (Same.of_below hb (Nat.le_refl _)) (Lo.le hb.size)) hcp hln
  rw [hz] at h1
  refine ⟨h1, hb.alloc (by simp; omega) _, by simp [lookW], ?_, ?_⟩
  · unfold lookW
    rw [Below.heap_alloc _ _ _ (by simp; omega), Below.heap_alloc _ _ _ (by simp)]
    exact heap_alloc_new w _
  · unfold lookW
    rw [Below.heap_alloc _ _ _ (by simp)]
    have := heap_alloc_new (w.alloc (.cells #[.int .i64 0] 3)) (.cells #[.int .i64 0] 30)
    simpa using this

set_option maxRecDepth 100000 in
set_option maxHeartbeats 1000000 in
theorem look_ok (xs : List Int) (hby : By xs) (t : Tm) (p2 a2 : Nat) (hr : Sp.rdV xs 64 0 0 = .ok (t, p2) a2) (a : Option Addr) (cap : Nat) (w : World) (hrd : RdB w (Lo w.heap.size) a xs) (hcp : xs.length ≤ cap) (hln : xs.length ≤ 281474976710656) :
    Calls Try.prog 53 #[.slice a xs.length cap] w fun e w' => e = .returned (.tuple #[.int .i64 (a2 : Int), .int .i64 0]) ∧ Below w.heap.size w w' := by
  have hmf : ∀ (fn : Fn) (first cap : Array Value) (w : World), (Instr.makeFunc fn first cap).run Try.prog w = .ok (.func fn first cap) w := fun _ _ _ _ => rfl
  have HX : Hid (By xs ∧ Sp.rdV xs 64 0 0 = .ok (t, p2) a2 ∧ RdB w (Lo w.heap.size) a xs ∧ xs.length ≤ cap ∧ xs.length ≤ 281474976710656) := ⟨hby, hr, hrd, hcp, hln⟩
  clear hby hr hrd hcp hln
  go_enter_defers Try.func53, Try.ntmps53
  go_wp2_with fail
  show Calls Try.prog _ _ (lookW w a xs.length cap) _
  obtain ⟨hR, hbW, hzW, hW0, hW1⟩ := lookW_rdr w a xs cap HX.out.2.2.1 HX.out.2.2.2.1 HX.out.2.2.2.2
  refine (value_ok xs HX.out.1 64 (Nat.le_refl _) (w.heap.size + 1 + 1) a cap 0 0 t p2 a2 _ 1 rfl hR HX.out.2.1).mono ?_
  rintro e w1 ⟨rfl, hr1, hb1⟩
  have hB0 := hb1.block w.heap.size (by omega) (by omega)
  have hB1 := hb1.block (w.heap.size + 1) (by omega) (by omega)
  rw [hW0] at hB0
  rw [hW1] at hB1
  have e0 : w1.cell? ⟨w.heap.size, 0, none⟩ = some (.int .i64 0) := by rw [cell_of_row _ _ 0 _ _ _ hB0]; rfl
  have e1 : w1.cell? ⟨w.heap.size + 1, 0, none⟩ = some (.int .i64 0) := by rw [cell_of_row _ _ 0 _ _ _ hB1]; rfl
  have z0 : w1.frozen? ⟨w.heap.size, 0, none⟩ = false := frozen_of_row _ _ 0 _ _ hB0
  have z1 : w1.frozen? ⟨w.heap.size + 1, 0, none⟩ = false := frozen_of_row _ _ 0 _ _ hB1
  have c1 := hr1.c1
  have HB : Hid (Below w.heap.size w w1) := hbW.trans (hb1.below (by omega))
  clear hr1 hb1 hR hbW hzW hW0 hW1 hB0 hB1
  go_wp2_with fail
  have HE : Hid (((w1.setCell ⟨w.heap.size, 0, none⟩ (.int .i64 (a2 : Int))).setCell ⟨w.heap.size + 1, 0, none⟩ (.int .i64 0)).cell? ⟨w.heap.size, 0, none⟩ = some (.int .i64 (a2 : Int)) ∧ ((w1.setCell ⟨w.heap.size, 0, none⟩ (.int .i64 (a2 : Int))).setCell ⟨w.heap.size + 1, 0, none⟩ (.int .i64 0)).cell? ⟨w.heap.size + 1, 0, none⟩ = some (.int .i64 0) ∧ Below w.heap.size w ((w1.setCell ⟨w.heap.size, 0, none⟩ (.int .i64 (a2 : Int))).setCell ⟨w.heap.size + 1, 0, none⟩ (.int .i64 0))) := by
    refine ⟨?_, ?_, ((HB.out.setCell (p := ⟨w.heap.size, 0, none⟩) (Nat.le_refl _) _).setCell (p := ⟨w.heap.size + 1, 0, none⟩) (Nat.le_succ _) _)⟩
    · rw [cell_off (by omega)]; exact sc_eq e0
    · exact sc_eq (by rw [cell_off (by omega)]; exact e1)
  generalize (w1.setCell ⟨w.heap.size, 0, none⟩ (.int .i64 (a2 : Int))).setCell ⟨w.heap.size + 1, 0, none⟩ (.int .i64 0) = W2 at HE ⊢
  refine leaves_cons (f := 97) (args := #[.pointer (some ⟨w.heap.size, 0, none⟩), .pointer (some ⟨w.heap.size + 1, 0, none⟩)]) (by simp) (by simp [go_sem]) ?_
  refine (catch_idle _ _ _).mono ?_
  rintro e u' w'' ⟨rfl, rfl, rfl⟩
  simp [Leaves, settle, results, Try.results53, go_sem, HE.out.1, HE.out.2.1]
  exact HE.out.2.2
end Go.Proofs.Ytkomcebknllaiaa

/- wire.Decode and wire.Skip at bytes that begin with a value. -/
namespace Go.Proofs.Ytkomcebknllaiaa
open Go.RowKit

theorem RdB.take {w : World} {B : Nat → Prop} {a : Option Addr} {xs : List Int} (h : RdB w B a xs) (n : Nat) : RdB w B a (xs.take n) := fun j u hu => by
  rw [List.getElem?_take] at hu
  split at hu
  · exact h j u hu
  · simp at hu
theorem By.take {xs : List Int} (h : By xs) (n : Nat) : By (xs.take n) := fun x hx => h x (List.mem_of_mem_take hx)

set_option maxRecDepth 100000 in
set_option maxHeartbeats 1000000 in
theorem Skip_ok (xs : List Int) (hby : By xs) (t : Tm) (p2 a2 : Nat) (hr : Sp.rdV xs 64 0 0 = .ok (t, p2) a2) (a : Option Addr) (cap : Nat) (w : World) (hrd : RdB w (Lo w.heap.size) a xs) (hcp : xs.length ≤ cap) (hln : xs.length ≤ 281474976710656) :
    Calls Try.prog 30 #[.slice a xs.length cap] w fun e w' => e = .returned (.tuple #[.int .i64 (a2 : Int), .int .i64 0]) ∧ Below w.heap.size w w' := by
  have HL : Hid (Calls Try.prog 53 #[.slice a xs.length cap] w fun e w' => e = .returned (.tuple #[.int .i64 (a2 : Int), .int .i64 0]) ∧ Below w.heap.size w w') := look_ok xs hby t p2 a2 hr a cap w hrd hcp hln
  clear hr hby hrd
  go_enter Try.func30, Try.ntmps30
  go_wp2_with fail
  refine HL.out.mono ?_
  rintro e w1 ⟨rfl, hb1⟩
  go_wp2_with fail
  go_ret2
  exact ⟨rfl, hb1⟩

set_option maxRecDepth 100000 in
set_option maxHeartbeats 1000000 in
theorem Decode_ok (xs : List Int) (hby : By xs) (t : Tm) (p2 p3 a2 : Nat) (hr : Sp.rdV xs 64 0 0 = .ok (t, p2) a2) (hr2 : Sp.rdV (xs.take a2) 64 0 0 = .ok (t, p3) a2) (hle : a2 ≤ xs.length) (g0 o0 : Nat) (cap : Nat) (w : World) (hrd : RdB w (Lo w.heap.size) (some ⟨g0, o0, none⟩) xs) (hcp : xs.length ≤ cap) (hln : xs.length ≤ 281474976710656) :
    Calls Try.prog 29 #[.slice (some ⟨g0, o0, none⟩) xs.length cap] w fun e w' => ∃ v, e = .returned (.tuple #[v, .int .i64 (a2 : Int), .int .i64 0]) ∧ Below w.heap.size w w' ∧ t.V w' (Fr w w') v := by
  have HL : Hid (Calls Try.prog 53 #[.slice (some ⟨g0, o0, none⟩) xs.length cap] w fun e w' => e = .returned (.tuple #[.int .i64 (a2 : Int), .int .i64 0]) ∧ Below w.heap.size w w') := look_ok xs hby t p2 a2 hr _ cap w hrd hcp hln
  have hlt : (xs.take a2).length = a2 := by rw [List.length_take]; omega
  have HX : Hid (By (xs.take a2) ∧ Sp.rdV (xs.take a2) 64 0 0 = .ok (t, p3) a2 ∧ RdB w (Lo w.heap.size) (some ⟨g0, o0, none⟩) (xs.take a2) ∧ (xs.take a2).length = a2) := ⟨hby.take _, hr2, hrd.take _, hlt⟩
  clear hr hby hrd hr2 hlt
  go_enter Try.func29, Try.ntmps29
  go_wp2_with fail
  refine HL.out.mono ?_
  rintro e w1 ⟨rfl, hb1⟩
  have HB1 : Hid (Below w.heap.size w w1) := hb1
  clear hb1 HL
  go_wp2_with fail
  have HN : Hid (Rdr (w1.alloc (.cells #[.slice (some ⟨g0, o0, none⟩) a2 cap, .int .i64 0, .int .i64 0] 95)) w1.heap.size (some ⟨g0, o0, none⟩) (xs.take a2) cap 0 0) := by
    have := newRdr w1 (some ⟨g0, o0, none⟩) (xs.take a2) cap (HX.out.2.2.1.same (Same.of_below HB1.out (Nat.le_refl _)) (Lo.le HB1.out.size)) (by rw [HX.out.2.2.2]; omega) (by rw [HX.out.2.2.2]; omega)
    rw [HX.out.2.2.2] at this
    exact this
  refine (made_ok (xs.take a2) HX.out.1 64 w1.heap.size _ cap 0 0 0 t p3 a2 _ HN.out HX.out.2.1).mono ?_
  rintro e w2 ⟨v, rfl, hr2, hb2, hv⟩
  have hz := HB1.out.size
  have HE : Hid (Below w.heap.size w w2 ∧ t.V w2 (Fr w w2) v) := ⟨(HB1.out.alloc hz _).trans (hb2.below hz), t.V_same (Same.refl _ _) (fun k hk => ⟨by have := hk.1; simp at this; omega, hk.2⟩) v hv⟩
  clear hr2 hb2 hv
  go_wp2_with fail
  go_ret3
  exact ⟨v, rfl, HE.out⟩
end Go.Proofs.Ytkomcebknllaiaa

/- Bytes that a function made: rows that are joined. -/
namespace Go.Proofs.Ytkomcebknllaiaa
open Go.RowKit

/-- what a function that makes bytes answers -/
def NewB (w : World) (ys : List Int) (e : Ending) (w' : World) : Prop := ∃ g cap, e = .returned (.slice (some ⟨g, 0, none⟩) ys.length cap) ∧ Outs w' w.heap.size (some ⟨g, 0, none⟩) cap ys ∧ Below w.heap.size w w'
theorem u8s_one (ys : List Int) : ∀ u ∈ u8s ys, u.oneCell' = true := fun u hu => by
  simp only [u8s, List.mem_map] at hu
  obtain ⟨x, _, rfl⟩ := hu; rfl
theorem outs_src {w : World} {base g cap : Nat} {ys : List Int} (h : Outs w base (some ⟨g, 0, none⟩) cap ys) : Src Try.prog 1 23 (.slice (some ⟨g, 0, none⟩) ys.length cap) ys.length (u8s ys) w :=
  Src.ofSlice _ Try.undB ⟨g, 0, none⟩ ys.length cap _ (by simp [u8s]) (fun j u hu => h.1.cells (g := g) rfl j u hu) (u8s_one ys)
theorem outs_call {w w' : World} {base : Nat} {a : Option Addr} {cap : Nat} {xs : List Int} (h : Outs w base a cap xs) (hb : Below w.heap.size w w') : Outs w' base a cap xs :=
  ⟨owns_below hb h.1, Nat.le_trans h.2 hb.size⟩
theorem outs_join {w1 w2 w3 : World} {base g1 cap1 : Nat} {xs ys : List Int} {g' cap' n : Nat} (h : Outs w1 base (some ⟨g1, 0, none⟩) cap1 xs) (hb : Below w1.heap.size w1 w2) (ho : w3.ownsRow base 5 1 (.slice (some ⟨g', 0, none⟩) n cap') n (u8s xs ++ u8s ys)) (hn : n = (xs ++ ys).length) (hg : w2.grownBy w3 (some g1)) : Outs w3 base (some ⟨g', 0, none⟩) cap' (xs ++ ys) ∧ Below base w1 w3 := by
  have hz := hg.size
  have hz2 := hb.size
  have h2 := h.2
  refine ⟨⟨by rw [u8s_app, ← hn]; exact ho, by omega⟩, ?_⟩
  exact (hb.mono h.2).grown hg (by omega) (fun k e => by injection e with e; subst e; exact (h.1.lt g1 rfl).1)
theorem outs_none (w : World) : Outs (w.alloc (.cells #[] 5)) w.heap.size (some ⟨w.heap.size, 0, none⟩) 0 [] :=
  ⟨⟨rfl, .inr ⟨w.heap.size, 0, #[], rfl, Nat.le_refl _, heap_alloc_new w _, Nat.le_refl _, by simp [maxLen], rfl, rfl⟩⟩, by simp⟩
end Go.Proofs.Ytkomcebknllaiaa

/- tenonmake.plain, kind by kind. -/
namespace Go.Proofs.Ytkomcebknllaiaa
open Go.RowKit

theorem box_at1 {w : World} {o : Obj} {w1 : World} (h : Below (w.alloc o).heap.size (w.alloc o) w1) : w1.heap[w.heap.size]? = some o ∧ Below w.heap.size w w1 ∧ w.heap.size + 1 ≤ w1.heap.size := by
  refine ⟨?_, below_to ((Below.refl _ _).alloc (Nat.le_refl _) _) h, by have := h.size; simpa using this⟩
  rw [h.block w.heap.size (by simp)]; exact heap_alloc_new w o

set_option maxRecDepth 100000 in
set_option maxHeartbeats 1000000 in
theorem pl_1 (w : World) (deep : Int) (hd : deep ≤ 400) : Calls Try.prog 52 #[.nilIface, .int .i64 deep] w fun e w' => e = .returned (.agg (tcells 1 false 0 0 ByteArray.empty (.slice none 0 0) 0 (.slice none 0 0) (.slice none 0 0) ByteArray.empty 0)) ∧ Below w.heap.size w w' := by
  have hd' : decide (400 < deep) = false := by simp; omega
  go_enter Try.func52, Try.ntmps52
  go_wp2_with fail
  refine bodyPost_ret (v := .agg (tcells 1 false 0 0 ByteArray.empty (.slice none 0 0) 0 (.slice none 0 0) (.slice none 0 0) ByteArray.empty 0)) (by simp [results, Try.results52, go_sem, tcells] <;> rfl) rfl ⟨rfl, ?_⟩
  exact (Below.refl _ _).alloc (Nat.le_refl _) _
set_option maxRecDepth 100000 in
set_option maxHeartbeats 1000000 in
theorem pl_2 (b : Bool) (w : World) (deep : Int) (hd : deep ≤ 400) : Calls Try.prog 52 #[.iface 4 (.bool b), .int .i64 deep] w fun e w' => e = .returned (.agg (tcells 2 b 0 0 ByteArray.empty (.slice none 0 0) 0 (.slice none 0 0) (.slice none 0 0) ByteArray.empty 0)) ∧ Below w.heap.size w w' := by
  have hd' : decide (400 < deep) = false := by simp; omega
  go_enter Try.func52, Try.ntmps52
  go_wp2_with fail
  refine bodyPost_ret (v := .agg (tcells 2 b 0 0 ByteArray.empty (.slice none 0 0) 0 (.slice none 0 0) (.slice none 0 0) ByteArray.empty 0)) (by simp [results, Try.results52, go_sem, tcells] <;> rfl) rfl ⟨rfl, ?_⟩
  exact (Below.refl _ _).alloc (Nat.le_refl _) _
set_option maxRecDepth 100000 in
set_option maxHeartbeats 1000000 in
theorem pl_3 (i : Int) (w : World) (deep : Int) (hd : deep ≤ 400) : Calls Try.prog 52 #[.iface 2 (.int .i64 i), .int .i64 deep] w fun e w' => e = .returned (.agg (tcells 3 false i 0 ByteArray.empty (.slice none 0 0) 0 (.slice none 0 0) (.slice none 0 0) ByteArray.empty 0)) ∧ Below w.heap.size w w' := by
  have hd' : decide (400 < deep) = false := by simp; omega
  go_enter Try.func52, Try.ntmps52
  go_wp2_with fail
  refine bodyPost_ret (v := .agg (tcells 3 false i 0 ByteArray.empty (.slice none 0 0) 0 (.slice none 0 0) (.slice none 0 0) ByteArray.empty 0)) (by simp [results, Try.results52, go_sem, tcells] <;> rfl) rfl ⟨rfl, ?_⟩
  exact (Below.refl _ _).alloc (Nat.le_refl _) _
set_option maxRecDepth 100000 in
set_option maxHeartbeats 1000000 in
theorem pl_4 (f : Nat) (w : World) (deep : Int) (hd : deep ≤ 400) : Calls Try.prog 52 #[.iface 22 (.float .f64 f), .int .i64 deep] w fun e w' => e = .returned (.agg (tcells 4 false 0 f ByteArray.empty (.slice none 0 0) 0 (.slice none 0 0) (.slice none 0 0) ByteArray.empty 0)) ∧ Below w.heap.size w w' := by
  have hd' : decide (400 < deep) = false := by simp; omega
  go_enter Try.func52, Try.ntmps52
  go_wp2_with fail
  refine bodyPost_ret (v := .agg (tcells 4 false 0 f ByteArray.empty (.slice none 0 0) 0 (.slice none 0 0) (.slice none 0 0) ByteArray.empty 0)) (by simp [results, Try.results52, go_sem, tcells] <;> rfl) rfl ⟨rfl, ?_⟩
  exact (Below.refl _ _).alloc (Nat.le_refl _) _
set_option maxRecDepth 100000 in
set_option maxHeartbeats 1000000 in
theorem pl_5 (s : ByteArray) (w : World) (deep : Int) (hd : deep ≤ 400) : Calls Try.prog 52 #[.iface 9 (.string s), .int .i64 deep] w fun e w' => e = .returned (.agg (tcells 5 false 0 0 s (.slice none 0 0) 0 (.slice none 0 0) (.slice none 0 0) ByteArray.empty 0)) ∧ Below w.heap.size w w' := by
  have hd' : decide (400 < deep) = false := by simp; omega
  go_enter Try.func52, Try.ntmps52
  go_wp2_with fail
  refine bodyPost_ret (v := .agg (tcells 5 false 0 0 s (.slice none 0 0) 0 (.slice none 0 0) (.slice none 0 0) ByteArray.empty 0)) (by simp [results, Try.results52, go_sem, tcells] <;> rfl) rfl ⟨rfl, ?_⟩
  exact (Below.refl _ _).alloc (Nat.le_refl _) _
set_option maxRecDepth 100000 in
set_option maxHeartbeats 1000000 in
theorem pl_7 (rf : Int) (w : World) (deep : Int) (hd : deep ≤ 400) : Calls Try.prog 52 #[.iface 25 (.int .u64 rf), .int .i64 deep] w fun e w' => e = .returned (.agg (tcells 7 false 0 0 ByteArray.empty (.slice none 0 0) rf (.slice none 0 0) (.slice none 0 0) ByteArray.empty 0)) ∧ Below w.heap.size w w' := by
  have hd' : decide (400 < deep) = false := by simp; omega
  go_enter Try.func52, Try.ntmps52
  go_wp2_with fail
  refine bodyPost_ret (v := .agg (tcells 7 false 0 0 ByteArray.empty (.slice none 0 0) rf (.slice none 0 0) (.slice none 0 0) ByteArray.empty 0)) (by simp [results, Try.results52, go_sem, tcells] <;> rfl) rfl ⟨rfl, ?_⟩
  exact (Below.refl _ _).alloc (Nat.le_refl _) _
set_option maxRecDepth 100000 in
set_option maxHeartbeats 1000000 in
theorem pl_9 (al : Option Addr) (L L' : TmF) (cl : Nat) (w : World) (deep : Int) (hd : deep ≤ 400) (h : ∀ W, Below w.heap.size w W → Calls Try.prog 96 #[.slice al L.len cl, .int .i64 deep] W fun e w' => ∃ a cap, e = .returned (.slice a L.len cap) ∧ Below W.heap.size W w' ∧ L'.In w' (Fr W w') a 0) :
    Calls Try.prog 52 #[.iface 73 (.slice al L.len cl), .int .i64 deep] w fun e w' => ∃ a cap, e = .returned (.agg (tcells 9 false 0 0 ByteArray.empty (.slice none 0 0) 0 (.slice none 0 0) (.slice a L.len cap) ByteArray.empty 0)) ∧ Below w.heap.size w w' ∧ L'.In w' (Fr w w') a 0 := by
  have hd' : decide (400 < deep) = false := by simp; omega
  have HC : Hid _ := h
  clear h
  go_enter Try.func52, Try.ntmps52
  go_wp2_with (go_at_call 96; refine (HC.out _ ((Below.refl _ _).alloc (Nat.le_refl _) _)).mono ?_; rintro e w1 ⟨a, cap, rfl, hb1, hl1⟩; obtain ⟨hR, hbw, hsz⟩ := box_at1 hb1; obtain ⟨r0, r1, r2, r3, r4, r5, r6, r7, r8, r9, r10⟩ := tbox hR; have hf := box_writes hR; have f0 := hf 0; have f1 := hf 1; have f2 := hf 2; have f3 := hf 3; have f4 := hf 4; have f5 := hf 5; have f6 := hf 6; have f7 := hf 7; have f8 := hf 8; have f9 := hf 9; have f10 := hf 10; have HB1 : Hid (Below w.heap.size w w1) := hbw; have HL1 : Hid (L'.In w1 (fun k => w.heap.size + 1 ≤ k ∧ k < w1.heap.size) a 0) := L'.In_same (Same.refl _ _) (fun k hk => ⟨by have := hk.1; simpa using this, hk.2⟩) _ _ hl1; clear hb1 hl1 hR hf hbw)
  have HE : Hid (Below w.heap.size w (setN w1 w.heap.size 0 [.int .i64 9, .bool false, .int .i64 0, .float .f64 0, .string ByteArray.empty, .slice none 0 0, .int .u64 0, .slice none 0 0, .slice a L.len cap, .string ByteArray.empty, .int .i64 0]) ∧ L'.In (setN w1 w.heap.size 0 [.int .i64 9, .bool false, .int .i64 0, .float .f64 0, .string ByteArray.empty, .slice none 0 0, .int .u64 0, .slice none 0 0, .slice a L.len cap, .string ByteArray.empty, .int .i64 0]) (Fr w (setN w1 w.heap.size 0 [.int .i64 9, .bool false, .int .i64 0, .float .f64 0, .string ByteArray.empty, .slice none 0 0, .int .u64 0, .slice none 0 0, .slice a L.len cap, .string ByteArray.empty, .int .i64 0])) a 0) := ⟨setN_below (Nat.le_refl _) _ _ _ _ HB1.out, L'.In_same (fun k hk => setN_other (by have := hk.1; omega) _ _ _) (fun k hk => ⟨by have := hk.1; omega, by rw [setN_size]; exact hk.2⟩) _ _ HL1.out⟩
  refine bodyPost_ret (v := .agg (tcells 9 false 0 0 ByteArray.empty (.slice none 0 0) 0 (.slice none 0 0) (.slice a L.len cap) ByteArray.empty 0)) (by simp [results, Try.results52, go_sem, tcells, r0, r1, r2, r3, r4, r5, r6, r7, r8, r9, r10] <;> rfl) rfl ⟨a, cap, rfl, HE.out.1, HE.out.2⟩
set_option maxRecDepth 100000 in
set_option maxHeartbeats 2000000 in
theorem pl_10 (g : Nat) (s : ByteArray) (vr : Int) (al : Option Addr) (L L' : TmF) (cl : Nat) (w : World) (deep : Int) (hd : deep ≤ 400) (hg : g < w.heap.size) (c0 : w.cell? ⟨g, 0, none⟩ = some (.string s)) (c1 : w.cell? ⟨g, 1, none⟩ = some (.int .i64 vr)) (c2 : w.cell? ⟨g, 2, none⟩ = some (.slice al L.len cl))
    (h : ∀ W, Below w.heap.size w W → Calls Try.prog 96 #[.slice al L.len cl, .int .i64 deep] W fun e w' => ∃ a cap, e = .returned (.slice a L.len cap) ∧ Below W.heap.size W w' ∧ L'.In w' (Fr W w') a 0) :
    Calls Try.prog 52 #[.iface 75 (.pointer (some ⟨g, 0, none⟩)), .int .i64 deep] w fun e w' => ∃ a cap, e = .returned (.agg (tcells 10 false 0 0 ByteArray.empty (.slice none 0 0) 0 (.slice none 0 0) (.slice a L.len cap) s vr)) ∧ Below w.heap.size w w' ∧ L'.In w' (Fr w w') a 0 := by
  have hd' : decide (400 < deep) = false := by simp; omega
  have HC : Hid _ := h
  have HX : Hid (∀ W, Below w.heap.size w W → W.cell? ⟨g, 0, none⟩ = some (.string s) ∧ W.cell? ⟨g, 1, none⟩ = some (.int .i64 vr) ∧ W.cell? ⟨g, 2, none⟩ = some (.slice al L.len cl)) := fun W hW => ⟨by rw [hW.cell (p := ⟨g, 0, none⟩) hg]; exact c0, by rw [hW.cell (p := ⟨g, 1, none⟩) hg]; exact c1, by rw [hW.cell (p := ⟨g, 2, none⟩) hg]; exact c2⟩
  have HB0 : Hid (Below w.heap.size w (w.alloc (.cells #[.int .i64 0, .bool false, .int .i64 0, .float .f64 0, .string ByteArray.empty, .slice none 0 0, .int .u64 0, .slice none 0 0, .slice none 0 0, .string ByteArray.empty, .int .i64 0] 29))) := (Below.refl _ _).alloc (Nat.le_refl _) _
  have hfar : g ≠ w.heap.size := by omega
  clear c0 c1 c2 h
  go_enter Try.func52, Try.ntmps52
  go_wp2_with fail
  go_region_held3 (fun W => W.cell? ⟨g, 0, none⟩ = some (.string s) ∧ W.cell? ⟨g, 1, none⟩ = some (.int .i64 vr) ∧ W.cell? ⟨g, 2, none⟩ = some (.slice al L.len cl))
    (first | (refine ⟨?_, ?_, ?_⟩ <;> ((repeat rw [cell_far hfar]); first | with_reducible exact (HX.out w2 HBw2.out).1 | with_reducible exact (HX.out w2 HBw2.out).2.1 | with_reducible exact (HX.out w2 HBw2.out).2.2)) | exact HX.out _ HB0.out | exact HX.out _ HB0.out.drew)
    ((first
      | (go_at_call 96; refine (HC.out _ ?_).mono ?_; exact HB0.out.drew; rintro e w2 ⟨a, cap, rfl, hb2, hl2⟩; have hb2' : Below (w.alloc (.cells #[.int .i64 0, .bool false, .int .i64 0, .float .f64 0, .string ByteArray.empty, .slice none 0 0, .int .u64 0, .slice none 0 0, .slice none 0 0, .string ByteArray.empty, .int .i64 0] 29)).heap.size (w.alloc (.cells #[.int .i64 0, .bool false, .int .i64 0, .float .f64 0, .string ByteArray.empty, .slice none 0 0, .int .u64 0, .slice none 0 0, .slice none 0 0, .string ByteArray.empty, .int .i64 0] 29)) w2 := below_to (Below.refl _ _).drew hb2; obtain ⟨hR, hbw, hsz⟩ := box_at1 hb2'; obtain ⟨r0, r1, r2, r3, r4, r5, r6, r7, r8, r9, r10⟩ := tbox hR; have hf := box_writes hR; have f0 := hf 0; have f1 := hf 1; have f2 := hf 2; have f3 := hf 3; have f4 := hf 4; have f5 := hf 5; have f6 := hf 6; have f7 := hf 7; have f8 := hf 8; have f9 := hf 9; have f10 := hf 10; have HBw2 : Hid (Below w.heap.size w w2) := hbw; have HL2 : Hid (L'.In w2 (fun k => w.heap.size + 1 ≤ k ∧ k < w2.heap.size) a 0) := L'.In_same (Same.refl _ _) (fun k hk => ⟨by have h2 := hk.1; simpa using h2, hk.2⟩) _ _ hl2; clear hb2 hb2' hl2 hR hf hbw)))
  have HE : Hid (Below w.heap.size w (setN w2 w.heap.size 0 [.int .i64 10, .bool false, .int .i64 0, .float .f64 0, .string ByteArray.empty, .slice none 0 0, .int .u64 0, .slice none 0 0, .slice a L.len cap, .string s, .int .i64 vr]) ∧ L'.In (setN w2 w.heap.size 0 [.int .i64 10, .bool false, .int .i64 0, .float .f64 0, .string ByteArray.empty, .slice none 0 0, .int .u64 0, .slice none 0 0, .slice a L.len cap, .string s, .int .i64 vr]) (Fr w (setN w2 w.heap.size 0 [.int .i64 10, .bool false, .int .i64 0, .float .f64 0, .string ByteArray.empty, .slice none 0 0, .int .u64 0, .slice none 0 0, .slice a L.len cap, .string s, .int .i64 vr])) a 0) := ⟨setN_below (Nat.le_refl _) _ _ _ _ HBw2.out, L'.In_same (fun k hk => setN_other (by have := hk.1; omega) _ _ _) (fun k hk => ⟨by have := hk.1; omega, by rw [setN_size]; exact hk.2⟩) _ _ HL2.out⟩
  go_wp2_with fail
  refine bodyPost_ret (v := .agg (tcells 10 false 0 0 ByteArray.empty (.slice none 0 0) 0 (.slice none 0 0) (.slice a L.len cap) s vr)) (by simp [results, Try.results52, go_sem, tcells, r0, r1, r2, r3, r4, r5, r6, r7, r8, r9, r10] <;> rfl) rfl ⟨a, cap, rfl, HE.out.1, HE.out.2⟩
end Go.Proofs.Ytkomcebknllaiaa

/- tenonref01.Check at a term: what the plain walk through it says. -/
namespace Go.Proofs.Ytkomcebknllaiaa
open Go.RowKit

theorem part_all (N : Nat) : PartC N := by
  induction N with
  | zero => intro t ht; cases t; simp [Tm.sz] at ht
  | succ N ih => intro t hN cs B p d a n w h hB h1 h2 h3 h4; exact part_any N ih t hN cs B p d a n w h hB h1 h2 h3 h4

theorem part_top (t : Tm) (cs : Array Value) (B : Nat → Prop) (w : World) (h : t.In w B cs) (hB : Sub B w) : ∀ W, Below w.heap.size w W →
    Calls Try.prog 42 #[.agg #[.int .i64 0, .int .i64 0, .int .i64 0, .int .i64 0], .agg cs, .int .i64 1] W fun e w' => ∃ n d a, e = .returned (.agg #[.int .i64 n, .int .i64 d, .int .i64 a, .int .i64 t.all.e]) ∧ Below W.heap.size W w' ∧ Seen 0 t.all n d a :=
  fun W hW => part_all t.sz t (Nat.le_refl _) cs B 0 0 0 1 W (t.In_same (hB.same hW) (fun _ h => h) cs h) (hB.later hW) (by decide) (by decide) (by decide) (by decide)

set_option maxRecDepth 100000 in
set_option maxHeartbeats 400000 in
theorem refCheck_any (t : Tm) (cs : Array Value) (B : Nat → Prop) (w : World) (h : t.In w B cs) (hB : Sub B w) :
    Calls Try.prog 12 #[.agg cs] w fun e w' => e = .returned (.tuple #[.int .i64 t.cAt, .int .i64 t.all.e]) ∧ Below w.heap.size w w' := by
  have HP := part_top t cs B w h hB
  obtain ⟨k, b, i, f, tx, vb, rf, vl, vf, c, vr, rfl⟩ : ∃ k b i f tx vb rf vl vf c vr, cs = tcells k b i f tx vb rf vl vf c vr := by
    cases t; simp only [Tm.In] at h; obtain ⟨_, _, _, _, _, _, rfl, _⟩ := h; exact ⟨_, _, _, _, _, _, _, _, _, _, _, rfl⟩
  clear h
  unfold tcells at HP ⊢
  have HP : Hid _ := HP
  have HS : Hid (∀ n d a, Seen 0 t.all n d a → a = t.cAt) := fun n d a hs => by
    unfold Tm.cAt
    by_cases he : t.all.e ≠ 0
    · rw [if_pos he]; exact hs.2 he
    · rw [if_neg he]; exact (hs.1 (Decidable.not_not.1 he)).2.2
  go_enter Try.func12, Try.ntmps12
  go_wp2_with (go_at_call 42; refine (HP.out _ ?_).mono ?_; exact (Below.refl _ _).alloc (Nat.le_refl _) _; rintro e w1 ⟨n, d, a, rfl, hb1, hs⟩; obtain rfl := HS.out n d a hs)
  go_quiet (fail)
  go_wp2_with fail
  go_ret2
  have hz : w.heap.size ≤ w1.heap.size := by have := hb1.size; simp at this; omega
  exact ⟨rfl, ((((Below.refl _ _).alloc (Nat.le_refl _) _).trans (hb1.mono (by simp))).alloc hz _).trans (below_drewN' _ _ _)⟩
end Go.Proofs.Ytkomcebknllaiaa

/- value.Order and value.Same at two terms' values. -/
namespace Go.Proofs.Ytkomcebknllaiaa
open Go.RowKit

/-- what Order answers: a number and an error -/
def Tm.ordN (s t : Tm) : Int := if s.all.e ≠ 0 ∨ t.all.e ≠ 0 then 0 else s.cmp t
def Tm.ordE (s t : Tm) : Int := if s.all.e ≠ 0 then s.all.e else t.all.e
/-- whether two values can be and are the same -/
def Tm.sameB (s t : Tm) : Bool := decide (s.all.e = 0 ∧ t.all.e = 0 ∧ s.cmp t = 0)

theorem Tm.ok_all {t : Tm} (h : t.all.e = 0) : t.Ok := ⟨1, 0, 0, h⟩

set_option maxRecDepth 100000 in
set_option maxHeartbeats 1000000 in
theorem Order_any (s t : Tm) (va vb : Value) (B : Nat) (w : World) (hB : B ≤ w.heap.size) (hs : s.V w (Lo B) va) (ht : t.V w (Lo B) vb) :
    Calls Try.prog 18 #[va, vb] w fun e w' => e = .returned (.tuple #[.int .i64 (s.ordN t), .int .i64 (s.ordE t)]) ∧ Below w.heap.size w w' := by
  have HS : Hid (∀ W, Below w.heap.size w W → s.V W (Lo B) va ∧ t.V W (Lo B) vb ∧ B ≤ W.heap.size) := fun W hW =>
    ⟨s.V_same (Same.of_below hW hB) (fun _ h => h) va hs, t.V_same (Same.of_below hW hB) (fun _ h => h) vb ht, by have := hW.size; omega⟩
  clear hs ht
  by_cases h1 : s.all.e ≠ 0
  · have h1' := ne_bool h1
    have H : Hid (s.ordN t = 0 ∧ s.ordE t = s.all.e) := by show _ ∧ _; unfold Tm.ordN Tm.ordE; rw [if_pos (.inl h1), if_pos h1]; exact ⟨rfl, rfl⟩
    clear h1
    go_enter Try.func18, Try.ntmps18
    go_wp2_with fail
    refine (Check_any s va B _ hB (HS.out _ (Below.refl _ _)).1).mono ?_
    rintro e w1 ⟨rfl, hb1⟩
    go_wp2_with fail
    go_ret2
    rw [H.out.1, H.out.2]
    exact ⟨rfl, hb1⟩
  · have h10 : s.all.e = 0 := Decidable.not_not.1 h1
    by_cases h2 : t.all.e ≠ 0
    · have h2' := ne_bool h2
      have H : Hid (s.ordN t = 0 ∧ s.ordE t = t.all.e) := by show _ ∧ _; unfold Tm.ordN Tm.ordE; rw [if_pos (.inr h2), if_neg h1]; exact ⟨rfl, rfl⟩
      clear h1 h2
      go_enter Try.func18, Try.ntmps18
      go_wp2_with fail
      refine (Check_any s va B _ hB (HS.out _ (Below.refl _ _)).1).mono ?_
      rintro e w1 ⟨rfl, hb1⟩
      have HB1 : Hid (Below w.heap.size w w1) := hb1
      clear hb1
      go_wp2_with fail
      refine (Check_any t vb B _ (HS.out _ HB1.out).2.2 (HS.out _ HB1.out).2.1).mono ?_
      rintro e w2 ⟨rfl, hb2⟩
      have HB2 : Hid (Below w1.heap.size w1 w2) := hb2
      clear hb2
      go_wp2_with fail
      go_ret2
      rw [H.out.1, H.out.2]
      exact ⟨rfl, below_to HB1.out HB2.out⟩
    · have h20 : t.all.e = 0 := Decidable.not_not.1 h2
      have H : Hid (s.ordN t = s.cmp t ∧ s.ordE t = 0) := by show _ ∧ _; unfold Tm.ordN Tm.ordE; rw [if_neg (by omega), if_neg h1]; exact ⟨rfl, h20⟩
      clear h1 h2
      go_enter Try.func18, Try.ntmps18
      go_wp2_with fail
      refine (Check_any s va B _ hB (HS.out _ (Below.refl _ _)).1).mono ?_
      rintro e w1 ⟨rfl, hb1⟩
      have HB1 : Hid (Below w.heap.size w w1) := hb1
      clear hb1
      go_wp2_with fail
      refine (Check_any t vb B _ (HS.out _ HB1.out).2.2 (HS.out _ HB1.out).2.1).mono ?_
      rintro e w2 ⟨rfl, hb2⟩
      have HB2 : Hid (Below w.heap.size w w2) := below_to HB1.out hb2
      clear hb2
      go_wp2_with fail
      refine (order_any s.sz s t (Nat.le_refl _) va vb (Lo B) _ (HS.out _ HB2.out).1 (HS.out _ HB2.out).2.1 (Tm.ok_all h10) (Tm.ok_all h20)).mono ?_
      rintro e w3 ⟨rfl, m, rfl⟩
      go_wp2_with fail
      go_ret2
      rw [H.out.1, H.out.2]
      exact ⟨rfl, HB2.out.trans (below_drewN' _ _ _)⟩
end Go.Proofs.Ytkomcebknllaiaa

/- value.Same at two terms' values; two terms in boxes. -/
namespace Go.Proofs.Ytkomcebknllaiaa
open Go.RowKit

theorem same_ok {s t : Tm} (h : s.all.e = 0 ∧ t.all.e = 0) : s.ordE t = 0 ∧ s.ordN t = s.cmp t := by
  unfold Tm.ordE Tm.ordN; rw [if_neg (by omega), if_neg (by omega)]; exact ⟨h.2, rfl⟩
theorem same_err {s t : Tm} (h : s.ordE t ≠ 0) : ¬ (s.all.e = 0 ∧ t.all.e = 0) := fun g => h (same_ok g).1
theorem ok_both {s t : Tm} (h : s.ordE t = 0) : s.all.e = 0 ∧ t.all.e = 0 := by
  unfold Tm.ordE at h; split at h
  · exact absurd h (by assumption)
  · exact ⟨Decidable.not_not.1 (by assumption), h⟩

set_option maxRecDepth 100000 in
set_option maxHeartbeats 1000000 in
theorem Same_any (s t : Tm) (va vb : Value) (B : Nat) (w : World) (hB : B ≤ w.heap.size) (hs : s.V w (Lo B) va) (ht : t.V w (Lo B) vb) :
    Calls Try.prog 20 #[va, vb] w fun e w' => e = .returned (.bool (s.sameB t)) ∧ Below w.heap.size w w' := by
  have HO : Hid (∀ w0, w0 = w → Calls Try.prog 18 #[va, vb] w0 fun e w' => e = .returned (.tuple #[.int .i64 (s.ordN t), .int .i64 (s.ordE t)]) ∧ Below w0.heap.size w0 w') := by
    rintro w0 rfl; exact Order_any s t va vb B w0 hB hs ht
  clear hs ht hB
  have H : Hid ((s.ordE t ≠ 0 → s.sameB t = false) ∧ (s.ordE t = 0 → s.sameB t = decide (s.ordN t = 0))) := by
    refine ⟨fun h => ?_, fun h => ?_⟩
    · unfold Tm.sameB; exact decide_eq_false fun g => same_err h ⟨g.1, g.2.1⟩
    · have g := ok_both h
      unfold Tm.sameB; rw [(same_ok g).2]; simp [g.1, g.2]
  by_cases h1 : s.ordE t = 0
  · have G : Hid (s.sameB t = decide (s.ordN t = 0)) := H.out.2 h1
    go_enter Try.func20, Try.ntmps20
    go_wp2_with fail
    refine (HO.out _ rfl).mono ?_
    rintro e w1 ⟨rfl, hb1⟩
    have HB1 : Hid (Below w.heap.size w w1) := hb1
    clear hb1
    go_wp2_with fail
    go_ret
    exact ⟨by simp [G.out]; try rfl, HB1.out⟩
  · have h1' := ne_bool h1
    have G : Hid (s.sameB t = false) := H.out.1 h1
    go_enter Try.func20, Try.ntmps20
    go_wp2_with fail
    refine (HO.out _ rfl).mono ?_
    rintro e w1 ⟨rfl, hb1⟩
    have HB1 : Hid (Below w.heap.size w w1) := hb1
    clear hb1
    go_wp2_with fail
    go_ret
    exact ⟨by simp [G.out], HB1.out⟩

/-- the eleven cells of a term in box g -/
def Tbx (W : World) (g : Nat) (k : Int) (b : Bool) (i : Int) (f : Nat) (tx : ByteArray) (vb : Value) (rf : Int) (vl vf : Value) (c : ByteArray) (vr : Int) : Prop :=
  W.cell? ⟨g, 0, none⟩ = some (.int .i64 k) ∧ W.cell? ⟨g, 1, none⟩ = some (.bool b) ∧ W.cell? ⟨g, 2, none⟩ = some (.int .i64 i) ∧ W.cell? ⟨g, 3, none⟩ = some (.float .f64 f) ∧ W.cell? ⟨g, 4, none⟩ = some (.string tx) ∧ W.cell? ⟨g, 5, none⟩ = some vb ∧ W.cell? ⟨g, 6, none⟩ = some (.int .u64 rf) ∧ W.cell? ⟨g, 7, none⟩ = some vl ∧ W.cell? ⟨g, 8, none⟩ = some vf ∧ W.cell? ⟨g, 9, none⟩ = some (.string c) ∧ W.cell? ⟨g, 10, none⟩ = some (.int .i64 vr)
theorem bx_of {w : World} {g : Nat} {k : Int} {b : Bool} {i : Int} {f : Nat} {tx : ByteArray} {vb : Value} {rf : Int} {vl vf : Value} {c : ByteArray} {vr : Int}
    (h : w.heap[g]? = some (.cells (tcells k b i f tx vb rf vl vf c vr) 29 (0, 0))) : Tbx w g k b i f tx vb rf vl vf c vr := by
  have hh := fun j => cell_of_row w g j _ _ _ h
  exact ⟨hh 0, hh 1, hh 2, hh 3, hh 4, hh 5, hh 6, hh 7, hh 8, hh 9, hh 10⟩
theorem Tm.In_box {w : World} {B : Nat → Prop} {t : Tm} {cs : Array Value} (h : t.In w B cs) : ∃ b i f tx vb rf vl vf c vr, cs = tcells t.kind b i f tx vb rf vl vf c vr := by
  cases t; simp only [Tm.In] at h; obtain ⟨_, _, _, _, _, _, rfl, _⟩ := h; exact ⟨_, _, _, _, _, _, _, _, _, _, rfl⟩
end Go.Proofs.Ytkomcebknllaiaa

/- The leaves of the document's own order: tenonref01's numbers, texts, flag, place. -/
namespace Go.Proofs.Ytkomcebknllaiaa
open Go.RowKit

set_option maxRecDepth 100000 in
set_option maxHeartbeats 400000 in
theorem numbers_any (a b : Int) (w : World) :
    Calls Try.prog 81 #[.int .u64 a, .int .u64 b] w fun e w' => e = .returned (.int .i64 (Sp.cmpI a b)) ∧ w = w' := by
  by_cases h1 : a < b
  · have H : Hid (Sp.cmpI a b = -1) := by show _ = _; simp [Sp.cmpI, h1]
    go_enter Try.func81, Try.ntmps81
    go_wp2
    go_ret
    exact ⟨ret_int H.out.symm, rfl⟩
  · by_cases h2 : b < a
    · have H : Hid (Sp.cmpI a b = 1) := by show _ = _; simp [Sp.cmpI, h1, h2]
      go_enter Try.func81, Try.ntmps81
      go_wp2
      go_ret
      exact ⟨ret_int H.out.symm, rfl⟩
    · have H : Hid (Sp.cmpI a b = 0) := by show _ = _; simp [Sp.cmpI, h1, h2]
      go_enter Try.func81, Try.ntmps81
      go_wp2
      go_ret
      exact ⟨ret_int H.out.symm, rfl⟩

set_option maxRecDepth 100000 in
set_option maxHeartbeats 400000 in
theorem texts_any (a b : ByteArray) (w : World) :
    Calls Try.prog 84 #[.string a, .string b] w fun e w' => e = .returned (.int .i64 (Sp.cmpS a b)) ∧ w = w' := by
  have hl := less_of a b
  have he := same_of a b
  rcases cmp_vals a.data.toList b.data.toList with h | h | h
  · have H : Hid (Sp.cmpS a b = -1) := h
    rw [H.out] at hl he; simp at hl he
    go_enter Try.func84, Try.ntmps84
    go_wp2
    go_ret
    exact ⟨ret_int H.out.symm, rfl⟩
  · have H : Hid (Sp.cmpS a b = 0) := h
    rw [H.out] at hl he; simp at hl he
    have he' : (a.toList == b.toList) = true := by simp [he]
    clear he
    go_enter Try.func84, Try.ntmps84
    go_wp2
    go_ret
    exact ⟨ret_int H.out.symm, rfl⟩
  · have H : Hid (Sp.cmpS a b = 1) := h
    rw [H.out] at hl he; simp at hl he
    have he' : (a.toList == b.toList) = false := by simp [he]
    clear he
    go_enter Try.func84, Try.ntmps84
    go_wp2
    go_ret
    exact ⟨ret_int H.out.symm, rfl⟩

set_option maxRecDepth 100000 in
set_option maxHeartbeats 400000 in
theorem flag_any (b : Bool) (w : World) :
    Calls Try.prog 82 #[.bool b] w fun e w' => e = .returned (.int .u64 (Sp.rank b)) ∧ w = w' := by
  cases b
  · go_enter Try.func82, Try.ntmps82
    go_wp2
    go_ret
    exact ⟨rfl, rfl⟩
  · go_enter Try.func82, Try.ntmps82
    go_wp2
    go_ret
    exact ⟨rfl, rfl⟩

theorem wrapU {n : Int} (h0 : 0 ≤ n) (h1 : n ≤ 18446744073709551615) : IntKind.u64.wrap n = n := by
  rw [IntKind.wrap_u64]; omega

set_option maxRecDepth 100000 in
set_option maxHeartbeats 400000 in
theorem place_any (f : Nat) (w : World) (hf : f < 18446744073709551616) :
    Calls Try.prog 83 #[.float .f64 f] w fun e w' => e = .returned (.int .u64 (Sp.frank f)) ∧ w = w' := by
  have hb := bits_run f
  by_cases h : 9223372036854775808 ≤ f
  · have ha : (9223372036854775808 : Int) ≤ (f : Int) := by omega
    have H : Hid (Sp.frank f = bits BinOp.xor IntKind.u64 IntKind.u64.max (f : Int)) := by show _ = _; rw [fr_xor f hf]; unfold Sp.frank; rw [if_pos h]
    clear h
    go_enter Try.func83, Try.ntmps83
    go_wp2
    go_ret
    exact ⟨ret_int H.out.symm, rfl⟩
  · have ha : ¬ (9223372036854775808 : Int) ≤ (f : Int) := by omega
    have hw : IntKind.u64.wrap ((f : Int) + 9223372036854775808) = (f : Int) + 9223372036854775808 := wrapU (by omega) (by omega)
    have H : Hid (Sp.frank f = (f : Int) + 9223372036854775808) := by show _ = _; unfold Sp.frank; rw [if_neg h]
    clear h
    go_enter Try.func83, Try.ntmps83
    go_wp2
    go_ret
    exact ⟨ret_int H.out.symm, rfl⟩
end Go.Proofs.Ytkomcebknllaiaa

/- The document's own order of terms (tenonref01.fields, tenonref01.Compare) is the plain order. -/
namespace Go.Proofs.Ytkomcebknllaiaa
open Go.RowKit

def CmpC (N : Nat) : Prop := ∀ (s t : Tm), s.sz ≤ N → ∀ (cs ct : Array Value) (S : Nat → Prop) (w : World), s.In w S cs → t.In w S ct → Sub S w → s.Ok → t.Ok →
  Calls Try.prog 46 #[.agg cs, .agg ct] w fun e w' => e = .returned (.int .i64 (s.cmp t)) ∧ Below w.heap.size w w'

theorem CmpC.at {N : Nat} (HC : CmpC N) {s t : Tm} (hN : s.sz ≤ N) {cs ct : Array Value} {S : Nat → Prop} {w : World} (hs : s.In w S cs) (ht : t.In w S ct) (hS : Sub S w) (os : s.Ok) (ot : t.Ok) :
    ∀ W, Below w.heap.size w W → Calls Try.prog 46 #[.agg cs, .agg ct] W fun e w' => e = .returned (.int .i64 (s.cmp t)) ∧ Below W.heap.size W w' :=
  fun W hW => HC s t hN cs ct S W (s.In_same (hS.same hW) (fun _ h => h) cs hs) (t.In_same (hS.same hW) (fun _ h => h) ct ht) (hS.later hW) os ot

theorem Tm.In_tc {w : World} {B : Nat → Prop} {t : Tm} {cs : Array Value} (h : t.In w B cs) : ∃ k b i f tx vb rf vl vf c vr, cs = tcells k b i f tx vb rf vl vf c vr := by
  cases t; simp only [Tm.In] at h; obtain ⟨_, _, _, _, _, _, rfl, _⟩ := h; exact ⟨_, _, _, _, _, _, _, _, _, _, _, rfl⟩

set_option maxRecDepth 100000 in
set_option maxHeartbeats 2000000 in
theorem fields_any (N : Nat) (HC : CmpC N) (A B : TmF) (hN : A.sz ≤ N) (a b : Option Addr) (ca cb : Nat) (S : Nat → Prop) (w : World) (ha : A.In w S a 0) (hb : B.In w S b 0) (hS : Sub S w) (oa : A.Ok) (ob : B.Ok) (la : A.len * 168 ≤ 140737488355328) (lb : B.len * 168 ≤ 140737488355328) :
    Calls Try.prog 85 #[.slice a A.len ca, .slice b B.len cb] w fun e w' => e = .returned (.int .i64 (A.cmp B)) ∧ Below w.heap.size w w' := by
  have HCH : Hid (CmpC N) := HC
  have H0 : Hid (A.In w S a 0 ∧ B.In w S b 0 ∧ A.Ok ∧ B.Ok) := ⟨ha, hb, oa, ob⟩
  clear HC ha hb oa ob
  go_enter Try.func85, Try.ntmps85
  go_wp2_with fail
  go_loopw [5] (fun x wr => ∃ (k : Nat) (l r : TmF), x = .int .i64 k ∧ l.len + k = A.len ∧ r.len + k = B.len ∧ l.sz ≤ N ∧ Hid (l.In w S a k ∧ r.In w S b k ∧ l.Ok ∧ r.Ok ∧ A.cmp B = l.cmp r) ∧ Hid (Below w.heap.size w wr)) (fun x _ => A.len - (intOf x).toNat)
  case atStart => exact ⟨0, A, B, rfl, rfl, rfl, hN, ⟨H0.out.1, H0.out.2.1, H0.out.2.2.1, H0.out.2.2.2, rfl⟩, Below.refl _ _⟩
  case round =>
    obtain ⟨k, l, r, rfl, hl, hr, hlN, HI, HW⟩ := hrel
    have HK : Hid (IntKind.u64.wrap (A.len : Int) = A.len ∧ IntKind.u64.wrap (B.len : Int) = B.len) := ⟨wrapU (by omega) (by omega), wrapU (by omega) (by omega)⟩
    cases l with
    | nil =>
      have h1 : A.len ≤ k := by simp [TmF.len] at hl; omega
      have H : Hid (A.cmp B = Sp.cmpI A.len B.len) := by
        show _ = _
        rw [HI.out.2.2.2.2]
        cases r with
        | nil => simp only [TmF.len] at hl hr; simp only [TmF.cmp]; unfold Sp.cmpI; rw [if_neg (by omega), if_neg (by omega)]
        | cons n2 u r => simp only [TmF.len] at hl hr; simp only [TmF.cmp]; unfold Sp.cmpI; rw [if_pos (by omega)]
      have hw1 := HK.out.1
      have hw2 := HK.out.2
      clear hl hr
      go_wp2_with (go_at_call 81; refine (numbers_any _ _ _).mono ?_; rintro e w' ⟨rfl, rfl⟩)
      go_ret
      exact ⟨ret_int H.out.symm, HW.out⟩
    | cons n1 t l =>
      cases r with
      | nil =>
        have h1 : B.len ≤ k := by simp [TmF.len] at hr; omega
        have H : Hid (A.cmp B = Sp.cmpI A.len B.len) := by
          show _ = _
          rw [HI.out.2.2.2.2]
          simp only [TmF.len] at hl hr; simp only [TmF.cmp]; unfold Sp.cmpI; rw [if_neg (by omega), if_pos (by omega)]
        have h3 : k < A.len := by simp only [TmF.len] at hl hr; omega
        have hw1 := HK.out.1
        have hw2 := HK.out.2
        clear hl hr
        go_wp2_with (go_at_call 81; refine (numbers_any _ _ _).mono ?_; rintro e w' ⟨rfl, rfl⟩)
        go_ret
        exact ⟨ret_int H.out.symm, HW.out⟩
      | cons n2 u r =>
        obtain ⟨hv1, hv2, ho1, ho2, hc⟩ := HI.out
        simp only [TmF.In] at hv1 hv2
        obtain ⟨g1, o1, cs1, rfl, hg1, a1, _, c1, ht, hl'⟩ := hv1
        obtain ⟨g2, o2, cs2, rfl, hg2, a2, _, c2, hu, hr'⟩ := hv2
        have hk1 : k < A.len := by simp only [TmF.len] at hl; omega
        have hk2 : k < B.len := by simp only [TmF.len] at hr; omega
        have hi0 : (0 : Int) ≤ (k : Int) := Int.natCast_nonneg _
        have hi1 : (k : Int) < (A.len : Int) := by omega
        have hi2 : (k : Int) < (B.len : Int) := by omega
        have HL : Hid (l.len + (k + 1) = A.len ∧ r.len + (k + 1) = B.len) := by show _ ∧ _; simp only [TmF.len] at hl hr; omega
        have htN : t.sz ≤ N ∧ l.sz ≤ N := by simp [TmF.sz] at hlN; omega
        have hs : Same S w wr := hS.same HW.out
        have HO : Hid (∀ W, Below wr.heap.size wr W → Calls Try.prog 46 #[.agg cs1, .agg cs2] W fun e w' => e = .returned (.int .i64 (t.cmp u)) ∧ Below W.heap.size W w') :=
          HCH.out.at htN.1 (t.In_same hs (fun _ h => h) cs1 ht) (u.In_same hs (fun _ h => h) cs2 hu) (hS.later HW.out) ho1.head.1 ho2.head.1
        obtain ⟨k1, b1, i1, f1, tx1, vb1, rf1, vl1, vf1, cl1, vr1, rfl⟩ := Tm.In_tc ht
        obtain ⟨k2, b2, i2, f2, tx2, vb2, rf2, vl2, vf2, cl2, vr2, rfl⟩ := Tm.In_tc hu
        obtain ⟨e0, e1, e2, e3, e4, e5, e6, e7, e8, e9, e10⟩ := eleven (w := wr) (g := g1) (o := o1 + k * 12 + 1) (fun x hx => by rw [hs.cell (p := ⟨g1, o1 + k * 12 + 1 + x, none⟩) hg1]; exact c1 x hx)
        obtain ⟨d0, d1, d2, d3, d4, d5, d6, d7, d8, d9, d10⟩ := eleven (w := wr) (g := g2) (o := o2 + k * 12 + 1) (fun x hx => by rw [hs.cell (p := ⟨g2, o2 + k * 12 + 1 + x, none⟩) hg2]; exact c2 x hx)
        have a1 : wr.cell? ⟨g1, o1 + k * 12, none⟩ = some (.string n1) := by rw [hs.cell (p := ⟨g1, o1 + k * 12, none⟩) hg1]; exact a1
        have a2 : wr.cell? ⟨g2, o2 + k * 12, none⟩ = some (.string n2) := by rw [hs.cell (p := ⟨g2, o2 + k * 12, none⟩) hg2]; exact a2
        have HN : Hid (l.In w S (some ⟨g1, o1, none⟩) (k + 1) ∧ r.In w S (some ⟨g2, o2, none⟩) (k + 1) ∧ l.Ok ∧ r.Ok) := ⟨hl', hr', ho1.head.2, ho2.head.2⟩
        have HCC : Hid (A.cmp B = if Sp.cmpS n1 n2 ≠ 0 then Sp.cmpS n1 n2 else if t.cmp u ≠ 0 then t.cmp u else l.cmp r) := by show _ = _; rw [hc, TmF.cmp]
        unfold tcells at HO
        clear hl hr hlN HI hl' hr' ho1 ho2 hc ht hu H0 hs c1 c2 HK
        by_cases hn : Sp.cmpS n1 n2 ≠ 0
        · have hn' := ne_bool hn
          have H : Hid (A.cmp B = Sp.cmpS n1 n2) := by show _ = _; rw [HCC.out, if_pos hn]
          clear hn
          go_wp2_with fail
          go_quiet ((go_at_call 84; exact Calls.quiet_of_same ((texts_any _ _ _).mono (fun e w' h => ⟨h.1, h.2.symm⟩))))
          go_wp2_with fail
          go_ret
          exact ⟨ret_int H.out.symm, HW.out.trans (below_drewN' _ _ _)⟩
        · have hn0 : Sp.cmpS n1 n2 = 0 := Decidable.not_not.1 hn
          have HC2 : Hid (A.cmp B = if t.cmp u ≠ 0 then t.cmp u else l.cmp r) := by show _ = _; rw [HCC.out, if_neg hn]
          clear hn
          go_wp2_with fail
          go_quiet ((go_at_call 84; exact Calls.quiet_of_same ((texts_any _ _ _).mono (fun e w' h => ⟨h.1, h.2.symm⟩))))
          have HW' : Hid (Below w.heap.size w (wr.drewN nq)) := HW.out.trans (below_drewN' _ _ _)
          have HO' : Hid (∀ W, Below (wr.drewN nq).heap.size (wr.drewN nq) W → Calls Try.prog 46 #[.agg #[.int .i64 k1, .bool b1, .int .i64 i1, .float .f64 f1, .string tx1, vb1, .int .u64 rf1, vl1, vf1, .string cl1, .int .i64 vr1], .agg #[.int .i64 k2, .bool b2, .int .i64 i2, .float .f64 f2, .string tx2, vb2, .int .u64 rf2, vl2, vf2, .string cl2, .int .i64 vr2]] W fun e w' => e = .returned (.int .i64 (t.cmp u)) ∧ Below W.heap.size W w') := fun W hW =>
            HO.out W ((below_drewN' _ _ _).trans hW)
          have E : Hid ((wr.drewN nq).cell? = wr.cell?) := rfl
          rw [← E.out] at e0 e1 e2 e3 e4 e5 e6 e7 e8 e9 e10 d0 d1 d2 d3 d4 d5 d6 d7 d8 d9 d10
          clear a1 a2 HW HO E
          generalize wr.drewN nq = wq at *
          go_wp2_with fail
          go_region_with ((go_at_call 46; refine (HO'.out _ ?_).mono ?_; exact (Below.refl _ _).drew; rintro e w4 ⟨rfl, hb4⟩; have HB4 : Hid (Below w.heap.size w w4) := HW'.out.trans (((Below.refl _ _).drew.trans hb4).mono HW'.out.size); clear hb4))
          all_goals
            by_cases he : t.cmp u ≠ 0
            · have he' := ne_bool he
              have H : Hid (A.cmp B = t.cmp u) := by show _ = _; rw [HC2.out, if_pos he]
              clear he
              go_wp2_with fail
              go_ret
              exact ⟨ret_int H.out.symm, HB4.out⟩
            · have he0 : t.cmp u = 0 := Decidable.not_not.1 he
              have H : Hid (A.cmp B = l.cmp r) := by show _ = _; rw [HC2.out, if_neg he]
              clear he
              go_wp2_with fail
              go_roundw
              case rel => exact ⟨k + 1, l, r, by go_num, HL.out.1, HL.out.2, htN.2, ⟨HN.out.1, HN.out.2.1, HN.out.2.2.1, HN.out.2.2.2, H.out⟩, HB4.out⟩
              case measure => simp [intOf]; omega
end Go.Proofs.Ytkomcebknllaiaa
