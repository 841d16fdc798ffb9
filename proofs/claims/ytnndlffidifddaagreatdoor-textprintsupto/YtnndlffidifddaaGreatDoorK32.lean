/- text.writer.value at values without parts. -/
import Derived.Test.YtnndlffidifddaaGreatDoorK25
import Derived.Test.YtnndlffidifddaaGreatDoorK27
import Derived.Test.YtnndlffidifddaaGreatDoorK31
namespace Go.Proofs.YtnndlffidifddaaGreatDoor
open Go.RowKit

/-- the world behind the boxing of the writer's pointer -/
abbrev Wx (w : World) (wb : Nat) : World := w.alloc (.cells #[.pointer (some ⟨wb, 0, none⟩)] 94)
theorem Wx.kw (w : World) (wb : Nat) (h : wb ≤ w.heap.size) : Kw wb w (Wx w wb) := (Kw.refl _ _).alloc h _
/-- behind a call that has put bytes behind the writer's own -/
theorem wr_after {w W w4 : World} {wb : Nat} {a : Option Addr} {m cap : Nat} {ln : Bool} {d : Nat} {ys : List UInt8} {a4 : Option Addr} {m4 p4 : Nat} (hlt : wb < w.heap.size) (hb : w.heap[wb]? = some (.cells #[.slice a m cap, .bool ln, .int .i64 (d : Int)] 79 (0, 0))) (hW : Below (Wx w wb).heap.size (Wx w wb) W) (hk : Kp wb W w4) (hn : Byts w4 wb a4 m4 p4 ys) :
    w4.cell? ⟨wb, 0, none⟩ = some (.slice a m cap) ∧ w4.frozen? ⟨wb, 0, none⟩ = false ∧ w4.cell? ⟨w.heap.size, 0, none⟩ = some (.pointer (some ⟨wb, 0, none⟩)) ∧ Hid (Wt (w4.setCell ⟨wb, 0, none⟩ (.slice a4 m4 p4)) wb ln d ys ∧ Kw wb w (w4.setCell ⟨wb, 0, none⟩ (.slice a4 m4 p4))) := by
  have h1 : W.heap[wb]? = some (.cells #[.slice a m cap, .bool ln, .int .i64 (d : Int)] 79 (0, 0)) := by
    rw [hW.block wb (by simp; omega)]
    exact ((Below.refl w.heap.size w).alloc (Nat.le_refl _) _).block wb hlt |>.trans hb
  have h2 : W.heap[w.heap.size]? = some (.cells #[.pointer (some ⟨wb, 0, none⟩)] 94 (0, 0)) := by
    rw [hW.block w.heap.size (by simp)]
    exact heap_alloc_new w _
  have h3 := hk.kept wb _ h1 (by simp) (fun c' fz' e => by injection e with _ e2; exact absurd e2 (by decide))
  have h4 := hk.kept w.heap.size _ h2 (by simp) (fun c' fz' e => by injection e with _ e2; exact absurd e2 (by decide))
  have hKW : Kw wb w W := (Wx.kw w wb (by omega)).trans ⟨hW.mono (by simp; omega), fun k o hk0 _ _ => by rw [hW.block k (Array.getElem?_eq_some_iff.1 hk0).1]; exact hk0⟩
  refine ⟨by rw [Lib.cell_of_heap h3]; rfl, Lib.frozen_of_heap h3 0, by rw [Lib.cell_of_heap h4]; rfl, Wt.put h3 hn, (hKW.trans hk.kw).setCell 0 _⟩
theorem Wt.later {w W : World} {wb : Nat} {ln : Bool} {d : Nat} {xs : List UInt8} (h : Wt w wb ln d xs) (hW : Below (Wx w wb).heap.size (Wx w wb) W) : Wt W wb ln d xs ∧ Kw wb w W := by
  have hlt := h.lt
  refine ⟨(h.on ((Below.refl _ _).alloc (Nat.le_refl _) _)).on hW, (Wx.kw w wb (by omega)).trans ⟨hW.mono (by simp; omega), fun k o hk0 _ _ => by rw [hW.block k (Array.getElem?_eq_some_iff.1 hk0).1]; exact hk0⟩⟩

theorem wr_after2 {w W w4 : World} {wb b0 : Nat} {a : Option Addr} {m cap : Nat} {ln : Bool} {d : Nat} {ys : List UInt8} {a4 : Option Addr} {m4 p4 : Nat} (h1 : W.heap[wb]? = some (.cells #[.slice a m cap, .bool ln, .int .i64 (d : Int)] 79 (0, 0))) (h2 : W.heap[b0]? = some (.cells #[.pointer (some ⟨wb, 0, none⟩)] 94 (0, 0))) (hKW : Kw wb w W) (hk : Kp wb W w4) (hn : Byts w4 wb a4 m4 p4 ys) :
    w4.cell? ⟨wb, 0, none⟩ = some (.slice a m cap) ∧ w4.frozen? ⟨wb, 0, none⟩ = false ∧ w4.cell? ⟨b0, 0, none⟩ = some (.pointer (some ⟨wb, 0, none⟩)) ∧ Hid (Wt (w4.setCell ⟨wb, 0, none⟩ (.slice a4 m4 p4)) wb ln d ys ∧ Kw wb w (w4.setCell ⟨wb, 0, none⟩ (.slice a4 m4 p4))) := by
  have h3 := hk.kept wb _ h1 (by simp) (fun c' fz' e => by injection e with _ e2; exact absurd e2 (by decide))
  have h4 := hk.kept b0 _ h2 (by simp) (fun c' fz' e => by injection e with _ e2; exact absurd e2 (by decide))
  exact ⟨by rw [Lib.cell_of_heap h3]; rfl, Lib.frozen_of_heap h3 0, by rw [Lib.cell_of_heap h4]; rfl, Wt.put h3 hn, (hKW.trans hk.kw).setCell 0 _⟩

section
variable (w : World) (wb : Nat) (ln : Bool) (d : Nat) (xs : List UInt8) (h : Wt w wb ln d xs)
include h
set_option maxRecDepth 100000 in
set_option maxHeartbeats 2000000 in
theorem val_1 (hl : xs.length + 3 ≤ 70368744170000) : Calls Tryz.prog 32 #[.pointer (some ⟨wb, 0, none⟩), .nilIface] w (WtE wb ln d (xs ++ [110, 105, 108]) w) := by
  have HC : Hid (∀ W, Below (Wx w wb).heap.size (Wx w wb) W → Calls Tryz.prog 44 #[.pointer (some ⟨wb, 0, none⟩), .string ⟨#[110, 105, 108]⟩] W (WtE wb ln d (xs ++ [110, 105, 108]) W)) := fun W hW => add_any ⟨#[110, 105, 108]⟩ W wb ln d xs (h.later hW).1 (by show _ + 3 ≤ _; omega)
  have HW : Hid (Wt w wb ln d xs) := h
  clear h
  go_enter Tryz.func32, Tryz.ntmps32
  go_wp2_with fail
  refine (HC.out _ (Below.refl _ _)).mono ?_
  rintro e w1 ⟨rfl, hw1, hk1⟩
  have HK : Hid (Wt w1 wb ln d (xs ++ [110, 105, 108]) ∧ Kw wb w w1) := ⟨hw1, (HW.out.later (Below.refl _ _)).2.trans hk1⟩
  clear hw1 hk1
  go_wp2_with fail
  go_end0
  exact ⟨rfl, HK.out⟩
set_option maxRecDepth 100000 in
set_option maxHeartbeats 2000000 in
theorem val_2 (b : Bool) (hl : xs.length + 5 ≤ 70368744170000) : Calls Tryz.prog 32 #[.pointer (some ⟨wb, 0, none⟩), .iface 4 (.bool b)] w (WtE wb ln d (xs ++ Sp.boolT b) w) := by
  have hlt := h.lt
  obtain ⟨a, m, cap, hbk, hn⟩ := h
  have c0 : w.cell? ⟨wb, 0, none⟩ = some (.slice a m cap) := by rw [Lib.cell_of_heap hbk]; rfl
  have HC : Hid (∀ W, Below (Wx w wb).heap.size (Wx w wb) W → Calls Tryz.prog 45 #[.slice a m cap, .bool b] W (AppH wb xs (Sp.boolT b) W)) := fun W hW => by
    have hn' : Byts W wb a m cap xs := ⟨hn.1, own_on (own_on hn.2 ((Below.refl _ _).alloc (Nat.le_refl _) _)) hW⟩
    have hz : wb ≤ W.heap.size := by have := hW.size; simp at this; omega
    have hm : m ≤ 70368744177664 := by rw [hn.1]; omega
    exact AppendBool_any b xs a m cap wb W hn' hz hm
  have HB : Hid (w.heap[wb]? = some (.cells #[.slice a m cap, .bool ln, .int .i64 (d : Int)] 79 (0, 0))) := hbk
  clear hbk hn
  go_enter Tryz.func32, Tryz.ntmps32
  go_wp2_with fail
  go_region_law ((go_simp; go_at_call 45; refine (HC.out _ ?_).mono ?_; exact (Below.refl _ _).drew; rintro e w4 ⟨a4, m4, p4, rfl, H4⟩; obtain ⟨d0, e0, x0, HK4⟩ := wr_after hlt HB.out (Below.refl _ _).drew H4.out.2 H4.out.1; clear H4; dsimp only))
  all_goals
    go_wp2_with fail
    go_end0
    exact ⟨rfl, HK4.out⟩
set_option maxRecDepth 100000 in
set_option maxHeartbeats 2000000 in
theorem val_3 (i : Int) (h0 : -9223372036854775808 ≤ i) (h1 : i ≤ 9223372036854775807) (ht : Tab wb w) (hl : xs.length + 30 ≤ 70368744170000) : Calls Tryz.prog 32 #[.pointer (some ⟨wb, 0, none⟩), .iface 2 (.int .i64 i)] w (WtE wb ln d (xs ++ Lib.itoa i) w) := by
  have HTb : Hid (Tab wb w) := ht
  have hlt := h.lt
  obtain ⟨a, m, cap, hbk, hn⟩ := h
  have c0 : w.cell? ⟨wb, 0, none⟩ = some (.slice a m cap) := by rw [Lib.cell_of_heap hbk]; rfl
  have HC : Hid (∀ W, Below (Wx w wb).heap.size (Wx w wb) W → Calls Tryz.prog 46 #[.slice a m cap, .int .i64 i, .int .i64 10] W (AppH wb xs (Lib.itoa i) W)) := fun W hW => by
    have hn' : Byts W wb a m cap xs := ⟨hn.1, own_on (own_on hn.2 ((Below.refl _ _).alloc (Nat.le_refl _) _)) hW⟩
    have hz : wb ≤ W.heap.size := by have := hW.size; simp at this; omega
    have hm : m ≤ 70368744177664 := by rw [hn.1]; omega
    exact (AppendInt_any i h0 h1 xs a m cap wb W hn' hz hm (HTb.out.on ((Wx.kw w wb (by omega)).below.trans (hW.mono (by simp; omega))))).mono fun _ _ => AppK.hid
  have HB : Hid (w.heap[wb]? = some (.cells #[.slice a m cap, .bool ln, .int .i64 (d : Int)] 79 (0, 0))) := hbk
  clear hbk hn
  go_enter Tryz.func32, Tryz.ntmps32
  go_wp2_with fail
  go_region_law ((go_simp; go_at_call 46; refine (HC.out _ ?_).mono ?_; exact (Below.refl _ _).drew; rintro e w4 ⟨a4, m4, p4, rfl, H4⟩; obtain ⟨d0, e0, x0, HK4⟩ := wr_after hlt HB.out (Below.refl _ _).drew H4.out.2 H4.out.1; clear H4; dsimp only))
  all_goals
    go_wp2_with fail
    go_end0
    exact ⟨rfl, HK4.out⟩
set_option maxRecDepth 100000 in
set_option maxHeartbeats 2000000 in
theorem val_5 (tx : ByteArray) (hs : tx.size ≤ 65536) (hl : xs.length ≤ 17592180000000) : Calls Tryz.prog 32 #[.pointer (some ⟨wb, 0, none⟩), .iface 9 (.string tx)] w (WtE wb ln d (xs ++ Sp.quote tx) w) := by
  have hlt := h.lt
  obtain ⟨a, m, cap, hbk, hn⟩ := h
  have c0 : w.cell? ⟨wb, 0, none⟩ = some (.slice a m cap) := by rw [Lib.cell_of_heap hbk]; rfl
  have HC : Hid (∀ W, Below (Wx w wb).heap.size (Wx w wb) W → Calls Tryz.prog 22 #[.slice a m cap, .string tx] W (AppH wb xs (Sp.quote tx) W)) := fun W hW => by
    have hn' : Byts W wb a m cap xs := ⟨hn.1, own_on (own_on hn.2 ((Below.refl _ _).alloc (Nat.le_refl _) _)) hW⟩
    have hz : wb ≤ W.heap.size := by have := hW.size; simp at this; omega
    have hm : m ≤ 17592180000000 := by rw [hn.1]; omega
    exact (appendQuoted_any tx xs a m cap wb W hn' hz (by omega)).mono fun _ _ => AppK.hid
  have HB : Hid (w.heap[wb]? = some (.cells #[.slice a m cap, .bool ln, .int .i64 (d : Int)] 79 (0, 0))) := hbk
  clear hbk hn
  go_enter Tryz.func32, Tryz.ntmps32
  go_wp2_with fail
  go_region_law ((go_simp; go_at_call 22; refine (HC.out _ ?_).mono ?_; exact (Below.refl _ _).drew; rintro e w4 ⟨a4, m4, p4, rfl, H4⟩; obtain ⟨d0, e0, x0, HK4⟩ := wr_after hlt HB.out (Below.refl _ _).drew H4.out.2 H4.out.1; clear H4; dsimp only))
  all_goals
    go_wp2_with fail
    go_end0
    exact ⟨rfl, HK4.out⟩

set_option maxRecDepth 100000 in
set_option maxHeartbeats 2000000 in
theorem val_4 (f : Nat) (hf : f < 18446744073709551616) (ht : Tz w) (hl : xs.length + 100 ≤ 70368744170000) : Calls Tryz.prog 32 #[.pointer (some ⟨wb, 0, none⟩), .iface 22 (.float .f64 f)] w (WtE wb ln d (xs ++ Sp.floatT f) w) := by
  have hlt := h.lt
  have HF : Hid (∀ W, Below (Wx w wb).heap.size (Wx w wb) W → Calls Tryz.prog 12 #[.float .f64 f] W (FltE f W)) := fun W hW => Float_any f W hf ((ht.on ((Below.refl _ _).alloc (Nat.le_refl _) _)).on hW)
  have HA : Hid (∀ W, Below (Wx w wb).heap.size (Wx w wb) W → Calls Tryz.prog 44 #[.pointer (some ⟨wb, 0, none⟩), .string ⟨(Sp.floatT f).toArray⟩] W (WtE wb ln d (xs ++ Sp.floatT f) W)) := fun W hW => by
    have := add_any ⟨(Sp.floatT f).toArray⟩ W wb ln d xs (h.later hW).1 (by have := Sp.floatT_len f; show _ + (Sp.floatT f).toArray.size ≤ _; rw [List.size_toArray]; omega)
    simpa using this
  have HX : Hid (∀ W, Below (Wx w wb).heap.size (Wx w wb) W → W.cell? ⟨w.heap.size, 0, none⟩ = some (.pointer (some ⟨wb, 0, none⟩))) := fun W hW => by
    rw [hW.cell (p := ⟨w.heap.size, 0, none⟩) (by simp)]; simp
  have HW : Hid (Wt w wb ln d xs) := h
  clear h ht
  go_enter Tryz.func32, Tryz.ntmps32
  go_wp2_with fail
  go_region_law ((first
    | (go_simp; go_at_call 12; refine (HF.out _ ?_).mono ?_; exact (Below.refl _ _).drew; rintro e w4 ⟨rfl, hb4⟩; have HB4 : Hid (Below (Wx w wb).heap.size (Wx w wb) w4) := (Below.refl _ _).drew.trans hb4; have x0 := HX.out w4 HB4.out; clear hb4 HF; dsimp only)
    | (go_simp; go_at_call 44; refine (HA.out _ HB4.out).mono ?_; rintro e w5 ⟨rfl, hw5, hk5⟩; have HK5 : Hid (Wt w5 wb ln d (xs ++ Sp.floatT f) ∧ Kw wb w w5) := ⟨hw5, (HW.out.later HB4.out).2.trans hk5⟩; clear hw5 hk5; dsimp only)))
  all_goals
    go_wp2_with fail
    go_end0
    exact ⟨rfl, HK5.out⟩

set_option maxRecDepth 100000 in
set_option maxHeartbeats 2000000 in
theorem val_6 (s : ByteArray) (ab : Option Addr) (cb : Nat) (hx : BytesAt w (Lo wb) ab s) (hl : xs.length + (2 * s.size + 1) ≤ 70368744170000) : Calls Tryz.prog 32 #[.pointer (some ⟨wb, 0, none⟩), .iface 23 (.slice ab s.size cb)] w (WtE wb ln d (xs ++ Sp.hexs s s.size) w) := by
  have hlt := h.lt
  have HC : Hid (∀ W, Below (Wx w wb).heap.size (Wx w wb) W → Calls Tryz.prog 47 #[.pointer (some ⟨wb, 0, none⟩), .slice ab s.size cb] W (WtE wb ln d (xs ++ Sp.hexs s s.size) W)) := fun W hW => wbytes_any s ab cb (Lo wb) W wb ln d xs (h.later hW).1 (fun _ hk => hk) (hx.same (Same.of_below (h.later hW).2.below (Nat.le_refl _)) (fun _ hk => hk)) (by omega)
  have HW : Hid (Wt w wb ln d xs) := h
  clear h hx
  go_enter Tryz.func32, Tryz.ntmps32
  go_wp2_with fail
  refine (HC.out _ (Below.refl _ _)).mono ?_
  rintro e w1 ⟨rfl, hw1, hk1⟩
  have HK : Hid (Wt w1 wb ln d (xs ++ Sp.hexs s s.size) ∧ Kw wb w w1) := ⟨hw1, (HW.out.later (Below.refl _ _)).2.trans hk1⟩
  clear hw1 hk1
  go_wp2_with fail
  go_end0
  exact ⟨rfl, HK.out⟩

set_option maxRecDepth 100000 in
set_option maxHeartbeats 2000000 in
theorem val_7 (u : Nat) (hu : u < 18446744073709551616) (ht : Tab wb w) (hl : xs.length + 30 ≤ 70368744170000) : Calls Tryz.prog 32 #[.pointer (some ⟨wb, 0, none⟩), .iface 25 (.int .u64 (u : Int))] w (WtE wb ln d (xs ++ (64 :: Lib.decDigits u)) w) := by
  have hlt := h.lt
  have HC : Hid (∀ W, Below (Wx w wb).heap.size (Wx w wb) W → Calls Tryz.prog 44 #[.pointer (some ⟨wb, 0, none⟩), .string ⟨#[64]⟩] W (WtE wb ln d (xs ++ [64]) W)) := fun W hW => add_any ⟨#[64]⟩ W wb ln d xs (h.later hW).1 (by show _ + 1 ≤ _; omega)
  have HW : Hid (Wt w wb ln d xs) := h
  have HTb : Hid (Tab wb w) := ht
  have HE : Hid (xs ++ (64 :: Lib.decDigits u) = xs ++ [64] ++ Lib.decDigits u) := by show _ = _; simp
  clear h ht
  rw [HE.out]
  go_enter Tryz.func32, Tryz.ntmps32
  go_wp2_with fail
  refine (HC.out _ (Below.refl _ _)).mono ?_
  rintro e w1 ⟨rfl, hw1, hk1⟩
  have hk0 : Kw wb w w1 := (HW.out.later (Below.refl _ _)).2.trans hk1
  have hbx : w1.heap[w.heap.size]? = some (.cells #[.pointer (some ⟨wb, 0, none⟩)] 94 (0, 0)) := hk1.box (heap_alloc_new w _) (by omega) (by decide)
  have x0 : w1.cell? ⟨w.heap.size, 0, none⟩ = some (.pointer (some ⟨wb, 0, none⟩)) := by rw [Lib.cell_of_heap hbx]; rfl
  have hl1 := hw1.lt
  obtain ⟨a, m, cap, hbk, hn⟩ := hw1
  have c0 : w1.cell? ⟨wb, 0, none⟩ = some (.slice a m cap) := by rw [Lib.cell_of_heap hbk]; rfl
  have HU : Hid (∀ W, Below w1.heap.size w1 W → Calls Tryz.prog 48 #[.slice a m cap, .int .u64 (u : Int), .int .i64 10] W (AppH wb (xs ++ [64]) (Lib.decDigits u) W)) := fun W hW => by
    have hm : m = xs.length + 1 := by rw [hn.1]; simp
    exact AppendUint_any u hu (xs ++ [64]) a m cap wb W ⟨hn.1, own_on hn.2 hW⟩ (by have := hW.size; omega) (by omega) (HTb.out.on (hk0.below.trans (hW.mono (by omega))))
  have HB : Hid (w1.heap[wb]? = some (.cells #[.slice a m cap, .bool ln, .int .i64 (d : Int)] 79 (0, 0)) ∧ w1.heap[w.heap.size]? = some (.cells #[.pointer (some ⟨wb, 0, none⟩)] 94 (0, 0)) ∧ Kw wb w w1) := ⟨hbk, hbx, hk0⟩
  clear hbk hn hbx hk0 hk1 HC
  go_wp2_with fail
  go_region_law ((go_simp; go_at_call 48; refine (HU.out _ ?_).mono ?_; exact (Below.refl _ _).drew; rintro e w4 ⟨a4, m4, p4, rfl, H4⟩; obtain ⟨d0, e0, x0, HK4⟩ := wr_after2 (W := w1.drew) HB.out.1 HB.out.2.1 HB.out.2.2.drew H4.out.2 H4.out.1; clear H4; dsimp only))
  all_goals
    go_wp2_with fail
    go_end0
    exact ⟨rfl, HK4.out⟩
end
end Go.Proofs.YtnndlffidifddaaGreatDoor

