/- check.shaped of a type with parts. -/
import Derived.Test.YtjdjpbdfchhcfaaGreatKE24
import Derived.Test.YtjdjpbdfchhcfaaGreatKE18
import Derived.Test.YtjdjpbdfchhcfaaGreatKE13
import Derived.Test.YtjdjpbdfchhcfaaGreatKE17
namespace Go.Proofs.YtjdjpbdfchhcfaaGreat
open Go.RowKit

theorem put4 {w : World} {b : Nat} {T : TypeId} {v0 v1 v2 v3 v4 v5 v6 v7 v8 v9 v10 : Value} (h : w.heap[b]? = some (.cells #[v0, v1, v2, v3, v4, v5, v6, v7, v8, v9, v10] T (0, 0))) (x : Value) :
    (w.setCell ⟨b, 4, none⟩ x).heap[b]? = some (.cells #[v0, v1, v2, v3, x, v5, v6, v7, v8, v9, v10] T (0, 0)) := by
  simp [World.setCell, Array.getElem?_modify, h]
theorem put5 {w : World} {b : Nat} {T : TypeId} {v0 v1 v2 v3 v4 v5 v6 v7 v8 v9 v10 : Value} (h : w.heap[b]? = some (.cells #[v0, v1, v2, v3, v4, v5, v6, v7, v8, v9, v10] T (0, 0))) (x : Value) :
    (w.setCell ⟨b, 5, none⟩ x).heap[b]? = some (.cells #[v0, v1, v2, v3, v4, x, v6, v7, v8, v9, v10] T (0, 0)) := by
  simp [World.setCell, Array.getElem?_modify, h]
theorem put6 {w : World} {b : Nat} {T : TypeId} {v0 v1 v2 v3 v4 v5 v6 v7 v8 v9 v10 : Value} (h : w.heap[b]? = some (.cells #[v0, v1, v2, v3, v4, v5, v6, v7, v8, v9, v10] T (0, 0))) (x : Value) :
    (w.setCell ⟨b, 6, none⟩ x).heap[b]? = some (.cells #[v0, v1, v2, v3, v4, v5, x, v7, v8, v9, v10] T (0, 0)) := by
  simp [World.setCell, Array.getElem?_modify, h]
theorem put7 {w : World} {b : Nat} {T : TypeId} {v0 v1 v2 v3 v4 v5 v6 v7 v8 v9 v10 : Value} (h : w.heap[b]? = some (.cells #[v0, v1, v2, v3, v4, v5, v6, v7, v8, v9, v10] T (0, 0))) (x : Value) :
    (w.setCell ⟨b, 7, none⟩ x).heap[b]? = some (.cells #[v0, v1, v2, v3, v4, v5, v6, x, v8, v9, v10] T (0, 0)) := by
  simp [World.setCell, Array.getElem?_modify, h]

set_option maxRecDepth 100000 in
set_option maxHeartbeats 4000000 in
theorem shp_5 (N : Nat) (HC : ShapedC N) (o : Int) (t : Tm) (p : TyL) (n : List ByteArray) (l : List Bool) (op : Bool) (c : ByteArray) (g q : Nat) (B : Nat → Prop) (w : World) (hB : Sub B w) (hg : g < w.heap.size) (r0 : w.cell? ⟨g, q, none⟩ = some (.int .i64 5)) (ap : Option Addr) (cp : Nat) (r13 : w.cell? ⟨g, q + 13, none⟩ = some (.slice ap p.len cp)) (hlp : p.len ≤ 70368744177664) (hp : p.In w B ap 0) (hN : p.sz ≤ N) (hok : p.ok = true) (hcn : 1 + p.cnt ≤ 16384) (hde : 1 + p.dep ≤ 64) :
    Calls Tryz.prog 88 #[.pointer (some ⟨g, q, none⟩)] w (ShapedE (Ty.mk 5 o t p n l op c) B w) := by
  have HB : Hid (Below w.heap.size w (w.alloc (.cells #[.int .i64 5, .int .i64 0, .nilIface, .int .i64 0, .slice none 0 0, .slice none 0 0, .slice none 0 0, .bool false, .string ByteArray.empty, .int .i64 0, .int .i64 0] 102)) ∧ Sub B w) := ⟨(Below.refl _ _).alloc (Nat.le_refl _) _, hB⟩
  have HO : Hid (Calls Tryz.prog 111 #[.slice ap p.len cp] (w.alloc (.cells #[.int .i64 5, .int .i64 0, .nilIface, .int .i64 0, .slice none 0 0, .slice none 0 0, .slice none 0 0, .bool false, .string ByteArray.empty, .int .i64 0, .int .i64 0] 102)) fun e w' => ∃ a cap, e = .returned (.slice a p.len cap) ∧ Below (w.alloc (.cells #[.int .i64 5, .int .i64 0, .nilIface, .int .i64 0, .slice none 0 0, .slice none 0 0, .slice none 0 0, .bool false, .string ByteArray.empty, .int .i64 0, .int .i64 0] 102)).heap.size (w.alloc (.cells #[.int .i64 5, .int .i64 0, .nilIface, .int .i64 0, .slice none 0 0, .slice none 0 0, .slice none 0 0, .bool false, .string ByteArray.empty, .int .i64 0, .int .i64 0] 102)) w' ∧ p.Sh w' (BF B (w.alloc (.cells #[.int .i64 5, .int .i64 0, .nilIface, .int .i64 0, .slice none 0 0, .slice none 0 0, .slice none 0 0, .bool false, .string ByteArray.empty, .int .i64 0, .int .i64 0] 102)) w') a 0) :=
    shapedAll_any N HC p hN hok (by omega) (by omega) ap cp B _ (p.In_same (hB.same HB.out.1) (fun _ h => h) ap 0 hp) (hB.later HB.out.1)
  clear HC hp hB hN hok
  go_enter Tryz.func88, Tryz.ntmps88
  go_wp2_with fail
  refine HO.out.mono ?_
  rintro e w1 ⟨a, cap, rfl, hb1, hs1⟩
  have hx1 : w1.heap[w.heap.size]? = some (.cells #[.int .i64 5, .int .i64 0, .nilIface, .int .i64 0, .slice none 0 0, .slice none 0 0, .slice none 0 0, .bool false, .string ByteArray.empty, .int .i64 0, .int .i64 0] 102 (0, 0)) := by rw [hb1.block w.heap.size (by simp)]; exact heap_alloc_new w _
  obtain ⟨w2, HW2⟩ : ∃ w2, w1.setCell ⟨w.heap.size, 4, none⟩ (.slice a p.len cap) = w2 := ⟨_, rfl⟩
  have hx2 : w2.heap[w.heap.size]? = some (.cells #[.int .i64 5, .int .i64 0, .nilIface, .int .i64 0, .slice a p.len cap, .slice none 0 0, .slice none 0 0, .bool false, .string ByteArray.empty, .int .i64 0, .int .i64 0] 102 (0, 0)) := by rw [← HW2]; exact put4 hx1 _
  have hs2 : w2.heap.size = w1.heap.size := by rw [← HW2]; simp [World.setCell]
  have hz1 : w.heap.size + 1 ≤ w1.heap.size := by have := hb1.size; simpa using this
  have H2 : Hid (Below w.heap.size w w2 ∧ p.Sh w2 (BF B w w2) a 0 ∧ Sub (BF B w w2) w2) := by
    refine ⟨by rw [← HW2]; exact (HB.out.1.trans (hb1.mono (by simp))).setCell (p := ⟨w.heap.size, 4, none⟩) (Nat.le_refl _) _, p.Sh_same (B := BF B (w.alloc (.cells #[.int .i64 5, .int .i64 0, .nilIface, .int .i64 0, .slice none 0 0, .slice none 0 0, .slice none 0 0, .bool false, .string ByteArray.empty, .int .i64 0, .int .i64 0] 102)) w1) ?_ ?_ a 0 hs1, ?_⟩
    · intro k hk
      rw [← HW2, Below.heap_setCell _ _ _ _ ?_]
      rcases hk with hk | hk
      · have := HB.out.2 k hk; show k ≠ w.heap.size; omega
      · have := hk.1; simp at this; show k ≠ w.heap.size; omega
    · intro k hk
      rcases hk with hk | hk
      · exact .inl hk
      · exact .inr ⟨by have := hk.1; simp at this; omega, by have := hk.2; omega⟩
    · intro k hk
      rcases hk with hk | hk
      · have := HB.out.2 k hk; omega
      · exact hk.2
  have c4 : w1.cell? ⟨w.heap.size, 4, none⟩ = some (.slice none 0 0) := by rw [cell_of_row _ _ _ _ _ _ hx1]; rfl
  have z4 := Lib.frozen_of_heap hx1 4
  have HL : Hid ((loadVar 102 ⟨w.heap.size, 0, none⟩).run Tryz.prog w2 = .ok (.agg #[.int .i64 5, .int .i64 0, .nilIface, .int .i64 0, .slice a p.len cap, .slice none 0 0, .slice none 0 0, .bool false, .string ByteArray.empty, .int .i64 0, .int .i64 0]) w2) := sld rfl hx2
  have HM : Hid (Calls Tryz.prog 55 #[.agg #[.int .i64 5, .int .i64 0, .nilIface, .int .i64 0, .slice a p.len cap, .slice none 0 0, .slice none 0 0, .bool false, .string ByteArray.empty, .int .i64 0, .int .i64 0]] w2 _) := made_any _ _ _ _ a p cap _ _ _ _ _ _ (BF B w w2) w2 H2.out.2.2 H2.out.2.1 hlp (by omega) (by omega)
  have HZ : Hid (w.heap.size ≤ w2.heap.size) := by show _ ≤ _; omega
  clear hx1 hx2 hs2 hz1 hb1 hs1
  go_wp2_with ((with_reducible refine ld_row ?_ ?_ HL.out ?_); rfl; rfl)
  refine HM.out.mono ?_
  rintro e w' ⟨rfl, hb', hz', hbx⟩
  have H : Hid (Below w.heap.size w w' ∧ (Ty.mk 5 o t p n l op c).Sh w' (BF B w w') w2.heap.size) := by
    refine ⟨H2.out.1.trans (hb'.mono HZ.out), ?_⟩
    have hz := HZ.out
    simp only [Ty.Sh]
    refine ⟨.inr ⟨by omega, by omega⟩, _, _, _, _, _, _, _, _, _, _, _, _, _, _, hbx, by simp, by simp, fun _ => ⟨rfl, hlp, p.Sh_same (fun k hk => hb'.block k (H2.out.2.2 k hk)) (fun k hk => ?_) a 0 H2.out.2.1⟩, by simp, by simp, by simp [ShZ, Sp.parted]⟩
    rcases hk with hk | hk
    · exact .inl hk
    · exact .inr ⟨hk.1, by have := hk.2; omega⟩
  clear hb' hz' hbx
  go_wp2_with fail
  go_ret
  exact ⟨_, rfl, H.out⟩
set_option maxRecDepth 100000 in
set_option maxHeartbeats 4000000 in
theorem shp_7 (N : Nat) (HC : ShapedC N) (o : Int) (t : Tm) (p : TyL) (n : List ByteArray) (l : List Bool) (op : Bool) (c : ByteArray) (g q : Nat) (B : Nat → Prop) (w : World) (hB : Sub B w) (hg : g < w.heap.size) (r0 : w.cell? ⟨g, q, none⟩ = some (.int .i64 7)) (ap : Option Addr) (cp : Nat) (r13 : w.cell? ⟨g, q + 13, none⟩ = some (.slice ap p.len cp)) (hlp : p.len ≤ 70368744177664) (hp : p.In w B ap 0) (hN : p.sz ≤ N) (hok : p.ok = true) (hcn : 1 + p.cnt ≤ 16384) (hde : 1 + p.dep ≤ 64) :
    Calls Tryz.prog 88 #[.pointer (some ⟨g, q, none⟩)] w (ShapedE (Ty.mk 7 o t p n l op c) B w) := by
  have HB : Hid (Below w.heap.size w (w.alloc (.cells #[.int .i64 7, .int .i64 0, .nilIface, .int .i64 0, .slice none 0 0, .slice none 0 0, .slice none 0 0, .bool false, .string ByteArray.empty, .int .i64 0, .int .i64 0] 102)) ∧ Sub B w) := ⟨(Below.refl _ _).alloc (Nat.le_refl _) _, hB⟩
  have HO : Hid (Calls Tryz.prog 111 #[.slice ap p.len cp] (w.alloc (.cells #[.int .i64 7, .int .i64 0, .nilIface, .int .i64 0, .slice none 0 0, .slice none 0 0, .slice none 0 0, .bool false, .string ByteArray.empty, .int .i64 0, .int .i64 0] 102)) fun e w' => ∃ a cap, e = .returned (.slice a p.len cap) ∧ Below (w.alloc (.cells #[.int .i64 7, .int .i64 0, .nilIface, .int .i64 0, .slice none 0 0, .slice none 0 0, .slice none 0 0, .bool false, .string ByteArray.empty, .int .i64 0, .int .i64 0] 102)).heap.size (w.alloc (.cells #[.int .i64 7, .int .i64 0, .nilIface, .int .i64 0, .slice none 0 0, .slice none 0 0, .slice none 0 0, .bool false, .string ByteArray.empty, .int .i64 0, .int .i64 0] 102)) w' ∧ p.Sh w' (BF B (w.alloc (.cells #[.int .i64 7, .int .i64 0, .nilIface, .int .i64 0, .slice none 0 0, .slice none 0 0, .slice none 0 0, .bool false, .string ByteArray.empty, .int .i64 0, .int .i64 0] 102)) w') a 0) :=
    shapedAll_any N HC p hN hok (by omega) (by omega) ap cp B _ (p.In_same (hB.same HB.out.1) (fun _ h => h) ap 0 hp) (hB.later HB.out.1)
  clear HC hp hB hN hok
  go_enter Tryz.func88, Tryz.ntmps88
  go_wp2_with fail
  refine HO.out.mono ?_
  rintro e w1 ⟨a, cap, rfl, hb1, hs1⟩
  have hx1 : w1.heap[w.heap.size]? = some (.cells #[.int .i64 7, .int .i64 0, .nilIface, .int .i64 0, .slice none 0 0, .slice none 0 0, .slice none 0 0, .bool false, .string ByteArray.empty, .int .i64 0, .int .i64 0] 102 (0, 0)) := by rw [hb1.block w.heap.size (by simp)]; exact heap_alloc_new w _
  obtain ⟨w2, HW2⟩ : ∃ w2, w1.setCell ⟨w.heap.size, 4, none⟩ (.slice a p.len cap) = w2 := ⟨_, rfl⟩
  have hx2 : w2.heap[w.heap.size]? = some (.cells #[.int .i64 7, .int .i64 0, .nilIface, .int .i64 0, .slice a p.len cap, .slice none 0 0, .slice none 0 0, .bool false, .string ByteArray.empty, .int .i64 0, .int .i64 0] 102 (0, 0)) := by rw [← HW2]; exact put4 hx1 _
  have hs2 : w2.heap.size = w1.heap.size := by rw [← HW2]; simp [World.setCell]
  have hz1 : w.heap.size + 1 ≤ w1.heap.size := by have := hb1.size; simpa using this
  have H2 : Hid (Below w.heap.size w w2 ∧ p.Sh w2 (BF B w w2) a 0 ∧ Sub (BF B w w2) w2) := by
    refine ⟨by rw [← HW2]; exact (HB.out.1.trans (hb1.mono (by simp))).setCell (p := ⟨w.heap.size, 4, none⟩) (Nat.le_refl _) _, p.Sh_same (B := BF B (w.alloc (.cells #[.int .i64 7, .int .i64 0, .nilIface, .int .i64 0, .slice none 0 0, .slice none 0 0, .slice none 0 0, .bool false, .string ByteArray.empty, .int .i64 0, .int .i64 0] 102)) w1) ?_ ?_ a 0 hs1, ?_⟩
    · intro k hk
      rw [← HW2, Below.heap_setCell _ _ _ _ ?_]
      rcases hk with hk | hk
      · have := HB.out.2 k hk; show k ≠ w.heap.size; omega
      · have := hk.1; simp at this; show k ≠ w.heap.size; omega
    · intro k hk
      rcases hk with hk | hk
      · exact .inl hk
      · exact .inr ⟨by have := hk.1; simp at this; omega, by have := hk.2; omega⟩
    · intro k hk
      rcases hk with hk | hk
      · have := HB.out.2 k hk; omega
      · exact hk.2
  have c4 : w1.cell? ⟨w.heap.size, 4, none⟩ = some (.slice none 0 0) := by rw [cell_of_row _ _ _ _ _ _ hx1]; rfl
  have z4 := Lib.frozen_of_heap hx1 4
  have HL : Hid ((loadVar 102 ⟨w.heap.size, 0, none⟩).run Tryz.prog w2 = .ok (.agg #[.int .i64 7, .int .i64 0, .nilIface, .int .i64 0, .slice a p.len cap, .slice none 0 0, .slice none 0 0, .bool false, .string ByteArray.empty, .int .i64 0, .int .i64 0]) w2) := sld rfl hx2
  have HM : Hid (Calls Tryz.prog 55 #[.agg #[.int .i64 7, .int .i64 0, .nilIface, .int .i64 0, .slice a p.len cap, .slice none 0 0, .slice none 0 0, .bool false, .string ByteArray.empty, .int .i64 0, .int .i64 0]] w2 _) := made_any _ _ _ _ a p cap _ _ _ _ _ _ (BF B w w2) w2 H2.out.2.2 H2.out.2.1 hlp (by omega) (by omega)
  have HZ : Hid (w.heap.size ≤ w2.heap.size) := by show _ ≤ _; omega
  clear hx1 hx2 hs2 hz1 hb1 hs1
  go_wp2_with ((with_reducible refine ld_row ?_ ?_ HL.out ?_); rfl; rfl)
  refine HM.out.mono ?_
  rintro e w' ⟨rfl, hb', hz', hbx⟩
  have H : Hid (Below w.heap.size w w' ∧ (Ty.mk 7 o t p n l op c).Sh w' (BF B w w') w2.heap.size) := by
    refine ⟨H2.out.1.trans (hb'.mono HZ.out), ?_⟩
    have hz := HZ.out
    simp only [Ty.Sh]
    refine ⟨.inr ⟨by omega, by omega⟩, _, _, _, _, _, _, _, _, _, _, _, _, _, _, hbx, by simp, by simp, fun _ => ⟨rfl, hlp, p.Sh_same (fun k hk => hb'.block k (H2.out.2.2 k hk)) (fun k hk => ?_) a 0 H2.out.2.1⟩, by simp, by simp, by simp [ShZ, Sp.parted]⟩
    rcases hk with hk | hk
    · exact .inl hk
    · exact .inr ⟨hk.1, by have := hk.2; omega⟩
  clear hb' hz' hbx
  go_wp2_with fail
  go_ret
  exact ⟨_, rfl, H.out⟩
end Go.Proofs.YtjdjpbdfchhcfaaGreat

/- check.shaped of a dict's type. -/
namespace Go.Proofs.YtjdjpbdfchhcfaaGreat
open Go.RowKit

set_option maxRecDepth 100000 in
set_option maxHeartbeats 4000000 in
theorem shp_6 (N : Nat) (HC : ShapedC N) (o : Int) (t : Tm) (p : TyL) (n : List ByteArray) (l : List Bool) (op : Bool) (c : ByteArray) (g q : Nat) (B : Nat → Prop) (w : World) (hB : Sub B w) (hg : g < w.heap.size) (r0 : w.cell? ⟨g, q, none⟩ = some (.int .i64 6)) (ap : Option Addr) (cp : Nat) (r13 : w.cell? ⟨g, q + 13, none⟩ = some (.slice ap p.len cp)) (hlp : p.len ≤ 70368744177664) (hp : p.In w B ap 0) (hN : p.sz ≤ N) (hok : p.ok = true) (hcn : 1 + p.cnt ≤ 16384) (hde : 1 + p.dep ≤ 64)
    (an : Option Addr) (cn : Nat) (ak : Option Addr) (ck : Nat) (r14 : w.cell? ⟨g, q + 14, none⟩ = some (.slice an n.length cn)) (r15 : w.cell? ⟨g, q + 15, none⟩ = some (.slice ak l.length ck)) (r16 : w.cell? ⟨g, q + 16, none⟩ = some (.bool op)) (hna : NamesAt w B an n) (hba : BoolsAt w B ak l) :
    Calls Tryz.prog 88 #[.pointer (some ⟨g, q, none⟩)] w (ShapedE (Ty.mk 6 o t p n l op c) B w) := by
  have HB : Hid (Below w.heap.size w (w.alloc (.cells #[.int .i64 6, .int .i64 0, .nilIface, .int .i64 0, .slice none 0 0, .slice none 0 0, .slice none 0 0, .bool false, .string ByteArray.empty, .int .i64 0, .int .i64 0] 102)) ∧ Sub B w ∧ NamesAt w B an n ∧ BoolsAt w B ak l) := ⟨(Below.refl _ _).alloc (Nat.le_refl _) _, hB, hna, hba⟩
  have HO : Hid (∀ W, Below (w.alloc (.cells #[.int .i64 6, .int .i64 0, .nilIface, .int .i64 0, .slice none 0 0, .slice none 0 0, .slice none 0 0, .bool false, .string ByteArray.empty, .int .i64 0, .int .i64 0] 102)).heap.size (w.alloc (.cells #[.int .i64 6, .int .i64 0, .nilIface, .int .i64 0, .slice none 0 0, .slice none 0 0, .slice none 0 0, .bool false, .string ByteArray.empty, .int .i64 0, .int .i64 0] 102)) W → Calls Tryz.prog 111 #[.slice ap p.len cp] W fun e w' => ∃ a cap, e = .returned (.slice a p.len cap) ∧ Below W.heap.size W w' ∧ p.Sh w' (BF B W w') a 0) := fun W hW =>
    shapedAll_any N HC p hN hok (by omega) (by omega) ap cp B W (p.In_same (hB.same (HB.out.1.trans (hW.mono (by simp)))) (fun _ h => h) ap 0 hp) (hB.later (HB.out.1.trans (hW.mono (by simp))))
  have HX : Hid (∀ W, Below (w.alloc (.cells #[.int .i64 6, .int .i64 0, .nilIface, .int .i64 0, .slice none 0 0, .slice none 0 0, .slice none 0 0, .bool false, .string ByteArray.empty, .int .i64 0, .int .i64 0] 102)).heap.size (w.alloc (.cells #[.int .i64 6, .int .i64 0, .nilIface, .int .i64 0, .slice none 0 0, .slice none 0 0, .slice none 0 0, .bool false, .string ByteArray.empty, .int .i64 0, .int .i64 0] 102)) W → W.cell? ⟨g, q + 13, none⟩ = some (.slice ap p.len cp) ∧ W.cell? ⟨g, q + 14, none⟩ = some (.slice an n.length cn) ∧ W.cell? ⟨g, q + 15, none⟩ = some (.slice ak l.length ck) ∧ W.cell? ⟨g, q + 16, none⟩ = some (.bool op)) := fun W hW => by
    have hb := HB.out.1.trans (hW.mono (by simp))
    exact ⟨by rw [hb.cell (p := ⟨g, q + 13, none⟩) hg]; exact r13, by rw [hb.cell (p := ⟨g, q + 14, none⟩) hg]; exact r14, by rw [hb.cell (p := ⟨g, q + 15, none⟩) hg]; exact r15, by rw [hb.cell (p := ⟨g, q + 16, none⟩) hg]; exact r16⟩
  have hfar : g ≠ w.heap.size := by omega
  have HX1 : Hid (∀ W, Below (w.alloc (.cells #[.int .i64 6, .int .i64 0, .nilIface, .int .i64 0, .slice none 0 0, .slice none 0 0, .slice none 0 0, .bool false, .string ByteArray.empty, .int .i64 0, .int .i64 0] 102)).heap.size (w.alloc (.cells #[.int .i64 6, .int .i64 0, .nilIface, .int .i64 0, .slice none 0 0, .slice none 0 0, .slice none 0 0, .bool false, .string ByteArray.empty, .int .i64 0, .int .i64 0] 102)) W → W.heap[w.heap.size]? = some (.cells #[.int .i64 6, .int .i64 0, .nilIface, .int .i64 0, .slice none 0 0, .slice none 0 0, .slice none 0 0, .bool false, .string ByteArray.empty, .int .i64 0, .int .i64 0] 102 (0, 0))) := fun W hW => by rw [hW.block w.heap.size (by simp)]; exact heap_alloc_new w _
  clear HC hp hB hN hok hna hba r13 r14 r15 r16
  go_enter Tryz.func88, Tryz.ntmps88
  go_wp2_with fail
  go_region_held3 (fun W => W.cell? ⟨g, q + 13, none⟩ = some (.slice ap p.len cp) ∧ W.cell? ⟨g, q + 14, none⟩ = some (.slice an n.length cn) ∧ W.cell? ⟨g, q + 15, none⟩ = some (.slice ak l.length ck) ∧ W.cell? ⟨g, q + 16, none⟩ = some (.bool op))
    (first | (refine ⟨?_, ?_, ?_, ?_⟩ <;> ((repeat rw [cell_far hfar]); first | with_reducible exact (HX.out w1 HB1.out).1 | with_reducible exact (HX.out w1 HB1.out).2.1 | with_reducible exact (HX.out w1 HB1.out).2.2.1 | with_reducible exact (HX.out w1 HB1.out).2.2.2)) | with_reducible exact HX.out _ (Below.refl _ _) | with_reducible exact HX.out _ (Below.refl _ _).drew)
    ((go_at_call 111; refine (HO.out _ ?_).mono ?_; exact (Below.refl _ _).drew; rintro e w1 ⟨a, cap, rfl, hb1, hs1⟩; have HB1 : Hid (Below (w.alloc (.cells #[.int .i64 6, .int .i64 0, .nilIface, .int .i64 0, .slice none 0 0, .slice none 0 0, .slice none 0 0, .bool false, .string ByteArray.empty, .int .i64 0, .int .i64 0] 102)).heap.size (w.alloc (.cells #[.int .i64 6, .int .i64 0, .nilIface, .int .i64 0, .slice none 0 0, .slice none 0 0, .slice none 0 0, .bool false, .string ByteArray.empty, .int .i64 0, .int .i64 0] 102)) w1) := below_to (Below.refl _ _).drew hb1; have HS1 : Hid (p.Sh w1 (BF B (w.alloc (.cells #[.int .i64 6, .int .i64 0, .nilIface, .int .i64 0, .slice none 0 0, .slice none 0 0, .slice none 0 0, .bool false, .string ByteArray.empty, .int .i64 0, .int .i64 0] 102)) w1) a 0) := hs1; have hx1 := HX1.out w1 HB1.out; have c4 : w1.cell? ⟨w.heap.size, 4, none⟩ = some (.slice none 0 0) := (by rw [cell_of_row _ _ _ _ _ _ hx1]; rfl); have c5 : w1.cell? ⟨w.heap.size, 5, none⟩ = some (.slice none 0 0) := (by rw [cell_of_row _ _ _ _ _ _ hx1]; rfl); have c6 : w1.cell? ⟨w.heap.size, 6, none⟩ = some (.slice none 0 0) := (by rw [cell_of_row _ _ _ _ _ _ hx1]; rfl); have c7 : w1.cell? ⟨w.heap.size, 7, none⟩ = some (.bool false) := (by rw [cell_of_row _ _ _ _ _ _ hx1]; rfl); have z4 := Lib.frozen_of_heap hx1 4; have z5 := Lib.frozen_of_heap hx1 5; have z6 := Lib.frozen_of_heap hx1 6; have z7 := Lib.frozen_of_heap hx1 7; clear hb1 hs1 hx1))
  obtain ⟨w4, HW4⟩ : ∃ w4, (((w1.setCell ⟨w.heap.size, 4, none⟩ (.slice a p.len cap)).setCell ⟨w.heap.size, 5, none⟩ (.slice an n.length cn)).setCell ⟨w.heap.size, 6, none⟩ (.slice ak l.length ck)).setCell ⟨w.heap.size, 7, none⟩ (.bool op) = w4 := ⟨_, rfl⟩
  have hx4 : w4.heap[w.heap.size]? = some (.cells #[.int .i64 6, .int .i64 0, .nilIface, .int .i64 0, .slice a p.len cap, .slice an n.length cn, .slice ak l.length ck, .bool op, .string ByteArray.empty, .int .i64 0, .int .i64 0] 102 (0, 0)) := by rw [← HW4]; exact put7 (put6 (put5 (put4 (HX1.out w1 HB1.out) _) _) _) _
  have hs4 : w4.heap.size = w1.heap.size := by rw [← HW4]; simp [World.setCell]
  have hz1 : w.heap.size + 1 ≤ w1.heap.size := by have := HB1.out.size; simpa using this
  have HK4 : Hid (∀ k, k ≠ w.heap.size → w4.heap[k]? = w1.heap[k]?) := fun k hk => by rw [← HW4, Below.heap_setCell _ _ _ _ hk, Below.heap_setCell _ _ _ _ hk, Below.heap_setCell _ _ _ _ hk, Below.heap_setCell _ _ _ _ hk]
  have H2 : Hid (Below w.heap.size w w4 ∧ p.Sh w4 (BF B w w4) a 0 ∧ Sub (BF B w w4) w4) := by
    refine ⟨by rw [← HW4]; exact ((((HB.out.1.trans (HB1.out.mono (by simp))).setCell (p := ⟨w.heap.size, 4, none⟩) (Nat.le_refl _) _).setCell (p := ⟨w.heap.size, 5, none⟩) (Nat.le_refl _) _).setCell (p := ⟨w.heap.size, 6, none⟩) (Nat.le_refl _) _).setCell (p := ⟨w.heap.size, 7, none⟩) (Nat.le_refl _) _, p.Sh_same (B := BF B (w.alloc (.cells #[.int .i64 6, .int .i64 0, .nilIface, .int .i64 0, .slice none 0 0, .slice none 0 0, .slice none 0 0, .bool false, .string ByteArray.empty, .int .i64 0, .int .i64 0] 102)) w1) ?_ ?_ a 0 HS1.out, ?_⟩
    · intro k hk
      refine HK4.out k ?_
      rcases hk with hk | hk
      · have := HB.out.2.1 k hk; omega
      · have := hk.1; simp at this; omega
    · intro k hk
      rcases hk with hk | hk
      · exact .inl hk
      · exact .inr ⟨by have := hk.1; simp at this; omega, by have := hk.2; omega⟩
    · intro k hk
      rcases hk with hk | hk
      · have := HB.out.2.1 k hk; omega
      · exact hk.2
  have HL : Hid ((loadVar 102 ⟨w.heap.size, 0, none⟩).run Tryz.prog w4 = .ok (.agg #[.int .i64 6, .int .i64 0, .nilIface, .int .i64 0, .slice a p.len cap, .slice an n.length cn, .slice ak l.length ck, .bool op, .string ByteArray.empty, .int .i64 0, .int .i64 0]) w4) := sld rfl hx4
  have HM : Hid (Calls Tryz.prog 55 #[.agg #[.int .i64 6, .int .i64 0, .nilIface, .int .i64 0, .slice a p.len cap, .slice an n.length cn, .slice ak l.length ck, .bool op, .string ByteArray.empty, .int .i64 0, .int .i64 0]] w4 _) := made_any _ _ _ _ a p cap _ _ _ _ _ _ (BF B w w4) w4 H2.out.2.2 H2.out.2.1 hlp (by omega) (by omega)
  have HZ : Hid (w.heap.size ≤ w4.heap.size) := by show _ ≤ _; omega
  rw [HW4]
  clear hx4 hs4 hz1 c4 c5 c6 c7 z4 z5 z6 z7 HW4 HK4
  go_wp2_with ((with_reducible refine ld_row ?_ ?_ HL.out ?_); rfl; rfl)
  refine HM.out.mono ?_
  rintro e w' ⟨rfl, hb', hz', hbx⟩
  have H : Hid (Below w.heap.size w w' ∧ (Ty.mk 6 o t p n l op c).Sh w' (BF B w w') w4.heap.size) := by
    have hz := HZ.out
    have hbw : Below w.heap.size w w' := H2.out.1.trans (hb'.mono hz)
    refine ⟨hbw, ?_⟩
    simp only [Ty.Sh]
    refine ⟨.inr ⟨by omega, by omega⟩, _, _, _, _, _, _, _, _, _, _, _, _, _, _, hbx, by simp, by simp, fun _ => ⟨rfl, hlp, p.Sh_same (fun k hk => hb'.block k (H2.out.2.2 k hk)) (fun k hk => ?_) a 0 H2.out.2.1⟩, fun _ => ⟨rfl, rfl, rfl, HB.out.2.2.1.same (HB.out.2.1.same hbw) (fun k hk => .inl hk), HB.out.2.2.2.same (HB.out.2.1.same hbw) (fun k hk => .inl hk)⟩, by simp, by simp [ShZ, Sp.parted]⟩
    rcases hk with hk | hk
    · exact .inl hk
    · exact .inr ⟨hk.1, by have := hk.2; omega⟩
  clear hb' hz' hbx
  go_wp2_with fail
  go_ret
  exact ⟨_, rfl, H.out⟩

theorem Ty.kinds {k o : Int} {t : Tm} {p : TyL} {n : List ByteArray} {l : List Bool} {op : Bool} {c : ByteArray} (h : (Ty.mk k o t p n l op c).ok = true) : k = 1 ∨ k = 2 ∨ k = 3 ∨ k = 4 ∨ k = 5 ∨ k = 6 ∨ k = 7 ∨ k = 8 := by
  simp only [Ty.ok, Ty.own, Bool.and_eq_true] at h
  have h1 := h.1.1
  by_cases a1 : k = 1; · exact .inl a1
  by_cases a2 : k = 2; · exact .inr (.inl a2)
  by_cases a3 : k = 3; · exact .inr (.inr (.inl a3))
  by_cases a4 : k = 4; · exact .inr (.inr (.inr (.inl a4)))
  by_cases a5 : k = 5; · exact .inr (.inr (.inr (.inr (.inl a5))))
  by_cases a6 : k = 6; · exact .inr (.inr (.inr (.inr (.inr (.inl a6)))))
  by_cases a7 : k = 7; · exact .inr (.inr (.inr (.inr (.inr (.inr (.inl a7))))))
  by_cases a8 : k = 8; · exact .inr (.inr (.inr (.inr (.inr (.inr (.inr a8))))))
  simp [a1, a2, a3, a4, a5, a6, a7, a8] at h1
theorem shaped_any : ∀ N, ShapedC N
  | 0 => fun t h => by cases t; simp [Ty.sz] at h
  | N + 1 => fun t hN hok hcn hde cs g q B w hBg hr h hB => by
    cases t with
    | mk k o t p n l op c =>
      obtain ⟨ap, cp, an, cn, ak, ck, r0, r1, r13, r14, r15, r16, r17, hlp, hp, hna, hba⟩ := Ty.In_read h hr
      obtain ⟨-, -, -, ct, ht, hcs, hct⟩ := Ty.In_only h
      have hg := hB g hBg
      have hpN : p.sz ≤ N := by simp only [Ty.sz] at hN; omega
      have hk := Ty.kinds hok
      rcases hk with rfl | rfl | rfl | rfl | rfl | rfl | rfl | rfl
      · exact shp_1 o t p n l op c g q B w hg r0
      · exact shp_2 o t p n l op c g q B w hg r0
      · exact shp_3 o t p n l op c g q B w hg r0 r1
      · exact shp_4 o t p n l op c g q B w hB hg r0 ct ht hcs (fun x hx => by rw [Nat.add_assoc, hr (2 + x) (by omega)]; exact hct x hx) (by simpa [Ty.ok, Ty.own, Sp.parted] using hok)
      · exact shp_5 N (shaped_any N) o t p n l op c g q B w hB hg r0 ap cp r13 hlp hp hpN (by simp [Ty.ok, Sp.parted] at hok; exact hok.2) (by simpa [Ty.cnt, Sp.parted] using hcn) (by simpa [Ty.dep, Sp.parted] using hde)
      · exact shp_6 N (shaped_any N) o t p n l op c g q B w hB hg r0 ap cp r13 hlp hp hpN (by simp [Ty.ok, Sp.parted] at hok; exact hok.2) (by simpa [Ty.cnt, Sp.parted] using hcn) (by simpa [Ty.dep, Sp.parted] using hde) an cn ak ck r14 r15 r16 hna hba
      · exact shp_7 N (shaped_any N) o t p n l op c g q B w hB hg r0 ap cp r13 hlp hp hpN (by simp [Ty.ok, Sp.parted] at hok; exact hok.2) (by simpa [Ty.cnt, Sp.parted] using hcn) (by simpa [Ty.dep, Sp.parted] using hde)
      · exact shp_8 o t p n l op c g q B w hg r0 r17
end Go.Proofs.YtjdjpbdfchhcfaaGreat

/- check.Valid, check.shapeOf. -/
namespace Go.Proofs.YtjdjpbdfchhcfaaGreat
open Go.RowKit

set_option maxRecDepth 100000 in
set_option maxHeartbeats 2000000 in
theorem shapeOf_no (t : Ty) (cs : Array Value) (B : Nat → Prop) (w : World) (h : t.In w B cs) (hB : Sub B w) (hc : t.can = false) :
    Calls Tryz.prog 46 #[.agg cs] w fun e w' => e = .returned (.tuple #[.pointer none, .int .i64 70]) ∧ Below w.heap.size w w' := by
  obtain ⟨hsz, -⟩ := Ty.In_cells h
  have HBW : Hid (Below w.heap.size w (w.alloc (.cells cs 34))) := (Below.refl _ _).alloc (Nat.le_refl _) _
  have HL : Hid ((loadVar 34 ⟨w.heap.size, 0, none⟩).run Tryz.prog (w.alloc (.cells cs 34)) = .ok (.agg cs) (w.alloc (.cells cs 34))) := yld hsz (heap_alloc_new w _)
  have HC : Hid (Calls Tryz.prog 87 #[.agg cs] (w.alloc (.cells cs 34)) fun e w' => e = .returned (.bool false) ∧ Below (w.alloc (.cells cs 34)).heap.size (w.alloc (.cells cs 34)) w') := by
    have := Can_any t cs B _ (t.In_same (hB.same HBW.out) (fun _ h => h) cs h) (hB.later HBW.out)
    rw [hc] at this; exact this
  clear h hB hc
  go_enter Tryz.func46, Tryz.ntmps46
  go_wp2_with ((with_reducible refine ld_row ?_ ?_ HL.out ?_); rfl; rfl)
  refine HC.out.mono ?_
  rintro e w1 ⟨rfl, hb1⟩
  have H1 : Hid (Below w.heap.size w w1) := HBW.out.trans (hb1.mono (by simp))
  clear hb1
  go_wp2_with fail
  go_ret2
  exact ⟨rfl, H1.out⟩

set_option maxRecDepth 100000 in
set_option maxHeartbeats 2000000 in
theorem shapeOf_ok (t : Ty) (cs : Array Value) (B : Nat → Prop) (w : World) (h : t.In w B cs) (hB : Sub B w) (hc : t.can = true) :
    Calls Tryz.prog 46 #[.agg cs] w fun e w' => ∃ b, e = .returned (.tuple #[.pointer (some ⟨b, 0, none⟩), .int .i64 0]) ∧ Below w.heap.size w w' ∧ t.Sh w' (Lo w'.heap.size) b := by
  obtain ⟨hsz, -⟩ := Ty.In_cells h
  have HBW : Hid (Below w.heap.size w (w.alloc (.cells cs 34))) := (Below.refl _ _).alloc (Nat.le_refl _) _
  have HL : Hid ((loadVar 34 ⟨w.heap.size, 0, none⟩).run Tryz.prog (w.alloc (.cells cs 34)) = .ok (.agg cs) (w.alloc (.cells cs 34))) := yld hsz (heap_alloc_new w _)
  have HC : Hid (Calls Tryz.prog 87 #[.agg cs] (w.alloc (.cells cs 34)) fun e w' => e = .returned (.bool true) ∧ Below (w.alloc (.cells cs 34)).heap.size (w.alloc (.cells cs 34)) w') := by
    have := Can_any t cs B _ (t.In_same (hB.same HBW.out) (fun _ h => h) cs h) (hB.later HBW.out)
    rw [hc] at this; exact this
  have HS : Hid (∀ W, Below (w.alloc (.cells cs 34)).heap.size (w.alloc (.cells cs 34)) W → Calls Tryz.prog 88 #[.pointer (some ⟨w.heap.size, 0, none⟩)] W fun e w' => ∃ b, e = .returned (.pointer (some ⟨b, 0, none⟩)) ∧ Below W.heap.size W w' ∧ t.Sh w' (Lo w'.heap.size) b) := fun W hW => by
    obtain ⟨h1, h2, h3⟩ := Ty.can_ok hc
    have hbw : Below w.heap.size w W := HBW.out.trans (hW.mono (by simp))
    have hbx : W.heap[w.heap.size]? = some (.cells cs 34 (0, 0)) := by rw [hW.block w.heap.size (by simp)]; exact heap_alloc_new w _
    have hsub : Sub (fun k => B k ∨ k = w.heap.size) W := fun k hk => by
      rcases hk with hk | rfl
      · exact hB.later hbw k hk
      · exact (Array.getElem?_eq_some_iff.1 hbx).1
    refine (shaped_any t.sz t (Nat.le_refl _) h1 h2 h3 cs w.heap.size 0 (fun k => B k ∨ k = w.heap.size) W (.inr rfl) (ybox hbx) (t.In_same (hB.same hbw) (fun k hk => .inl hk) cs h) hsub).mono ?_
    rintro e w' ⟨b, rfl, hb', hsh⟩
    refine ⟨b, rfl, hb', t.Sh_same (Same.refl _ _) (fun k hk => ?_) b hsh⟩
    rcases hk with hk | hk
    · exact Nat.lt_of_lt_of_le (hsub k hk) hb'.size
    · exact hk.2
  clear h hB hc
  go_enter Tryz.func46, Tryz.ntmps46
  go_wp2_with ((with_reducible refine ld_row ?_ ?_ HL.out ?_); rfl; rfl)
  refine HC.out.mono ?_
  rintro e w1 ⟨rfl, hb1⟩
  have H1 : Hid (Below w.heap.size w w1 ∧ w.heap.size ≤ w1.heap.size) := ⟨HBW.out.trans (hb1.mono (by simp)), by have := hb1.size; simp at this; omega⟩
  have HS1 : Hid (Calls Tryz.prog 88 #[.pointer (some ⟨w.heap.size, 0, none⟩)] w1 fun e w' => ∃ b, e = .returned (.pointer (some ⟨b, 0, none⟩)) ∧ Below w1.heap.size w1 w' ∧ t.Sh w' (Lo w'.heap.size) b) := HS.out w1 hb1
  clear hb1
  go_wp2_with fail
  refine HS1.out.mono ?_
  rintro e w2 ⟨b, rfl, hb2, hsh⟩
  have H2 : Hid (Below w.heap.size w w2 ∧ t.Sh w2 (Lo w2.heap.size) b) := ⟨H1.out.1.trans (hb2.mono H1.out.2), hsh⟩
  clear hb2 hsh
  go_wp2_with fail
  go_ret2
  exact ⟨b, rfl, H2.out⟩
end Go.Proofs.YtjdjpbdfchhcfaaGreat

/- value.copyDict. -/
namespace Go.Proofs.YtjdjpbdfchhcfaaGreat
open Go.RowKit

set_option maxRecDepth 100000 in
set_option maxHeartbeats 2000000 in
theorem copyDict_any (N : Nat) (HC : CopC N) (al : Option Addr) (L : TmF) (cl : Nat) (w : World) (hN : L.sz ≤ N) (B : Nat → Prop) (hB : Sub B w) (hL : L.V w B al 0) (hlen : L.len ≤ 4096) (hnm : L.Nm) (ho : L.Ok) :
    Calls Tryz.prog 100 #[.slice al L.len cl] w fun e w' => ∃ a cap, e = .returned (.slice a L.len cap) ∧ Below w.heap.size w w' ∧ L.LV w' (Fr w w') a cap := by
  obtain ⟨i0, hi, hz0, hz1, hz2⟩ := info_parts Tryz.infoFd
  have HCH : Hid (CopC N) := HC
  clear HC
  obtain ⟨M, hM⟩ : ∃ M, M = madeCells (Value.agg #[.string ByteArray.empty, .nilIface]).cells (((L.len : Nat) : Int).toNat * i0.size) := ⟨_, rfl⟩
  have hMs : M.size = L.len * 2 := by rw [hM, size_madeCells, hz1]; simp
  have hmake : ∀ W : World, (Instr.makeSlice 73 (.int .i64 (L.len : Int)) (.int .i64 (L.len : Int))).run Tryz.prog W = .ok (.slice (some ⟨W.heap.size, 0, none⟩) L.len L.len) (W.alloc (.cells M 126)) := fun W => by
    have h := run_make (P := Tryz.prog) W 73 126 i0 _ Tryz.undD hi hz0 .i64 .i64 (L.len : Int) (L.len : Int) (by omega) (by omega) (by rw [hz2]; omega) (by omega)
    rw [← hM] at h; simpa using h
  clear hM hi hz0 hz1 hz2
  have H0 : Hid (RW 126 w (w.alloc (.cells M 126)) w.heap.size (L.len * 2) [] ∧ FPre (w.alloc (.cells M 126)) (Own w.heap.size (w.alloc (.cells M 126)) w.heap.size) L [] L ∧ L.V w B al 0 ∧ L.Ok ∧ L.Nm) := by
    have h := RW.made (w := w) (w0 := w) (Below.refl _ _) M 126
    rw [hMs] at h
    exact ⟨h, (FPre_nil _ _).2 rfl, hL, ho, hnm⟩
  clear hL ho hnm
  go_enter Tryz.func100, Tryz.ntmps100
  go_wp2_with fail
  go_loopw [11] (fun x wr => ∃ (k : Nat) (l : TmF) (xs : List Value), x = .int .i64 k ∧ l.len + k = L.len ∧ l.sz ≤ N ∧ xs.length = k * 2 ∧ Hid (RW 126 w wr w.heap.size (L.len * 2) xs ∧ FPre wr (Own w.heap.size wr w.heap.size) L xs l ∧ l.V w B al k ∧ l.Ok ∧ l.Nm)) (fun x _ => L.len - (intOf x).toNat)
  case atStart => exact ⟨0, L, [], rfl, rfl, hN, rfl, H0.out⟩
  case round =>
    obtain ⟨k, l, xs, rfl, hl, hlN, hxs, HR⟩ := hrel
    cases l with
    | nil =>
      have h1 : L.len ≤ k := by simp [TmF.len] at hl; omega
      clear hl
      go_wp2_with fail
      go_ret
      exact ⟨_, _, rfl, HR.out.1.bel, HR.out.2.1.fin HR.out.1 (by unfold maxLen; omega)⟩
    | cons n t l =>
      obtain ⟨hrw, hpre, hsrc, hok, hnm⟩ := HR.out
      simp only [TmF.V] at hsrc
      obtain ⟨g1, o1, v1, rfl, hg1, hnc, hvc, _, ht, hl'⟩ := hsrc
      have hk1 : k < L.len := by simp only [TmF.len] at hl; omega
      have HL : Hid (l.len + (k + 1) = L.len) := by show _ = _; simp only [TmF.len] at hl; omega
      have htN : t.sz ≤ N ∧ l.sz ≤ N := by simp [TmF.sz] at hlN; omega
      have hs : Same B w wr := hB.same hrw.bel
      have HO := HCH.out.at htN.1 (t.V_same hs (fun _ h => h) v1 ht) (hB.later hrw.bel) hok.head.1
      have HO : Hid _ := HO
      have en : wr.cell? ⟨g1, o1 + k * 2, none⟩ = some (.string n) := by rw [hs.cell (p := ⟨g1, o1 + k * 2, none⟩) hg1]; exact hnc
      have ev : wr.cell? ⟨g1, o1 + k * 2 + 1, none⟩ = some v1 := by rw [hs.cell (p := ⟨g1, o1 + k * 2 + 1, none⟩) hg1]; exact hvc
      have HN : Hid (l.V w B (some ⟨g1, o1, none⟩) (k + 1) ∧ l.Ok ∧ l.Nm) := ⟨hl', hok.head.2, hnm.head.2⟩
      have hn32 : n.size ≤ 140737488355328 := by have := hnm.head.1; omega
      clear hl hlN hl' hok hs hrw hpre hnc hvc hnm
      have HS : Hid (∀ w1, Below wr.heap.size wr w1 → ((∃ u, w1.cell? ⟨w.heap.size, k * 2, none⟩ = some u) ∧ w1.frozen? ⟨w.heap.size, k * 2, none⟩ = false) ∧ (∃ u, w1.cell? ⟨w.heap.size, k * 2 + 1, none⟩ = some u) ∧ w1.frozen? ⟨w.heap.size, k * 2 + 1, none⟩ = false) := fun w1 h => ⟨(HR.out.1.call h).own (k * 2) (by omega), (HR.out.1.call h).own (k * 2 + 1) (by omega)⟩
      have hi0 : (0 : Int) ≤ (k : Int) := Int.natCast_nonneg _
      have hi1 : (k : Int) < (L.len : Int) := by omega
      have HX : Hid (∀ W, Below (wr.alloc (.cells #[.string n, v1] 126)).heap.size (wr.alloc (.cells #[.string n, v1] 126)) W → (W.cell? ⟨wr.heap.size, 0, none⟩ = some (.string n) ∧ W.cell? ⟨wr.heap.size, 1, none⟩ = some v1) ∧ Below wr.heap.size wr W) := fun W h => by
        have hh := fun j => cell_of_row W wr.heap.size j _ _ _ (show W.heap[wr.heap.size]? = some (.cells #[.string n, v1] 126 (0, 0)) by rw [h.block wr.heap.size (by simp)]; exact heap_alloc_new wr _)
        exact ⟨⟨hh 0, hh 1⟩, ((Below.refl _ _).alloc (Nat.le_refl _) _).trans (h.mono (by simp))⟩
      have hfar : wr.heap.size ≠ w.heap.size := by have := HR.out.1.lt.2; omega
      have hsh0 := t.V_shape v1 ht
      have HNew : Hid (∀ w2 v, Below wr.heap.size wr w2 → t.V w2 (Fr wr w2) v → RW 126 w (setN w2 w.heap.size (k * 2) [.string n, v]) w.heap.size (L.len * 2) (xs ++ [.string n, v]) ∧ FPre (setN w2 w.heap.size (k * 2) [.string n, v]) (Own w.heap.size (setN w2 w.heap.size (k * 2) [.string n, v]) w.heap.size) L (xs ++ [.string n, v]) l) := fun w2 v hb hv => by
        have h1 := (HR.out.1.call hb).set [.string n, v] (by simp; omega)
        rw [hxs] at h1
        exact ⟨h1, FPre.step (o := k * 2) HR.out.2.1 (by unfold maxLen; omega) hb hv HR.out.1.lt _⟩
      clear ht
      by_cases hkd : t.kind = 1
      · rcases hsh0 with rfl | ⟨T, x, rfl⟩
        · go_wp2_with fail
          go_region_held3 (fun W => W.cell? ⟨wr.heap.size, 0, none⟩ = some (.string n) ∧ W.cell? ⟨wr.heap.size, 1, none⟩ = some .nilIface)
            (first | (refine ⟨?_, ?_⟩ <;> ((repeat rw [cell_far hfar]); first | with_reducible exact (HX.out w2 HB2.out).1.1 | with_reducible exact (HX.out w2 HB2.out).1.2)) | with_reducible exact (HX.out w1 HB1.out).1 | with_reducible exact (HX.out _ (Below.refl _ _)).1 | with_reducible exact (HX.out _ (Below.refl _ _).drew).1)
            ((first
              | (go_at_call 59; refine (sClone_any n _ hn32).mono ?_; rintro e w1 ⟨rfl, hb1⟩; have HB1 : Hid (Below (wr.alloc (.cells #[.string n, .nilIface] 126)).heap.size (wr.alloc (.cells #[.string n, .nilIface] 126)) w1) := below_to (Below.refl _ _).drew hb1; clear hb1)
              | (go_at_call 69; refine (HO.out _ ?_).mono ?_; exact (HX.out _ HB1.out).2; rintro e w2 ⟨v, rfl, hb2, hv, hsh⟩; have HV : Hid (t.V w2 (Fr wr w2) v) := t.V_same (Same.refl _ _) (fun k hk => ⟨Nat.le_trans (HX.out _ HB1.out).2.size hk.1, hk.2⟩) v hv; obtain rfl := Tm.V_nil hkd hv; have HB2 : Hid (Below (wr.alloc (.cells #[.string n, .nilIface] 126)).heap.size (wr.alloc (.cells #[.string n, .nilIface] 126)) w2) := below_to HB1.out hb2; obtain ⟨⟨⟨u0, hu0⟩, hf0⟩, ⟨u1, hu1⟩, hf1⟩ := HS.out w2 (HX.out _ HB2.out).2)))
          have HNw := HNew.out w2 _ (HX.out _ HB2.out).2 HV.out
          go_wp2_with fail
          go_roundw
          case rel => exact ⟨k + 1, l, _, by go_num, HL.out, htN.2, by simp [hxs]; omega, HNw.1, HNw.2, HN.out.1, HN.out.2.1, HN.out.2.2⟩
          case measure => simp [intOf]; omega
        · go_wp2_with fail
          go_region_held3 (fun W => W.cell? ⟨wr.heap.size, 0, none⟩ = some (.string n) ∧ W.cell? ⟨wr.heap.size, 1, none⟩ = some (.iface T x))
            (first | (refine ⟨?_, ?_⟩ <;> ((repeat rw [cell_far hfar]); first | with_reducible exact (HX.out w2 HB2.out).1.1 | with_reducible exact (HX.out w2 HB2.out).1.2)) | with_reducible exact (HX.out w1 HB1.out).1 | with_reducible exact (HX.out _ (Below.refl _ _)).1 | with_reducible exact (HX.out _ (Below.refl _ _).drew).1)
            ((first
              | (go_at_call 59; refine (sClone_any n _ hn32).mono ?_; rintro e w1 ⟨rfl, hb1⟩; have HB1 : Hid (Below (wr.alloc (.cells #[.string n, (.iface T x)] 126)).heap.size (wr.alloc (.cells #[.string n, (.iface T x)] 126)) w1) := below_to (Below.refl _ _).drew hb1; clear hb1)
              | (go_at_call 69; refine (HO.out _ ?_).mono ?_; exact (HX.out _ HB1.out).2; rintro e w2 ⟨v, rfl, hb2, hv, hsh⟩; have HV : Hid (t.V w2 (Fr wr w2) v) := t.V_same (Same.refl _ _) (fun k hk => ⟨Nat.le_trans (HX.out _ HB1.out).2.size hk.1, hk.2⟩) v hv; obtain rfl := Tm.V_nil hkd hv; have HB2 : Hid (Below (wr.alloc (.cells #[.string n, (.iface T x)] 126)).heap.size (wr.alloc (.cells #[.string n, (.iface T x)] 126)) w2) := below_to HB1.out hb2; obtain ⟨⟨⟨u0, hu0⟩, hf0⟩, ⟨u1, hu1⟩, hf1⟩ := HS.out w2 (HX.out _ HB2.out).2)))
          have HNw := HNew.out w2 _ (HX.out _ HB2.out).2 HV.out
          go_wp2_with fail
          go_roundw
          case rel => exact ⟨k + 1, l, _, by go_num, HL.out, htN.2, by simp [hxs]; omega, HNw.1, HNw.2, HN.out.1, HN.out.2.1, HN.out.2.2⟩
          case measure => simp [intOf]; omega
      · rcases hsh0 with rfl | ⟨T, x, rfl⟩
        · go_wp2_with fail
          go_region_held3 (fun W => W.cell? ⟨wr.heap.size, 0, none⟩ = some (.string n) ∧ W.cell? ⟨wr.heap.size, 1, none⟩ = some .nilIface)
            (first | (refine ⟨?_, ?_⟩ <;> ((repeat rw [cell_far hfar]); first | with_reducible exact (HX.out w2 HB2.out).1.1 | with_reducible exact (HX.out w2 HB2.out).1.2)) | with_reducible exact (HX.out w1 HB1.out).1 | with_reducible exact (HX.out _ (Below.refl _ _)).1 | with_reducible exact (HX.out _ (Below.refl _ _).drew).1)
            ((first
              | (go_at_call 59; refine (sClone_any n _ hn32).mono ?_; rintro e w1 ⟨rfl, hb1⟩; have HB1 : Hid (Below (wr.alloc (.cells #[.string n, .nilIface] 126)).heap.size (wr.alloc (.cells #[.string n, .nilIface] 126)) w1) := below_to (Below.refl _ _).drew hb1; clear hb1)
              | (go_at_call 69; refine (HO.out _ ?_).mono ?_; exact (HX.out _ HB1.out).2; rintro e w2 ⟨v, rfl, hb2, hv, hsh⟩; have HV : Hid (t.V w2 (Fr wr w2) v) := t.V_same (Same.refl _ _) (fun k hk => ⟨Nat.le_trans (HX.out _ HB1.out).2.size hk.1, hk.2⟩) v hv; obtain ⟨T2, x2, rfl⟩ := Tm.V_iface hkd hv; have HB2 : Hid (Below (wr.alloc (.cells #[.string n, .nilIface] 126)).heap.size (wr.alloc (.cells #[.string n, .nilIface] 126)) w2) := below_to HB1.out hb2; obtain ⟨⟨⟨u0, hu0⟩, hf0⟩, ⟨u1, hu1⟩, hf1⟩ := HS.out w2 (HX.out _ HB2.out).2)))
          have HNw := HNew.out w2 _ (HX.out _ HB2.out).2 HV.out
          go_wp2_with fail
          go_roundw
          case rel => exact ⟨k + 1, l, _, by go_num, HL.out, htN.2, by simp [hxs]; omega, HNw.1, HNw.2, HN.out.1, HN.out.2.1, HN.out.2.2⟩
          case measure => simp [intOf]; omega
        · go_wp2_with fail
          go_region_held3 (fun W => W.cell? ⟨wr.heap.size, 0, none⟩ = some (.string n) ∧ W.cell? ⟨wr.heap.size, 1, none⟩ = some (.iface T x))
            (first | (refine ⟨?_, ?_⟩ <;> ((repeat rw [cell_far hfar]); first | with_reducible exact (HX.out w2 HB2.out).1.1 | with_reducible exact (HX.out w2 HB2.out).1.2)) | with_reducible exact (HX.out w1 HB1.out).1 | with_reducible exact (HX.out _ (Below.refl _ _)).1 | with_reducible exact (HX.out _ (Below.refl _ _).drew).1)
            ((first
              | (go_at_call 59; refine (sClone_any n _ hn32).mono ?_; rintro e w1 ⟨rfl, hb1⟩; have HB1 : Hid (Below (wr.alloc (.cells #[.string n, (.iface T x)] 126)).heap.size (wr.alloc (.cells #[.string n, (.iface T x)] 126)) w1) := below_to (Below.refl _ _).drew hb1; clear hb1)
              | (go_at_call 69; refine (HO.out _ ?_).mono ?_; exact (HX.out _ HB1.out).2; rintro e w2 ⟨v, rfl, hb2, hv, hsh⟩; have HV : Hid (t.V w2 (Fr wr w2) v) := t.V_same (Same.refl _ _) (fun k hk => ⟨Nat.le_trans (HX.out _ HB1.out).2.size hk.1, hk.2⟩) v hv; obtain ⟨T2, x2, rfl⟩ := Tm.V_iface hkd hv; have HB2 : Hid (Below (wr.alloc (.cells #[.string n, (.iface T x)] 126)).heap.size (wr.alloc (.cells #[.string n, (.iface T x)] 126)) w2) := below_to HB1.out hb2; obtain ⟨⟨⟨u0, hu0⟩, hf0⟩, ⟨u1, hu1⟩, hf1⟩ := HS.out w2 (HX.out _ HB2.out).2)))
          have HNw := HNew.out w2 _ (HX.out _ HB2.out).2 HV.out
          go_wp2_with fail
          go_roundw
          case rel => exact ⟨k + 1, l, _, by go_num, HL.out, htN.2, by simp [hxs]; omega, HNw.1, HNw.2, HN.out.1, HN.out.2.1, HN.out.2.2⟩
          case measure => simp [intOf]; omega
end Go.Proofs.YtjdjpbdfchhcfaaGreat

/- value.copyOf, whole; value.Copy. -/
namespace Go.Proofs.YtjdjpbdfchhcfaaGreat
open Go.RowKit

set_option maxRecDepth 100000 in
set_option maxHeartbeats 400000 in
theorem cof_1 (w : World) : Calls Tryz.prog 69 #[.nilIface] w fun e w' => e = .returned (.nilIface) ∧ Below w.heap.size w w' := by
  go_enter Tryz.func69, Tryz.ntmps69
  go_wp2_with fail
  go_ret
  exact ⟨rfl, Below.refl _ _⟩
set_option maxRecDepth 100000 in
set_option maxHeartbeats 400000 in
theorem cof_2 (b : Bool) (w : World) : Calls Tryz.prog 69 #[.iface 4 (.bool b)] w fun e w' => e = .returned (.iface 4 (.bool b)) ∧ Below w.heap.size w w' := by
  go_enter Tryz.func69, Tryz.ntmps69
  go_wp2_with fail
  go_ret
  exact ⟨rfl, Below.refl _ _⟩
set_option maxRecDepth 100000 in
set_option maxHeartbeats 400000 in
theorem cof_3 (i : Int) (w : World) : Calls Tryz.prog 69 #[.iface 2 (.int .i64 i)] w fun e w' => e = .returned (.iface 2 (.int .i64 i)) ∧ Below w.heap.size w w' := by
  go_enter Tryz.func69, Tryz.ntmps69
  go_wp2_with fail
  go_ret
  exact ⟨rfl, Below.refl _ _⟩
set_option maxRecDepth 100000 in
set_option maxHeartbeats 400000 in
theorem cof_4 (f : Nat) (w : World) : Calls Tryz.prog 69 #[.iface 22 (.float .f64 f)] w fun e w' => e = .returned (.iface 22 (.float .f64 f)) ∧ Below w.heap.size w w' := by
  go_enter Tryz.func69, Tryz.ntmps69
  go_wp2_with fail
  go_ret
  exact ⟨rfl, Below.refl _ _⟩
set_option maxRecDepth 100000 in
set_option maxHeartbeats 400000 in
theorem cof_7 (rf : Int) (w : World) : Calls Tryz.prog 69 #[.iface 25 (.int .u64 rf)] w fun e w' => e = .returned (.iface 25 (.int .u64 rf)) ∧ Below w.heap.size w w' := by
  go_enter Tryz.func69, Tryz.ntmps69
  go_wp2_with fail
  go_ret
  exact ⟨rfl, Below.refl _ _⟩
set_option maxRecDepth 100000 in
set_option maxHeartbeats 400000 in
theorem cof_5 (s : ByteArray) (w : World) (hs : s.size ≤ 140737488355328) : Calls Tryz.prog 69 #[.iface 9 (.string s)] w fun e w' => e = .returned (.iface 9 (.string s)) ∧ Below w.heap.size w w' := by
  go_enter Tryz.func69, Tryz.ntmps69
  go_wp2_with (go_at_call 59; refine (sClone_any s _ hs).mono ?_; rintro e w1 ⟨rfl, hb1⟩)
  go_ret
  exact ⟨rfl, hb1⟩
set_option maxRecDepth 100000 in
set_option maxHeartbeats 400000 in
theorem cof_6 (ab : Option Addr) (L : ByteArray) (cb : Nat) (B : Nat → Prop) (w : World) (hB : Sub B w) (hl : BytesAt w B ab L) (hs : L.size ≤ 140737488355328) : Calls Tryz.prog 69 #[.iface 23 (.slice ab L.size cb)] w fun e w' => ∃ a cap, e = .returned (.iface 23 (.slice a L.size cap)) ∧ Below w.heap.size w w' ∧ BytesLV w' (Fr w w') a L cap := by
  have HC : Hid (Calls Tryz.prog 99 #[.slice ab L.size cb] w fun e w' => ∃ a cap, e = .returned (.slice a L.size cap) ∧ Below w.heap.size w w' ∧ BytesLV w' (Fr w w') a L cap) := bClone_any L ab cb B w hB hl hs
  clear hl
  go_enter Tryz.func69, Tryz.ntmps69
  go_wp2_with (go_at_call 99; refine HC.out.mono ?_; rintro e w1 ⟨a, cap, rfl, hb1, hl1⟩)
  go_ret
  exact ⟨_, _, rfl, hb1, hl1⟩
set_option maxRecDepth 100000 in
set_option maxHeartbeats 400000 in
theorem cof_9 (al : Option Addr) (L : TmF) (cl : Nat) (w : World) (h : Calls Tryz.prog 100 #[.slice al L.len cl] w fun e w' => ∃ a cap, e = .returned (.slice a L.len cap) ∧ Below w.heap.size w w' ∧ L.LV w' (Fr w w') a cap) :
    Calls Tryz.prog 69 #[.iface 73 (.slice al L.len cl)] w fun e w' => ∃ a cap, e = .returned (.iface 73 (.slice a L.len cap)) ∧ Below w.heap.size w w' ∧ L.LV w' (Fr w w') a cap := by
  have HC : Hid (Calls Tryz.prog 100 #[.slice al L.len cl] w fun e w' => ∃ a cap, e = .returned (.slice a L.len cap) ∧ Below w.heap.size w w' ∧ L.LV w' (Fr w w') a cap) := h
  clear h
  go_enter Tryz.func69, Tryz.ntmps69
  go_wp2_with (go_at_call 100; refine HC.out.mono ?_; rintro e w1 ⟨a, cap, rfl, hb1, hl1⟩)
  go_ret
  exact ⟨_, _, rfl, hb1, hl1⟩
set_option maxRecDepth 100000 in
set_option maxHeartbeats 1000000 in
theorem cof_10 (g : Nat) (s : ByteArray) (vr : Int) (al : Option Addr) (L : TmF) (cl : Nat) (w : World) (hg : g < w.heap.size) (c0 : w.cell? ⟨g, 0, none⟩ = some (.string s)) (c1 : w.cell? ⟨g, 1, none⟩ = some (.int .i64 vr)) (c2 : w.cell? ⟨g, 2, none⟩ = some (.slice al L.len cl)) (hs : s.size ≤ 140737488355328)
    (h : ∀ W, Below w.heap.size w W → Calls Tryz.prog 100 #[.slice al L.len cl] W fun e w' => ∃ a cap, e = .returned (.slice a L.len cap) ∧ Below W.heap.size W w' ∧ L.LV w' (Fr W w') a cap) :
    Calls Tryz.prog 69 #[.iface 75 (.pointer (some ⟨g, 0, none⟩))] w fun e w' => ∃ g' a cap, e = .returned (.iface 75 (.pointer (some ⟨g', 0, none⟩))) ∧ Below w.heap.size w w' ∧ Fr w w' g' ∧ w'.cell? ⟨g', 0, none⟩ = some (.string s) ∧ w'.cell? ⟨g', 1, none⟩ = some (.int .i64 vr) ∧ w'.cell? ⟨g', 2, none⟩ = some (.slice a L.len cap) ∧ L.RV w' (Fr w w') g' a cap := by
  have HD : Hid _ := h
  have HX : Hid (∀ W, Below w.heap.size w W → W.cell? ⟨g, 0, none⟩ = some (.string s) ∧ W.cell? ⟨g, 1, none⟩ = some (.int .i64 vr) ∧ W.cell? ⟨g, 2, none⟩ = some (.slice al L.len cl)) := fun W hW => ⟨by rw [hW.cell (p := ⟨g, 0, none⟩) hg]; exact c0, by rw [hW.cell (p := ⟨g, 1, none⟩) hg]; exact c1, by rw [hW.cell (p := ⟨g, 2, none⟩) hg]; exact c2⟩
  go_enter Tryz.func69, Tryz.ntmps69
  go_wp2_with fail
  clear h
  go_region_held3 (fun W => W.cell? ⟨g, 0, none⟩ = some (.string s) ∧ W.cell? ⟨g, 1, none⟩ = some (.int .i64 vr) ∧ W.cell? ⟨g, 2, none⟩ = some (.slice al L.len cl))
    (first | with_reducible exact HX.out _ HB2.out | with_reducible exact HX.out _ (HB2.out.alloc HB2.out.size _) | with_reducible exact HX.out _ HB1.out | with_reducible exact HX.out _ (Below.refl _ _) | with_reducible exact HX.out _ (Below.refl _ _).drew)
    ((first
      | (go_at_call 59; refine (sClone_any s _ hs).mono ?_; rintro e w1 ⟨rfl, hb1⟩; have HB1 : Hid (Below w.heap.size w w1) := below_to (Below.refl _ _).drew hb1; clear hb1)
      | (go_at_call 100; refine (HD.out _ ?_).mono ?_; exact HB1.out; rintro e w2 ⟨a, cap, rfl, hb2, hv⟩; have HB2 : Hid (Below w.heap.size w w2) := below_to HB1.out hb2; have HV : Hid (L.LV w2 (Fr w w2) a cap) := L.LV_same (Same.refl _ _) (fun k hk => ⟨Nat.le_trans HB1.out.size hk.1, hk.2⟩) a cap hv; clear hb2 hv)))
  go_wp2_with fail
  go_ret
  have hz := HB2.out.size
  refine ⟨w2.heap.size, a, cap, rfl, HB2.out.alloc (by omega) _, ⟨by omega, by simp⟩, by simp, by simp, by simp, ⟨_, heap_alloc_new _ _⟩, L.LV_same (B' := Fr w (w2.alloc _)) (fun k hk => Below.heap_alloc _ _ _ hk.2) (fun k hk => ⟨hk.1, by have := hk.2; simp; omega⟩) a cap HV.out⟩

set_option maxHeartbeats 1000000 in
theorem copyOf_any (N : Nat) : CopC N := by
  induction N with
  | zero => intro t ht; cases t; simp [Tm.sz] at ht
  | succ N ih =>
    intro t hN v B w hv hB ho
    cases t with
    | mk k b i f tx by' rf l fs c vr =>
      have hlN : l.sz ≤ N ∧ fs.sz ≤ N := by simp [Tm.sz] at hN; omega
      obtain ⟨p1, p2, p3, p4⟩ := ho.parts
      obtain ⟨q1, q2, q3, q4, q5⟩ := ho.bounds
      simp only [Tm.V] at hv
      obtain ⟨h1, h2, h3, h4, h5, h6, h7, h8, h9, h10, h11, h12⟩ := hv
      have HF : ∀ (hk : k = 9 ∨ k = 10) (al : Option Addr) (cl : Nat), fs.V w B al 0 → ∀ W, Below w.heap.size w W → Calls Tryz.prog 100 #[.slice al fs.len cl] W fun e w' => ∃ a cap, e = .returned (.slice a fs.len cap) ∧ Below W.heap.size W w' ∧ fs.LV w' (Fr W w') a cap := fun hk al cl hfs W hW =>
        copyDict_any N ih al fs cl W hlN.2 B (hB.later hW) (fs.V_same (hB.same hW) (fun _ h => h) al 0 hfs) (TmF.nm (q4 hk)).1 (TmF.nm (q4 hk)).2 (p4 hk)
      by_cases k1 : k = 1
      · subst k1; rw [h1 rfl]; refine (cof_1 w).mono ?_
        rintro e w' ⟨rfl, hb⟩; exact ⟨_, rfl, hb, by simp [Tm.V]⟩
      by_cases k2 : k = 2
      · subst k2; rw [h2 rfl]; refine (cof_2 b w).mono ?_
        rintro e w' ⟨rfl, hb⟩; exact ⟨_, rfl, hb, by simp [Tm.V]⟩
      by_cases k3 : k = 3
      · subst k3; rw [h3 rfl]; refine (cof_3 i w).mono ?_
        rintro e w' ⟨rfl, hb⟩; exact ⟨_, rfl, hb, by simp [Tm.V]⟩
      by_cases k4 : k = 4
      · subst k4; rw [(h4 rfl).1]; refine (cof_4 f w).mono ?_
        have hf := (h4 rfl).2
        rintro e w' ⟨rfl, hb⟩; exact ⟨_, rfl, hb, by simp [Tm.V, hf]⟩
      by_cases k5 : k = 5
      · subst k5; rw [(h5 rfl).1]; refine (cof_5 tx w (by have := q1 rfl; omega)).mono ?_
        have hf := (h5 rfl).2
        rintro e w' ⟨rfl, hb⟩; exact ⟨_, rfl, hb, by simp [Tm.V, hf]⟩
      by_cases k6 : k = 6
      · subst k6
        obtain ⟨a, cap, rfl, -, hby⟩ := h6 rfl
        refine (cof_6 a by' cap B w hB hby (by have := q2 rfl; omega)).mono ?_
        rintro e w' ⟨a', cap', rfl, hb, hv⟩; exact ⟨_, rfl, hb, Tm.V_of6 hv⟩
      by_cases k7 : k = 7
      · subst k7; rw [h7 rfl]; refine (cof_7 rf w).mono ?_
        rintro e w' ⟨rfl, hb⟩; exact ⟨_, rfl, hb, by simp [Tm.V]⟩
      by_cases k8 : k = 8
      · subst k8
        obtain ⟨a, cap, rfl, ⟨hm, -⟩, hl⟩ := h8 rfl
        refine (cof_8 N ih a l cap w hlN.1 B hB hl (q3 rfl) (p3 rfl)).mono ?_
        rintro e w' ⟨a', cap', rfl, hb, hv⟩; exact ⟨_, rfl, hb, Tm.V_of8 hv⟩
      by_cases k9 : k = 9
      · subst k9
        obtain ⟨a, cap, rfl, ⟨hm, -⟩, hl⟩ := h9 rfl
        refine (cof_9 a fs cap w (HF (.inl rfl) a cap hl w (Below.refl _ _))).mono ?_
        rintro e w' ⟨a', cap', rfl, hb, hv⟩; exact ⟨_, rfl, hb, Tm.V_of9 hv⟩
      have k10 : k = 10 := by clear h1 h2 h3 h4 h5 h6 h7 h8 h9 h10 h11 h12 HF; omega
      subst k10
      obtain ⟨g, a, cap, rfl, hg, c0, c1, c2, ⟨hcl, -⟩, ⟨hm, -⟩, hl⟩ := h10 rfl
      have hcs := head_len (q5 rfl)
      refine (cof_10 g c vr a fs cap w (hB g hg) c0 c1 c2 (by omega) (HF (.inr rfl) a cap hl)).mono ?_
      rintro e w' ⟨g', a', cap', rfl, hb, hg', d0, d1, d2, hv⟩
      exact ⟨_, rfl, hb, Tm.V_of10 hg' d0 d1 d2 hcl hv⟩

set_option maxRecDepth 100000 in
set_option maxHeartbeats 400000 in
theorem Copy_err (t : Tm) (v : Value) (B : Nat) (w : World) (hB : B ≤ w.heap.size) (h : t.V w (Lo B) v) (he : t.all.e ≠ 0) :
    Calls Tryz.prog 35 #[v] w fun e w' => e = .returned (.tuple #[.nilIface, .int .i64 t.all.e]) ∧ Below w.heap.size w w' := by
  have he' := ne_bool he
  have HC : Hid (Calls Tryz.prog 68 #[v] w fun e w' => e = .returned (.tuple #[.int .i64 t.cAt, .int .i64 t.all.e]) ∧ Below w.heap.size w w') := Check_any t v B w hB h
  clear he h
  go_enter Tryz.func35, Tryz.ntmps35
  go_wp2_with (go_at_call 68; refine HC.out.mono ?_; rintro e w1 ⟨rfl, hb1⟩)
  go_ret2
  exact ⟨rfl, hb1⟩
set_option maxRecDepth 100000 in
set_option maxHeartbeats 400000 in
theorem Copy_ok (t : Tm) (v : Value) (B : Nat) (w : World) (hB : B ≤ w.heap.size) (h : t.V w (Lo B) v) (he : t.all.e = 0) :
    Calls Tryz.prog 35 #[v] w fun e w' => ∃ v', e = .returned (.tuple #[v', .int .i64 0]) ∧ Below w.heap.size w w' ∧ t.V w' (Fr w w') v' := by
  have HC : Hid (Calls Tryz.prog 68 #[v] w fun e w' => e = .returned (.tuple #[.int .i64 t.cAt, .int .i64 0]) ∧ Below w.heap.size w w') := by
    have := Check_any t v B w hB h; rw [he] at this; exact this
  have HV : Hid (∀ W, Below w.heap.size w W → Calls Tryz.prog 69 #[v] W fun e w' => ∃ v', e = .returned v' ∧ Below W.heap.size W w' ∧ t.V w' (Fr W w') v') := fun W hW =>
    copyOf_any t.sz t (Nat.le_refl _) v (Lo B) W (t.V_same (Same.of_below hW hB) (fun _ h => h) v h) (Sub.lo (Nat.le_trans hB hW.size)) (Tm.ok_all he)
  clear he h
  go_enter Tryz.func35, Tryz.ntmps35
  go_wp2_with (first
    | (go_at_call 68; refine HC.out.mono ?_; rintro e w1 ⟨rfl, hb1⟩; have HB1 : Hid _ := hb1; clear hb1)
    | (go_at_call 69; refine (HV.out _ HB1.out).mono ?_; rintro e w2 ⟨v', rfl, hb2, hv2⟩; have HB2 : Hid _ := hb2; have HV2 : Hid _ := hv2; clear hb2 hv2))
  go_ret2
  exact ⟨v', rfl, below_to HB1.out HB2.out, t.V_same (Same.refl _ _) (fun k hk => ⟨Nat.le_trans HB1.out.size hk.1, hk.2⟩) v' HV2.out⟩
end Go.Proofs.YtjdjpbdfchhcfaaGreat

