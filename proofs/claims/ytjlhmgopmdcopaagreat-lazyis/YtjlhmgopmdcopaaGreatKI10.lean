/- value.Same at two terms' values; two terms in boxes. -/
import Derived.Test.YtjlhmgopmdcopaaGreatKI6
import Derived.Test.YtjlhmgopmdcopaaGreatKI9
namespace Go.Proofs.YtjlhmgopmdcopaaGreat
open Go.RowKit

theorem same_ok {s t : Tm} (h : s.all.e = 0 ∧ t.all.e = 0) : s.ordE t = 0 ∧ s.ordN t = s.cmp t := by
  unfold Tm.ordE Tm.ordN; rw [if_neg (by omega), if_neg (by omega)]; exact ⟨h.2, rfl⟩
theorem same_err {s t : Tm} (h : s.ordE t ≠ 0) : ¬ (s.all.e = 0 ∧ t.all.e = 0) := fun g => h (same_ok g).1
theorem ok_both {s t : Tm} (h : s.ordE t = 0) : s.all.e = 0 ∧ t.all.e = 0 := by
  unfold Tm.ordE at h; split at h
  · exact absurd h (by assumption)
  · exact ⟨Decidable.not_not.1 (by assumption), h⟩

set_option maxRecDepth 100000 in
set_option maxHeartbeats 1000000 in
theorem Same_any (s t : Tm) (va vb : Value) (B : Nat) (w : World) (hB : B ≤ w.heap.size) (hs : s.V w (Lo B) va) (ht : t.V w (Lo B) vb) :
    Calls Tryz.prog 15 #[va, vb] w fun e w' => e = .returned (.bool (s.sameB t)) ∧ Below w.heap.size w w' := by
  have HO : Hid (∀ w0, w0 = w → Calls Tryz.prog 34 #[va, vb] w0 fun e w' => e = .returned (.tuple #[.int .i64 (s.ordN t), .int .i64 (s.ordE t)]) ∧ Below w0.heap.size w0 w') := by
    rintro w0 rfl; exact Order_any s t va vb B w0 hB hs ht
  clear hs ht hB
  have H : Hid ((s.ordE t ≠ 0 → s.sameB t = false) ∧ (s.ordE t = 0 → s.sameB t = decide (s.ordN t = 0))) := by
    refine ⟨fun h => ?_, fun h => ?_⟩
    · unfold Tm.sameB; exact decide_eq_false fun g => same_err h ⟨g.1, g.2.1⟩
    · have g := ok_both h
      unfold Tm.sameB; rw [(same_ok g).2]; simp [g.1, g.2]
  by_cases h1 : s.ordE t = 0
  · have G : Hid (s.sameB t = decide (s.ordN t = 0)) := H.out.2 h1
    go_enter Tryz.func15, Tryz.ntmps15
    go_wp2_with fail
    refine (HO.out _ rfl).mono ?_
    rintro e w1 ⟨rfl, hb1⟩
    have HB1 : Hid (Below w.heap.size w w1) := hb1
    clear hb1
    go_wp2_with fail
    go_ret
    exact ⟨by simp [G.out]; try rfl, HB1.out⟩
  · have h1' := ne_bool h1
    have G : Hid (s.sameB t = false) := H.out.1 h1
    go_enter Tryz.func15, Tryz.ntmps15
    go_wp2_with fail
    refine (HO.out _ rfl).mono ?_
    rintro e w1 ⟨rfl, hb1⟩
    have HB1 : Hid (Below w.heap.size w w1) := hb1
    clear hb1
    go_wp2_with fail
    go_ret
    exact ⟨by simp [G.out], HB1.out⟩

/-- the eleven cells of a term in box g -/
def Tbx (W : World) (g : Nat) (k : Int) (b : Bool) (i : Int) (f : Nat) (tx : ByteArray) (vb : Value) (rf : Int) (vl vf : Value) (c : ByteArray) (vr : Int) : Prop :=
  W.cell? ⟨g, 0, none⟩ = some (.int .i64 k) ∧ W.cell? ⟨g, 1, none⟩ = some (.bool b) ∧ W.cell? ⟨g, 2, none⟩ = some (.int .i64 i) ∧ W.cell? ⟨g, 3, none⟩ = some (.float .f64 f) ∧ W.cell? ⟨g, 4, none⟩ = some (.string tx) ∧ W.cell? ⟨g, 5, none⟩ = some vb ∧ W.cell? ⟨g, 6, none⟩ = some (.int .u64 rf) ∧ W.cell? ⟨g, 7, none⟩ = some vl ∧ W.cell? ⟨g, 8, none⟩ = some vf ∧ W.cell? ⟨g, 9, none⟩ = some (.string c) ∧ W.cell? ⟨g, 10, none⟩ = some (.int .i64 vr)
theorem Tm.In_box {w : World} {B : Nat → Prop} {t : Tm} {cs : Array Value} (h : t.In w B cs) : ∃ b i f tx vb rf vl vf c vr, cs = tcells t.kind b i f tx vb rf vl vf c vr := by
  cases t; simp only [Tm.In] at h; obtain ⟨_, _, _, _, _, _, rfl, _⟩ := h; exact ⟨_, _, _, _, _, _, _, _, _, _, rfl⟩
end Go.Proofs.YtjlhmgopmdcopaaGreat

/- Two boxes in new memory, each with a term's eleven cells. -/
namespace Go.Proofs.YtjlhmgopmdcopaaGreat
open Go.RowKit

def two (w : World) (a b : Array Value) : World := (w.alloc (.cells a 29 (0, 0))).alloc (.cells b 29 (0, 0))
end Go.Proofs.YtjlhmgopmdcopaaGreat

