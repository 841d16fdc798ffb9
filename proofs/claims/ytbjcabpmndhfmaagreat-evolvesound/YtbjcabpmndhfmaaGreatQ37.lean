/- tenonref07.is: what it answers; kinds without parts. -/
import Derived.Test.YtbjcabpmndhfmaaGreatQ35
import Derived.Test.YtbjcabpmndhfmaaGreatQ27
import Derived.Test.YtbjcabpmndhfmaaGreatQ29
import Derived.Test.YtbjcabpmndhfmaaGreatQ31
import Derived.Test.YtbjcabpmndhfmaaGreatQ36
namespace Go.Proofs.YtbjcabpmndhfmaaGreat
open Go.RowKit

def RIsE (x : Bool × Int) (at_ : Int) (w : World) (e : Ending) (w' : World) : Prop := e = .returned (.tuple #[.bool x.1, .int .i64 (if x.1 then 0 else at_ + x.2)]) ∧ Below w.heap.size w w'
def RIsC (N : Nat) : Prop := ∀ (t : Ty), t.sz ≤ N → t.ok = true → ∀ (v : Tm) (ct cs : Array Value) (B : Nat → Prop) (w : World) (at_ : Int), v.all.e = 0 → v.In w B ct → t.In w B cs → Sub B w → 0 ≤ at_ → at_ + v.pn ≤ 16384 →
  Calls Tryz.prog 33 #[.agg ct, .agg cs, .int .i64 at_] w (RIsE (t.has v) at_ w)
theorem RIsE.yes {x : Bool × Int} {at_ : Int} {w W : World} (hx : x.1 = true) (hb : Below w.heap.size w W) : RIsE x at_ w (.returned (.tuple #[.bool true, .int .i64 0])) W := by unfold RIsE; rw [hx]; exact ⟨rfl, hb⟩
theorem RIsE.no {x : Bool × Int} {at_ q : Int} {w W : World} (hx : x = (false, q)) (hb : Below w.heap.size w W) : RIsE x at_ w (.returned (.tuple #[.bool false, .int .i64 (at_ + q)])) W := by unfold RIsE; rw [hx]; exact ⟨rfl, hb⟩
theorem RIsE.no0 {x : Bool × Int} {at_ : Int} {w W : World} (hx : x = (false, 0)) (hb : Below w.heap.size w W) : RIsE x at_ w (.returned (.tuple #[.bool false, .int .i64 at_])) W := by unfold RIsE; rw [hx]; simp; exact hb

theorem Ty.In_all {k o : Int} {t : Tm} {p : TyL} {n : List ByteArray} {l : List Bool} {op : Bool} {c : ByteArray} {w : World} {B : Nat → Prop} {cs : Array Value} (h : (Ty.mk k o t p n l op c).In w B cs) :
    cs.size = 18 ∧ cs[0]? = some (.int .i64 k) ∧ cs[1]? = some (.int .i64 o) ∧ cs[16]? = some (.bool op) ∧ cs[17]? = some (.string c) ∧ ∃ ap cp an cn ak ck, cs[13]? = some (.slice ap p.len cp) ∧ cs[14]? = some (.slice an n.length cn) ∧ cs[15]? = some (.slice ak l.length ck) ∧ p.In w B ap 0 ∧ NamesAt w B an n ∧ BoolsAt w B ak l ∧
      (-9223372036854775808 ≤ k ∧ k ≤ 9223372036854775807) ∧ (p.len ≤ 70368744177664 ∧ n.length ≤ 70368744177664 ∧ l.length ≤ 140737488355328 ∧ c.size ≤ 140737488355328) := by
  simp only [Ty.In] at h
  obtain ⟨k1, b, i, f, tx, ab, nb, cb, rf, al, nl, cl, af, nf, cf, c1, vr, ap, cp, an, cn, ak, ck, rfl, -, hk, -, hz, hp, hn, hl⟩ := h
  exact ⟨rfl, rfl, rfl, rfl, rfl, ap, cp, an, cn, ak, ck, rfl, rfl, rfl, hp, hn, hl, hk, hz⟩
theorem Tm.In_all {k : Int} {b : Bool} {i : Int} {f : Nat} {tx by' : ByteArray} {rf : Int} {l : TmL} {fs : TmF} {c : ByteArray} {v : Int} {w : World} {B : Nat → Prop} {ct : Array Value} (h : (Tm.mk k b i f tx by' rf l fs c v).In w B ct) :
    ct.size = 11 ∧ ct[0]? = some (.int .i64 k) ∧ ct[9]? = some (.string c) ∧ ∃ al cl af cf, ct[7]? = some (.slice al l.len cl) ∧ ct[8]? = some (.slice af fs.len cf) ∧ l.In w B al 0 ∧ fs.In w B af 0 := by
  simp only [Tm.In] at h
  obtain ⟨ab, cb, al, cl, af, cf, rfl, -, -, hl, hf⟩ := h
  exact ⟨rfl, rfl, rfl, al, cl, af, cf, rfl, rfl, hl, hf⟩
/-- the two boxes of the parameters -/
theorem is_boxes (w : World) (ct cs : Array Value) : ∃ W2, (w.alloc (.cells ct 38)).alloc (.cells cs 43) = W2 ∧ Below w.heap.size w W2 ∧ W2.heap.size = w.heap.size + 1 + 1 ∧ W2.heap[w.heap.size]? = some (.cells ct 38 (0, 0)) ∧ W2.heap[w.heap.size + 1]? = some (.cells cs 43 (0, 0)) := by
  refine ⟨_, rfl, ((Below.refl _ _).alloc (Nat.le_refl _) _).alloc (by simp) _, by simp, ?_, ?_⟩
  · rw [heap_alloc_old _ _ (by simp)]; exact heap_alloc_new w _
  · have := heap_alloc_new (w.alloc (.cells ct 38)) (.cells cs 43)
    simpa using this

section
variable (k o : Int) (t : Tm) (p : TyL) (n : List ByteArray) (l : List Bool) (op : Bool) (c : ByteArray) (v : Tm) (ct cs : Array Value) (B : Nat → Prop) (w : World) (at_ : Int)
set_option maxRecDepth 100000 in
set_option maxHeartbeats 2000000 in
theorem ris_1 (hk : k = 1 ∨ k = 2) (hs : (Ty.mk k o t p n l op c).In w B cs) : Calls Tryz.prog 33 #[.agg ct, .agg cs, .int .i64 at_] w (RIsE ((Ty.mk k o t p n l op c).has v) at_ w) := by
  obtain ⟨hz, c0, -⟩ := Ty.In_all hs
  obtain ⟨W2, hW2, hb, -, -, b1⟩ := is_boxes w ct cs
  have d0 : W2.cell? ⟨w.heap.size + 1, 0, none⟩ = some (.int .i64 k) := by rw [cell_of_row _ _ _ _ _ _ b1]; exact c0
  have HB : Hid (Below w.heap.size w W2) := hb
  clear hs hz c0 b1 hb
  rcases hk with rfl | rfl
  · have HE : Hid (((Ty.mk 1 o t p n l op c).has v).1 = true) := by show _ = _; simp [Ty.has]
    go_enter Tryz.func33, Tryz.ntmps33
    go_wp2_with fail
    go_ret2
    exact RIsE.yes HE.out HB.out
  · have HE : Hid ((Ty.mk 2 o t p n l op c).has v = (false, 0)) := by show _ = _; simp [Ty.has]
    go_enter Tryz.func33, Tryz.ntmps33
    go_wp2_with fail
    go_ret2
    exact RIsE.no0 HE.out HB.out
set_option maxRecDepth 100000 in
set_option maxHeartbeats 2000000 in
theorem ris_3 (hs : (Ty.mk 3 o t p n l op c).In w B cs) (hv : v.In w B ct) : Calls Tryz.prog 33 #[.agg ct, .agg cs, .int .i64 at_] w (RIsE ((Ty.mk 3 o t p n l op c).has v) at_ w) := by
  obtain ⟨hz, c0, c1, -⟩ := Ty.In_all hs
  obtain ⟨W2, hW2, hb, -, b0, b1⟩ := is_boxes w ct cs
  have d0 : W2.cell? ⟨w.heap.size + 1, 0, none⟩ = some (.int .i64 3) := by rw [cell_of_row _ _ _ _ _ _ b1]; exact c0
  have d1 : W2.cell? ⟨w.heap.size + 1, 1, none⟩ = some (.int .i64 o) := by rw [cell_of_row _ _ _ _ _ _ b1]; exact c1
  have d2 : W2.cell? ⟨w.heap.size, 0, none⟩ = some (.int .i64 v.knd) := by rw [cell_of_row _ _ _ _ _ _ b0]; cases v; exact (Tm.In_all hv).2.1
  have HB : Hid (Below w.heap.size w W2) := hb
  have H : Hid ((Ty.mk 3 o t p n l op c).has v = (decide (v.knd = o), 0)) := by show _ = _; simp [Ty.has]
  clear hs hz c0 c1 b1 b0 hb hv
  generalize v.knd = kv at *
  by_cases hko : kv = o
  · have HE : Hid (((Ty.mk 3 o t p n l op c).has v).1 = true) := by show _ = _; rw [H.out]; simp [hko]
    have hkb : (kv == o) = true := by simp [hko]
    clear hko H
    go_enter Tryz.func33, Tryz.ntmps33
    go_wp2_with fail
    go_ret2
    exact RIsE.yes HE.out HB.out
  · have HE : Hid ((Ty.mk 3 o t p n l op c).has v = (false, 0)) := by show _ = _; rw [H.out]; simp [hko]
    have hkb : (kv == o) = false := by simp [hko]
    clear hko H
    go_enter Tryz.func33, Tryz.ntmps33
    go_wp2_with fail
    go_ret2
    exact RIsE.no0 HE.out HB.out
set_option maxRecDepth 100000 in
set_option maxHeartbeats 2000000 in
theorem ris_8 (hs : (Ty.mk 8 o t p n l op c).In w B cs) (hv : v.In w B ct) : Calls Tryz.prog 33 #[.agg ct, .agg cs, .int .i64 at_] w (RIsE ((Ty.mk 8 o t p n l op c).has v) at_ w) := by
  obtain ⟨hz, c0, -, -, c17, -⟩ := Ty.In_all hs
  obtain ⟨W2, hW2, hb, -, b0, b1⟩ := is_boxes w ct cs
  have d0 : W2.cell? ⟨w.heap.size + 1, 0, none⟩ = some (.int .i64 8) := by rw [cell_of_row _ _ _ _ _ _ b1]; exact c0
  have d1 : W2.cell? ⟨w.heap.size + 1, 17, none⟩ = some (.string c) := by rw [cell_of_row _ _ _ _ _ _ b1]; exact c17
  have d2 : W2.cell? ⟨w.heap.size, 0, none⟩ = some (.int .i64 v.knd) := by rw [cell_of_row _ _ _ _ _ _ b0]; cases v; exact (Tm.In_all hv).2.1
  have d3 : W2.cell? ⟨w.heap.size, 9, none⟩ = some (.string v.cls) := by rw [cell_of_row _ _ _ _ _ _ b0]; cases v; exact (Tm.In_all hv).2.2.1
  have HB : Hid (Below w.heap.size w W2) := hb
  have H : Hid ((Ty.mk 8 o t p n l op c).has v = (decide (v.knd = 10) && decide (Sp.cmpS v.cls c = 0), 0)) := by show _ = _; simp [Ty.has]
  clear hs hz c0 c17 b1 b0 hb hv
  generalize v.knd = kv at *
  generalize v.cls = vc at *
  have hso := same_of vc c
  generalize hdc : decide (Sp.cmpS vc c = 0) = q at *
  by_cases hk : kv = 10
  · subst hk
    cases q with
    | true =>
      have HE : Hid (((Ty.mk 8 o t p n l op c).has v).1 = true) := by show _ = _; rw [H.out]; rfl
      clear H
      go_enter Tryz.func33, Tryz.ntmps33
      go_wp2_with fail
      go_ret2
      exact RIsE.yes HE.out HB.out
    | false =>
      have HE : Hid ((Ty.mk 8 o t p n l op c).has v = (false, 0)) := by show _ = _; rw [H.out]; rfl
      clear H
      go_enter Tryz.func33, Tryz.ntmps33
      go_wp2_with fail
      go_ret2
      exact RIsE.no0 HE.out HB.out
  · have HE : Hid ((Ty.mk 8 o t p n l op c).has v = (false, 0)) := by show _ = _; rw [H.out]; simp [hk]
    have hkb : (kv == 10) = false := by simp [hk]
    clear H hk
    go_enter Tryz.func33, Tryz.ntmps33
    go_wp2_with fail
    go_ret2
    exact RIsE.no0 HE.out HB.out
end
end Go.Proofs.YtbjcabpmndhfmaaGreat

/- tenonref07.fits at types with parts. -/
namespace Go.Proofs.YtbjcabpmndhfmaaGreat
open Go.RowKit

mutual
theorem Ty.fitR_bd : (t : Ty) → ∀ d r, 0 ≤ r → (t.fitR d r).2 ≤ r ∧ ((t.fitR d r).1 = true → 0 ≤ (t.fitR d r).2)
  | .mk k o t p n l op c, d, r, h => by
    simp only [Ty.fitR]
    split
    · simp; omega
    split
    · simp; omega
    split
    · simp; omega
    split
    · have := TyL.fitR_bd p (d + 1) (r - 1) (by omega); exact ⟨by omega, this.2⟩
    · simp; omega
theorem TyL.fitR_bd : (l : TyL) → ∀ d r, 0 ≤ r → (l.fitR d r).2 ≤ r ∧ ((l.fitR d r).1 = true → 0 ≤ (l.fitR d r).2)
  | .nil, d, r, h => by simp [TyL.fitR]; omega
  | .cons t l, d, r, h => by
    have h1 := Ty.fitR_bd t d r h
    simp only [TyL.fitR]
    split
    · rename_i e
      have h2 := TyL.fitR_bd l d (t.fitR d r).2 (h1.2 e)
      exact ⟨by omega, h2.2⟩
    · simp; omega
end
/-- the three boxes of fits, the room being q -/
structure RB (w wr : World) (cs : Array Value) (q : Int) : Prop where
  bel : Below w.heap.size w wr
  b0 : wr.heap[w.heap.size]? = some (.cells #[.int .i64 q] 112 (0, 0))
  b1 : wr.heap[w.heap.size + 1]? = some (.cells cs 43 (0, 0))
  b2 : wr.heap[w.heap.size + 1 + 1]? = some (.cells #[.int .i64 0] 112 (0, 0))
theorem RB.later {w wr W : World} {cs : Array Value} {q : Int} (h : RB w wr cs q) (hW : Below wr.heap.size wr W) : RB w W cs q :=
  ⟨h.bel.trans (hW.mono h.bel.size), (hW.block _ (Array.getElem?_eq_some_iff.1 h.b0).1).trans h.b0, (hW.block _ (Array.getElem?_eq_some_iff.1 h.b1).1).trans h.b1, (hW.block _ (Array.getElem?_eq_some_iff.1 h.b2).1).trans h.b2⟩
theorem heap_set_ne (W : World) (b c : Nat) (v : Value) (h : c ≠ b) : (W.setCell ⟨b, 0, none⟩ v).heap[c]? = W.heap[c]? := Below.heap_setCell _ _ _ c h
theorem heap_set_same {W : World} {b : Nat} {u v : Value} {T : TypeId} (h : W.heap[b]? = some (.cells #[u] T (0, 0))) : (W.setCell ⟨b, 0, none⟩ v).heap[b]? = some (.cells #[v] T (0, 0)) := by
  obtain ⟨hlt, hk⟩ := Array.getElem?_eq_some_iff.1 h
  show (W.heap.modify b _)[b]? = _
  rw [Array.getElem?_eq_getElem (by rw [Array.size_modify]; exact hlt), Array.getElem_modify_self, hk]
  rfl
theorem RB.set {w wr : World} {cs : Array Value} {q : Int} (h : RB w wr cs q) (q' : Int) : RB w (wr.setCell ⟨w.heap.size, 0, none⟩ (.int .i64 q')) cs q' :=
  ⟨h.bel.setCell (p := ⟨w.heap.size, 0, none⟩) (Nat.le_refl _) _, heap_set_same h.b0, (heap_set_ne _ _ _ _ (by omega)).trans h.b1, (heap_set_ne _ _ _ _ (by omega)).trans h.b2⟩
theorem RB.cell0 {w wr : World} {cs : Array Value} {q : Int} (h : RB w wr cs q) : wr.cell? ⟨w.heap.size, 0, none⟩ = some (.int .i64 q) := by rw [cell_of_row _ _ _ _ _ _ h.b0]; rfl
theorem RB.cell2 {w wr : World} {cs : Array Value} {q : Int} (h : RB w wr cs q) : wr.cell? ⟨w.heap.size + 1 + 1, 0, none⟩ = some (.int .i64 0) := by rw [cell_of_row _ _ _ _ _ _ h.b2]; rfl
theorem RB.out {w wr : World} {cs : Array Value} {q : Int} (h : RB w wr cs q) (q' : Int) : (wr.setCell ⟨w.heap.size + 1 + 1, 0, none⟩ (.int .i64 q')).cell? ⟨w.heap.size + 1 + 1, 0, none⟩ = some (.int .i64 q') ∧ Below w.heap.size w (wr.setCell ⟨w.heap.size + 1 + 1, 0, none⟩ (.int .i64 q')) :=
  ⟨by rw [cell_of_row _ _ _ _ _ _ (heap_set_same h.b2)]; rfl, h.bel.setCell (p := ⟨w.heap.size + 1 + 1, 0, none⟩) (by show _ ≤ w.heap.size + 1 + 1; omega) _⟩
theorem RB.new (w : World) (cs : Array Value) (q : Int) : ∃ W3, ((w.alloc (.cells #[.int .i64 q] 112)).alloc (.cells cs 43)).alloc (.cells #[.int .i64 0] 112) = W3 ∧ RB w W3 cs q :=
  ⟨_, rfl, three_below w _ _ _, (three_boxes w cs _ _).1, (three_boxes w cs _ _).2.1, (three_boxes w cs _ _).2.2⟩

set_option maxRecDepth 100000 in
set_option maxHeartbeats 4000000 in
theorem rfit_5 (N : Nat) (HC : RFitC N) (o : Int) (t : Tm) (p : TyL) (hN : p.sz ≤ N) (n : List ByteArray) (l : List Bool) (op : Bool) (c : ByteArray) (cs : Array Value) (B : Nat → Prop) (w : World) (r d : Int) (hs : (Ty.mk 5 o t p n l op c).In w B cs) (hB : Sub B w) (h0 : 0 ≤ r) (h1 : r ≤ 16384) (h2 : 0 ≤ d) (h3 : d ≤ 65) (hr : ¬ r - 1 < 0) (hd : ¬ 64 < d) (hpl1 : p.len = 1) :
    Calls Tryz.prog 56 #[.agg #[.int .i64 r], .agg cs, .int .i64 d] w (RFitE ((Ty.mk 5 o t p n l op c).fitR d r) w) := by
  obtain ⟨hz, c0, -, -, -, ap, cp, an, cn, ak, ck, c13, c14, c15, hp, hn, hl, -, ⟨hpl, hnl, hll, -⟩⟩ := Ty.In_all hs
  obtain ⟨W3, hW3, hRB⟩ := RB.new w cs (r - 1)
  have HRB3 : Hid (RB w W3 cs (r - 1)) := hRB
  have d0 : W3.cell? ⟨w.heap.size + 1, 0, none⟩ = some (.int .i64 5) := by rw [cell_of_row _ _ _ _ _ _ hRB.b1]; exact c0
  have d13 : W3.cell? ⟨w.heap.size + 1, 13, none⟩ = some (.slice ap p.len cp) := by rw [cell_of_row _ _ _ _ _ _ hRB.b1]; exact c13
  have a0 := hRB.cell0
  have a2 := hRB.cell2
  have z2 := Lib.frozen_of_heap hRB.b2 0
  have HV : Hid (p.In w B ap 0 ∧ Sub B w ∧ RFitC N ∧ cs[13]? = some (.slice ap p.len cp)) := ⟨hp, hB, HC, c13⟩
  have hpar : Sp.parted 5 = true := rfl
  have HX : Hid ((Ty.mk 5 o t p n l op c).fitR d r = p.fitR (d + 1) (r - 1)) := by
    have how : (Ty.mk 5 o t p n l op c).own = true := by simp [Ty.own, hpl1]
    show _ = _; simp only [Ty.fitR]; rw [if_neg (by omega), if_neg (by decide), if_neg (by rw [how]; decide), hpar, if_pos rfl]
  clear hs hB HC hz c0 c13 c14 c15 hp hn hl hRB
  rw [hpl1] at d13
  go_enter Tryz.func56, Tryz.ntmps56
  go_wp2_with fail
  go_loopw [12] (fun x wr => ∃ (j : Nat) (l' : TyL) (q : Int), x = .int .i64 j ∧ l'.len + j = p.len ∧ l'.sz ≤ N ∧ 0 ≤ q ∧ q ≤ 16384 ∧ Hid (RB w wr cs q ∧ l'.In w B ap j ∧ p.fitR (d + 1) (r - 1) = l'.fitR (d + 1) q)) (fun x _ => p.len - (intOf x).toNat)
  case atStart => exact ⟨0, p, r - 1, rfl, rfl, hN, by omega, by omega, ⟨HRB3.out, HV.out.1, rfl⟩⟩
  case round =>
    obtain ⟨j, l', q, rfl, hlj, hlN, hq0, hq1, HK⟩ := hrel
    have HRB : Hid (RB w wr cs q) := HK.out.1
    have a0 := HRB.out.cell0
    have a2 := HRB.out.cell2
    have z2 := Lib.frozen_of_heap HRB.out.b2 0
    cases l' with
    | nil =>
      have hj' : p.len ≤ j := by simp [TyL.len] at hlj; omega
      have HR : Hid (p.fitR (d + 1) (r - 1) = (true, q)) := by show _ = _; rw [HK.out.2.2]; simp [TyL.fitR]
      clear hlj HK
      have HT := HRB.out.out q
      have HT : Hid ((wr.setCell ⟨w.heap.size + 1 + 1, 0, none⟩ (.int .i64 q)).cell? ⟨w.heap.size + 1 + 1, 0, none⟩ = some (.int .i64 q) ∧ Below w.heap.size w (wr.setCell ⟨w.heap.size + 1 + 1, 0, none⟩ (.int .i64 q))) := HT
      go_wp2_with fail
      have f2 := HT.out.1
      refine bodyPost_ret (v := .tuple #[.agg #[.int .i64 q], .bool true]) (by rw [results_cell_tmp (p := 6) (u := 7) (ty := 112) rfl]; simp [go_sem, f2]) rfl ?_
      exact RFitE.of (by rw [HX.out, HR.out]) HT.out.2
    | cons t' l' =>
      obtain ⟨-, hin, hfit⟩ := HK.out
      simp only [TyL.In] at hin
      obtain ⟨g, o1, cs', rfl, hgg, hcl, hti, hin'⟩ := hin
      have hj1 : j < p.len := by simp only [TyL.len] at hlj; omega
      have HJ : Hid (l'.len + (j + 1) = p.len) := by show _ = _; simp only [TyL.len] at hlj; omega
      have htN : t'.sz ≤ N ∧ l'.sz ≤ N := by simp [TyL.sz] at hlN; omega
      have hs' := (Ty.In_cells hti).1
      have hSm : ∀ W, RB w W cs q → W.cell? ⟨w.heap.size + 1, 13, none⟩ = some (.slice (some ⟨g, o1, none⟩) p.len cp) ∧ (loadVar 43 ⟨g, o1 + j * 18, none⟩).run Tryz.prog W = .ok (.agg cs') W := fun W hW => ⟨by rw [cell_of_row _ _ _ _ _ _ hW.b1]; exact HV.out.2.2.2, yldE hs' (fun x hx => by rw [(HV.out.2.1.same hW.bel).cell (p := ⟨g, o1 + j * 18 + x, none⟩) hgg]; exact hcl x hx)⟩
      have HS : Hid (∀ W, Below wr.heap.size wr W → W.cell? ⟨w.heap.size + 1, 13, none⟩ = some (.slice (some ⟨g, o1, none⟩) p.len cp) ∧ (loadVar 43 ⟨g, o1 + j * 18, none⟩).run Tryz.prog W = .ok (.agg cs') W) := fun W hW => hSm W (HRB.out.later hW)
      have HS2 : Hid (∀ (W : World) (q' : Int), Below wr.heap.size wr W → (W.setCell ⟨w.heap.size, 0, none⟩ (.int .i64 q')).cell? ⟨w.heap.size + 1, 13, none⟩ = some (.slice (some ⟨g, o1, none⟩) p.len cp) ∧ (loadVar 43 ⟨g, o1 + j * 18, none⟩).run Tryz.prog (W.setCell ⟨w.heap.size, 0, none⟩ (.int .i64 q')) = .ok (.agg cs') (W.setCell ⟨w.heap.size, 0, none⟩ (.int .i64 q'))) := fun W q' hW => by
        have hR := (HRB.out.later hW).set q'
        exact ⟨by rw [cell_of_row _ _ _ _ _ _ hR.b1]; exact HV.out.2.2.2, yldE hs' (fun x hx => by rw [(HV.out.2.1.same hR.bel).cell (p := ⟨g, o1 + j * 18 + x, none⟩) hgg]; exact hcl x hx)⟩
      have HO : Hid (∀ W, Below wr.heap.size wr W → Calls Tryz.prog 56 #[.agg #[.int .i64 q], .agg cs', .int .i64 (d + 1)] W (RFitE (t'.fitR (d + 1) q) W)) := fun W hW => by
        have hbW := (HRB.out.later hW).bel
        exact HV.out.2.2.1 t' htN.1 cs' B W q (d + 1) (t'.In_same (HV.out.2.1.same hbW) (fun _ h => h) cs' hti) (HV.out.2.1.later hbW) hq0 hq1 (by omega) (by omega)
      have hbd := Ty.fitR_bd t' (d + 1) q hq0
      have HF : Hid (p.fitR (d + 1) (r - 1) = if (t'.fitR (d + 1) q).1 then l'.fitR (d + 1) (t'.fitR (d + 1) q).2 else (false, (t'.fitR (d + 1) q).2)) := by show _ = _; rw [hfit]; simp only [TyL.fitR]
      have HIN : Hid (l'.In w B (some ⟨g, o1, none⟩) (j + 1)) := hin'
      have hi0 : (0 : Int) ≤ (j : Int) := Int.natCast_nonneg _
      have hi1 : (j : Int) < (p.len : Int) := by omega
      unfold RFitE at HO
      clear hlj hlN HK hin' hfit hcl hti hs' hgg hSm
      generalize t'.fitR (d + 1) q = x at *
      obtain ⟨xb, xq⟩ := x
      simp only at hbd HF HO
      have hdd : d + 1 ≤ 65 := by omega
      have hwd : IntKind.i64.wrap (d + 1) = d + 1 := wrap_small (by omega) (by omega)
      cases xb with
      | true =>
        have hx0 : 0 ≤ xq := hbd.2 rfl
        have hx1 : xq ≤ 16384 := by omega
        go_wp2_with fail
        refine wp_region_held_drew (S := fun W => W.cell? ⟨w.heap.size + 1, 13, none⟩ = some (.slice (some ⟨g, o1, none⟩) p.len cp) ∧ (loadVar 43 ⟨g, o1 + j * 18, none⟩).run Tryz.prog W = .ok (.agg cs') W) (by kernel_rfl) ?_ (fun hHeld => ?_)
        · exact HS.out _ (Below.refl _ _).drew
        refine wpAnyH_take (i := 1) (oi := { dst := some 135, op := Go.Op.fieldAddr 43 (Go.Operand.tmp 4) 3, type := 0, pos := "ref.go:53", after := #[], guard := none }) (v := ?_) rfl (by kernel_rfl) (by kernel_rfl) (by kernel_rfl) (fun _ _ _ h => h) (Or.inl ⟨by rfl, ?_⟩) (by assumption) ?_
        rotate_left
        · intro w hSw; (try dsimp only at hSw); go_simp; try (with_reducible rfl)
        simp only [Act.put, List.setIfInBounds_toArray, List.set_cons_zero, List.set_cons_succ]
        refine wpAnyH_take (i := 2) (oi := { dst := some 136, op := Go.Op.load 39 (Go.Operand.tmp 135), type := 39, pos := "ref.go:53", after := #[{ on := 1, ground := Go.Ground.data }], guard := none }) (v := ?_) rfl (by kernel_rfl) (by kernel_rfl) (by kernel_rfl) (fun _ _ _ h => h) (Or.inl ⟨by rfl, ?_⟩) (by assumption) ?_
        rotate_left
        · intro w hSw; (try dsimp only at hSw); go_simp; try (with_reducible rfl)
        simp only [Act.put, List.setIfInBounds_toArray, List.set_cons_zero, List.set_cons_succ]
        refine wpAnyH_take (i := 3) (oi := { dst := some 137, op := Go.Op.move (Go.Operand.tmp 12), type := 3, pos := "ref.go:53", after := #[], guard := none }) (v := ?_) rfl (by kernel_rfl) (by kernel_rfl) (by kernel_rfl) (fun _ _ _ h => h) (Or.inl ⟨by rfl, ?_⟩) (by assumption) ?_
        rotate_left
        · intro w hSw; (try dsimp only at hSw); go_simp; try (with_reducible rfl)
        simp only [Act.put, List.setIfInBounds_toArray, List.set_cons_zero, List.set_cons_succ]
        refine wpAnyH_take (i := 4) (oi := { dst := some 138, op := Go.Op.indexAddr 39 (Go.Operand.tmp 136) (Go.Operand.tmp 137), type := 0, pos := "ref.go:53", after := #[{ on := 2, ground := Go.Ground.data }, { on := 3, ground := Go.Ground.data }], guard := none }) (v := ?_) rfl (by kernel_rfl) (by kernel_rfl) (by kernel_rfl) (fun _ _ _ h => h) (Or.inl ⟨by rfl, ?_⟩) (by assumption) ?_
        rotate_left
        · intro w hSw; (try dsimp only at hSw); go_simp; try (with_reducible rfl)
        simp only [Act.put, List.setIfInBounds_toArray, List.set_cons_zero, List.set_cons_succ]
        refine wpAnyH_take (i := 5) (oi := { dst := some 139, op := Go.Op.load 43 (Go.Operand.tmp 138), type := 43, pos := "ref.go:53", after := #[{ on := 4, ground := Go.Ground.data }], guard := none }) (v := (.agg cs')) rfl (by kernel_rfl) (by kernel_rfl) (by kernel_rfl) (fun _ _ _ h => h) (take_ld rfl rfl rfl (fun w hSw => hSw.2)) (by assumption) ?_
        simp only [Act.put, List.setIfInBounds_toArray, List.set_cons_zero, List.set_cons_succ]
        refine wpAnyH_take (i := 6) (oi := { dst := some 140, op := Go.Op.move (Go.Operand.tmp 2), type := 3, pos := "ref.go:53", after := #[], guard := none }) (v := ?_) rfl (by kernel_rfl) (by kernel_rfl) (by kernel_rfl) (fun _ _ _ h => h) (Or.inl ⟨by rfl, ?_⟩) (by assumption) ?_
        rotate_left
        · intro w hSw; (try dsimp only at hSw); go_simp; try (with_reducible rfl)
        simp only [Act.put, List.setIfInBounds_toArray, List.set_cons_zero, List.set_cons_succ]
        refine wpAnyH_take (i := 7) (oi := { dst := some 141, op := Go.Op.binOp Go.BinOp.add 3 (Go.Operand.tmp 140) (Go.Operand.const (Go.Value.int Go.IntKind.i64 1)) 3, type := 3, pos := "ref.go:53", after := #[{ on := 6, ground := Go.Ground.data }], guard := none }) (v := ?_) rfl (by kernel_rfl) (by kernel_rfl) (by kernel_rfl) (fun _ _ _ h => h) (Or.inl ⟨by rfl, ?_⟩) (by assumption) ?_
        rotate_left
        · intro w hSw; (try dsimp only at hSw); go_simp; try (with_reducible rfl)
        simp only [Act.put, List.setIfInBounds_toArray, List.set_cons_zero, List.set_cons_succ]
        refine wpAnyH_ready (rs := [0]) (by kernel_rfl) (by simp) ?_
        refine AllReadyH.cons (o := { dst := some 134, op := Go.Op.load 112 (Go.Operand.tmp 3), type := 112, pos := "ref.go:53", after := #[], guard := none }) rfl (fun K hK => ?_) AllReadyH.nil
        go_simp
        refine hK.out _ _ ?_ (fun hHeld => ?_)
        · exact HS.out _ (Below.refl _ _).drew
        clear hK K
        try simp only [Act.put, List.setIfInBounds_toArray, List.set_cons_zero, List.set_cons_succ]
        refine wpAnyH_ready (rs := [8]) (by kernel_rfl) (by simp) ?_
        refine AllReadyH.cons (o := { dst := some 142, op := Go.Op.call { callee := Go.Callee.value (Go.Operand.func 56), args := #[Go.Operand.tmp 134, Go.Operand.tmp 139, Go.Operand.tmp 141], argTypes := #[112, 43, 3] }, type := 113, pos := "ref.go:53", after := #[{ on := 0, ground := Go.Ground.data }, { on := 5, ground := Go.Ground.data }, { on := 7, ground := Go.Ground.data }], guard := none }) rfl (fun K hK => ?_) AllReadyH.nil
        go_simp
        (refine (HO.out _ (Below.refl _ _).drew).mono ?_; rintro e w5 ⟨rfl, hb5⟩; have HB5 : Hid (Below wr.heap.size wr w5) := below_to (Below.refl _ _).drew hb5; clear hb5)
        go_wp2_with fail
        refine hK.out _ _ ?_ (fun hHeld => ?_)
        · exact HS.out _ HB5.out
        clear hK K
        refine wpAnyH_take (i := 9) (oi := { dst := some 133, op := Go.Op.move (Go.Operand.tmp 142), type := 113, pos := "ref.go:53", after := #[{ on := 8, ground := Go.Ground.data }], guard := none }) (v := ?_) rfl (by kernel_rfl) (by kernel_rfl) (by kernel_rfl) (fun _ _ _ h => h) (Or.inl ⟨by rfl, ?_⟩) (by assumption) ?_
        rotate_left
        · intro w hSw; (try dsimp only at hSw); go_simp; try (with_reducible rfl)
        simp only [Act.put, List.setIfInBounds_toArray, List.set_cons_zero, List.set_cons_succ]
        refine wpAnyH_take (i := 10) (oi := { dst := some 143, op := Go.Op.extract (Go.Operand.tmp 133) 0, type := 112, pos := "ref.go:53", after := #[{ on := 9, ground := Go.Ground.data }], guard := none }) (v := ?_) rfl (by kernel_rfl) (by kernel_rfl) (by kernel_rfl) (fun _ _ _ h => h) (Or.inl ⟨by rfl, ?_⟩) (by assumption) ?_
        rotate_left
        · intro w hSw; (try dsimp only at hSw); go_simp; try (with_reducible rfl)
        simp only [Act.put, List.setIfInBounds_toArray, List.set_cons_zero, List.set_cons_succ]
        refine wpAnyH_take (i := 11) (oi := { dst := some 144, op := Go.Op.extract (Go.Operand.tmp 133) 1, type := 4, pos := "ref.go:53", after := #[{ on := 9, ground := Go.Ground.data }, { on := 12, ground := Go.Ground.gcOnly Go.Departure.lateStores }], guard := none }) (v := ?_) rfl (by kernel_rfl) (by kernel_rfl) (by kernel_rfl) (fun _ _ _ h => h) (Or.inl ⟨by rfl, ?_⟩) (by assumption) ?_
        rotate_left
        · intro w hSw; (try dsimp only at hSw); go_simp; try (with_reducible rfl)
        simp only [Act.put, List.setIfInBounds_toArray, List.set_cons_zero, List.set_cons_succ]
        have y0 := (HRB.out.later HB5.out).cell0
        have z0 := Lib.frozen_of_heap (HRB.out.later HB5.out).b0 0
        refine wpAnyH_ready (rs := [12]) (by kernel_rfl) (by simp) ?_
        refine AllReadyH.cons (o := { dst := none, op := Go.Op.store 112 (Go.Operand.tmp 3) (Go.Operand.tmp 143), type := 0, pos := "ref.go:53", after := #[{ on := 10, ground := Go.Ground.data }, { on := 8, ground := Go.Ground.chain }, { on := 0, ground := Go.Ground.phase }, { on := 1, ground := Go.Ground.phase }, { on := 2, ground := Go.Ground.phase }, { on := 3, ground := Go.Ground.phase }, { on := 4, ground := Go.Ground.phase }, { on := 5, ground := Go.Ground.phase }, { on := 6, ground := Go.Ground.phase }, { on := 7, ground := Go.Ground.phase }, { on := 8, ground := Go.Ground.phase }, { on := 9, ground := Go.Ground.phase }, { on := 10, ground := Go.Ground.phase }, { on := 11, ground := Go.Ground.textOnly Go.Departure.lateStores }], guard := none }) rfl (fun K hK => ?_) AllReadyH.nil
        go_simp
        refine hK.out _ _ ?_ (fun hHeld => ?_)
        · exact HS2.out _ _ HB5.out
        clear hK K
        try simp only [Act.put, List.setIfInBounds_toArray, List.set_cons_zero, List.set_cons_succ]
        refine wpAnyH_take (i := 13) (oi := { dst := some 13, op := Go.Op.assign (Go.Operand.tmp 144), type := 4, pos := "ref.go:53", after := #[{ on := 11, ground := Go.Ground.data }, { on := 12, ground := Go.Ground.chain }, { on := 0, ground := Go.Ground.phase }, { on := 1, ground := Go.Ground.phase }, { on := 2, ground := Go.Ground.phase }, { on := 3, ground := Go.Ground.phase }, { on := 4, ground := Go.Ground.phase }, { on := 5, ground := Go.Ground.phase }, { on := 6, ground := Go.Ground.phase }, { on := 7, ground := Go.Ground.phase }, { on := 8, ground := Go.Ground.phase }, { on := 9, ground := Go.Ground.phase }, { on := 10, ground := Go.Ground.phase }, { on := 11, ground := Go.Ground.phase }, { on := 12, ground := Go.Ground.phase }], guard := none }) (v := ?_) rfl (by kernel_rfl) (by kernel_rfl) (by kernel_rfl) (fun _ _ _ h => h) (Or.inl ⟨by rfl, ?_⟩) (by assumption) ?_
        rotate_left
        · intro w hSw; (try dsimp only at hSw); go_simp; try (with_reducible rfl)
        simp only [Act.put, List.setIfInBounds_toArray, List.set_cons_zero, List.set_cons_succ]
        refine wpAnyH_done (by kernel_rfl) ?_ _
        have HR5 : Hid (RB w (w5.setCell ⟨w.heap.size, 0, none⟩ (.int .i64 xq)) cs xq) := (HRB.out.later HB5.out).set xq
        go_wp2_with fail
        go_roundw
        case rel => exact ⟨j + 1, l', xq, by go_num, HJ.out, htN.2, hx0, hx1, ⟨HR5.out, HIN.out, by rw [HF.out]; simp⟩⟩
        case measure => simp [intOf]; omega
      | false =>
        go_wp2_with fail
        refine wp_region_held_drew (S := fun W => W.cell? ⟨w.heap.size + 1, 13, none⟩ = some (.slice (some ⟨g, o1, none⟩) p.len cp) ∧ (loadVar 43 ⟨g, o1 + j * 18, none⟩).run Tryz.prog W = .ok (.agg cs') W) (by kernel_rfl) ?_ (fun hHeld => ?_)
        · exact HS.out _ (Below.refl _ _).drew
        refine wpAnyH_take (i := 1) (oi := { dst := some 135, op := Go.Op.fieldAddr 43 (Go.Operand.tmp 4) 3, type := 0, pos := "ref.go:53", after := #[], guard := none }) (v := ?_) rfl (by kernel_rfl) (by kernel_rfl) (by kernel_rfl) (fun _ _ _ h => h) (Or.inl ⟨by rfl, ?_⟩) (by assumption) ?_
        rotate_left
        · intro w hSw; (try dsimp only at hSw); go_simp; try (with_reducible rfl)
        simp only [Act.put, List.setIfInBounds_toArray, List.set_cons_zero, List.set_cons_succ]
        refine wpAnyH_take (i := 2) (oi := { dst := some 136, op := Go.Op.load 39 (Go.Operand.tmp 135), type := 39, pos := "ref.go:53", after := #[{ on := 1, ground := Go.Ground.data }], guard := none }) (v := ?_) rfl (by kernel_rfl) (by kernel_rfl) (by kernel_rfl) (fun _ _ _ h => h) (Or.inl ⟨by rfl, ?_⟩) (by assumption) ?_
        rotate_left
        · intro w hSw; (try dsimp only at hSw); go_simp; try (with_reducible rfl)
        simp only [Act.put, List.setIfInBounds_toArray, List.set_cons_zero, List.set_cons_succ]
        refine wpAnyH_take (i := 3) (oi := { dst := some 137, op := Go.Op.move (Go.Operand.tmp 12), type := 3, pos := "ref.go:53", after := #[], guard := none }) (v := ?_) rfl (by kernel_rfl) (by kernel_rfl) (by kernel_rfl) (fun _ _ _ h => h) (Or.inl ⟨by rfl, ?_⟩) (by assumption) ?_
        rotate_left
        · intro w hSw; (try dsimp only at hSw); go_simp; try (with_reducible rfl)
        simp only [Act.put, List.setIfInBounds_toArray, List.set_cons_zero, List.set_cons_succ]
        refine wpAnyH_take (i := 4) (oi := { dst := some 138, op := Go.Op.indexAddr 39 (Go.Operand.tmp 136) (Go.Operand.tmp 137), type := 0, pos := "ref.go:53", after := #[{ on := 2, ground := Go.Ground.data }, { on := 3, ground := Go.Ground.data }], guard := none }) (v := ?_) rfl (by kernel_rfl) (by kernel_rfl) (by kernel_rfl) (fun _ _ _ h => h) (Or.inl ⟨by rfl, ?_⟩) (by assumption) ?_
        rotate_left
        · intro w hSw; (try dsimp only at hSw); go_simp; try (with_reducible rfl)
        simp only [Act.put, List.setIfInBounds_toArray, List.set_cons_zero, List.set_cons_succ]
        refine wpAnyH_take (i := 5) (oi := { dst := some 139, op := Go.Op.load 43 (Go.Operand.tmp 138), type := 43, pos := "ref.go:53", after := #[{ on := 4, ground := Go.Ground.data }], guard := none }) (v := (.agg cs')) rfl (by kernel_rfl) (by kernel_rfl) (by kernel_rfl) (fun _ _ _ h => h) (take_ld rfl rfl rfl (fun w hSw => hSw.2)) (by assumption) ?_
        simp only [Act.put, List.setIfInBounds_toArray, List.set_cons_zero, List.set_cons_succ]
        refine wpAnyH_take (i := 6) (oi := { dst := some 140, op := Go.Op.move (Go.Operand.tmp 2), type := 3, pos := "ref.go:53", after := #[], guard := none }) (v := ?_) rfl (by kernel_rfl) (by kernel_rfl) (by kernel_rfl) (fun _ _ _ h => h) (Or.inl ⟨by rfl, ?_⟩) (by assumption) ?_
        rotate_left
        · intro w hSw; (try dsimp only at hSw); go_simp; try (with_reducible rfl)
        simp only [Act.put, List.setIfInBounds_toArray, List.set_cons_zero, List.set_cons_succ]
        refine wpAnyH_take (i := 7) (oi := { dst := some 141, op := Go.Op.binOp Go.BinOp.add 3 (Go.Operand.tmp 140) (Go.Operand.const (Go.Value.int Go.IntKind.i64 1)) 3, type := 3, pos := "ref.go:53", after := #[{ on := 6, ground := Go.Ground.data }], guard := none }) (v := ?_) rfl (by kernel_rfl) (by kernel_rfl) (by kernel_rfl) (fun _ _ _ h => h) (Or.inl ⟨by rfl, ?_⟩) (by assumption) ?_
        rotate_left
        · intro w hSw; (try dsimp only at hSw); go_simp; try (with_reducible rfl)
        simp only [Act.put, List.setIfInBounds_toArray, List.set_cons_zero, List.set_cons_succ]
        refine wpAnyH_ready (rs := [0]) (by kernel_rfl) (by simp) ?_
        refine AllReadyH.cons (o := { dst := some 134, op := Go.Op.load 112 (Go.Operand.tmp 3), type := 112, pos := "ref.go:53", after := #[], guard := none }) rfl (fun K hK => ?_) AllReadyH.nil
        go_simp
        refine hK.out _ _ ?_ (fun hHeld => ?_)
        · exact HS.out _ (Below.refl _ _).drew
        clear hK K
        try simp only [Act.put, List.setIfInBounds_toArray, List.set_cons_zero, List.set_cons_succ]
        refine wpAnyH_ready (rs := [8]) (by kernel_rfl) (by simp) ?_
        refine AllReadyH.cons (o := { dst := some 142, op := Go.Op.call { callee := Go.Callee.value (Go.Operand.func 56), args := #[Go.Operand.tmp 134, Go.Operand.tmp 139, Go.Operand.tmp 141], argTypes := #[112, 43, 3] }, type := 113, pos := "ref.go:53", after := #[{ on := 0, ground := Go.Ground.data }, { on := 5, ground := Go.Ground.data }, { on := 7, ground := Go.Ground.data }], guard := none }) rfl (fun K hK => ?_) AllReadyH.nil
        go_simp
        (refine (HO.out _ (Below.refl _ _).drew).mono ?_; rintro e w5 ⟨rfl, hb5⟩; have HB5 : Hid (Below wr.heap.size wr w5) := below_to (Below.refl _ _).drew hb5; clear hb5)
        go_wp2_with fail
        refine hK.out _ _ ?_ (fun hHeld => ?_)
        · exact HS.out _ HB5.out
        clear hK K
        refine wpAnyH_take (i := 9) (oi := { dst := some 133, op := Go.Op.move (Go.Operand.tmp 142), type := 113, pos := "ref.go:53", after := #[{ on := 8, ground := Go.Ground.data }], guard := none }) (v := ?_) rfl (by kernel_rfl) (by kernel_rfl) (by kernel_rfl) (fun _ _ _ h => h) (Or.inl ⟨by rfl, ?_⟩) (by assumption) ?_
        rotate_left
        · intro w hSw; (try dsimp only at hSw); go_simp; try (with_reducible rfl)
        simp only [Act.put, List.setIfInBounds_toArray, List.set_cons_zero, List.set_cons_succ]
        refine wpAnyH_take (i := 10) (oi := { dst := some 143, op := Go.Op.extract (Go.Operand.tmp 133) 0, type := 112, pos := "ref.go:53", after := #[{ on := 9, ground := Go.Ground.data }], guard := none }) (v := ?_) rfl (by kernel_rfl) (by kernel_rfl) (by kernel_rfl) (fun _ _ _ h => h) (Or.inl ⟨by rfl, ?_⟩) (by assumption) ?_
        rotate_left
        · intro w hSw; (try dsimp only at hSw); go_simp; try (with_reducible rfl)
        simp only [Act.put, List.setIfInBounds_toArray, List.set_cons_zero, List.set_cons_succ]
        refine wpAnyH_take (i := 11) (oi := { dst := some 144, op := Go.Op.extract (Go.Operand.tmp 133) 1, type := 4, pos := "ref.go:53", after := #[{ on := 9, ground := Go.Ground.data }, { on := 12, ground := Go.Ground.gcOnly Go.Departure.lateStores }], guard := none }) (v := ?_) rfl (by kernel_rfl) (by kernel_rfl) (by kernel_rfl) (fun _ _ _ h => h) (Or.inl ⟨by rfl, ?_⟩) (by assumption) ?_
        rotate_left
        · intro w hSw; (try dsimp only at hSw); go_simp; try (with_reducible rfl)
        simp only [Act.put, List.setIfInBounds_toArray, List.set_cons_zero, List.set_cons_succ]
        have y0 := (HRB.out.later HB5.out).cell0
        have z0 := Lib.frozen_of_heap (HRB.out.later HB5.out).b0 0
        refine wpAnyH_ready (rs := [12]) (by kernel_rfl) (by simp) ?_
        refine AllReadyH.cons (o := { dst := none, op := Go.Op.store 112 (Go.Operand.tmp 3) (Go.Operand.tmp 143), type := 0, pos := "ref.go:53", after := #[{ on := 10, ground := Go.Ground.data }, { on := 8, ground := Go.Ground.chain }, { on := 0, ground := Go.Ground.phase }, { on := 1, ground := Go.Ground.phase }, { on := 2, ground := Go.Ground.phase }, { on := 3, ground := Go.Ground.phase }, { on := 4, ground := Go.Ground.phase }, { on := 5, ground := Go.Ground.phase }, { on := 6, ground := Go.Ground.phase }, { on := 7, ground := Go.Ground.phase }, { on := 8, ground := Go.Ground.phase }, { on := 9, ground := Go.Ground.phase }, { on := 10, ground := Go.Ground.phase }, { on := 11, ground := Go.Ground.textOnly Go.Departure.lateStores }], guard := none }) rfl (fun K hK => ?_) AllReadyH.nil
        go_simp
        refine hK.out _ _ ?_ (fun hHeld => ?_)
        · exact HS2.out _ _ HB5.out
        clear hK K
        try simp only [Act.put, List.setIfInBounds_toArray, List.set_cons_zero, List.set_cons_succ]
        refine wpAnyH_take (i := 13) (oi := { dst := some 13, op := Go.Op.assign (Go.Operand.tmp 144), type := 4, pos := "ref.go:53", after := #[{ on := 11, ground := Go.Ground.data }, { on := 12, ground := Go.Ground.chain }, { on := 0, ground := Go.Ground.phase }, { on := 1, ground := Go.Ground.phase }, { on := 2, ground := Go.Ground.phase }, { on := 3, ground := Go.Ground.phase }, { on := 4, ground := Go.Ground.phase }, { on := 5, ground := Go.Ground.phase }, { on := 6, ground := Go.Ground.phase }, { on := 7, ground := Go.Ground.phase }, { on := 8, ground := Go.Ground.phase }, { on := 9, ground := Go.Ground.phase }, { on := 10, ground := Go.Ground.phase }, { on := 11, ground := Go.Ground.phase }, { on := 12, ground := Go.Ground.phase }], guard := none }) (v := ?_) rfl (by kernel_rfl) (by kernel_rfl) (by kernel_rfl) (fun _ _ _ h => h) (Or.inl ⟨by rfl, ?_⟩) (by assumption) ?_
        rotate_left
        · intro w hSw; (try dsimp only at hSw); go_simp; try (with_reducible rfl)
        simp only [Act.put, List.setIfInBounds_toArray, List.set_cons_zero, List.set_cons_succ]
        refine wpAnyH_done (by kernel_rfl) ?_ _
        have HR5 := (HRB.out.later HB5.out).set xq
        have u0 := HR5.cell0
        have u2 := HR5.cell2
        have v2 := Lib.frozen_of_heap HR5.b2 0
        have HT : Hid (((w5.setCell ⟨w.heap.size, 0, none⟩ (.int .i64 xq)).setCell ⟨w.heap.size + 1 + 1, 0, none⟩ (.int .i64 xq)).cell? ⟨w.heap.size + 1 + 1, 0, none⟩ = some (.int .i64 xq) ∧ Below w.heap.size w ((w5.setCell ⟨w.heap.size, 0, none⟩ (.int .i64 xq)).setCell ⟨w.heap.size + 1 + 1, 0, none⟩ (.int .i64 xq))) := HR5.out xq
        clear HR5
        generalize hw6 : w5.setCell ⟨w.heap.size, 0, none⟩ (.int .i64 xq) = w6 at *
        go_wp2_with fail
        have f2 := HT.out.1
        refine bodyPost_ret (v := .tuple #[.agg #[.int .i64 xq], .bool false]) (by rw [results_cell_tmp (p := 6) (u := 7) (ty := 112) rfl]; simp [go_sem, f2]) rfl ?_
        exact RFitE.of (by rw [HX.out, HF.out]; rfl) HT.out.2
set_option maxRecDepth 100000 in
set_option maxHeartbeats 4000000 in
theorem rfit_5n (N : Nat) (HC : RFitC N) (o : Int) (t : Tm) (p : TyL) (_hN : p.sz ≤ N) (n : List ByteArray) (l : List Bool) (op : Bool) (c : ByteArray) (cs : Array Value) (B : Nat → Prop) (w : World) (r d : Int) (hs : (Ty.mk 5 o t p n l op c).In w B cs) (hB : Sub B w) (h0 : 0 ≤ r) (h1 : r ≤ 16384) (h2 : 0 ≤ d) (h3 : d ≤ 65) (hr : ¬ r - 1 < 0) (hd : ¬ 64 < d) (hpl1 : p.len ≠ 1) :
    Calls Tryz.prog 56 #[.agg #[.int .i64 r], .agg cs, .int .i64 d] w (RFitE ((Ty.mk 5 o t p n l op c).fitR d r) w) := by
  obtain ⟨hz, c0, -, -, -, ap, cp, an, cn, ak, ck, c13, c14, c15, hp, hn, hl, -, ⟨hpl, hnl, hll, -⟩⟩ := Ty.In_all hs
  obtain ⟨W3, hW3, hRB⟩ := RB.new w cs (r - 1)
  have HRB3 : Hid (RB w W3 cs (r - 1)) := hRB
  have d0 : W3.cell? ⟨w.heap.size + 1, 0, none⟩ = some (.int .i64 5) := by rw [cell_of_row _ _ _ _ _ _ hRB.b1]; exact c0
  have d13 : W3.cell? ⟨w.heap.size + 1, 13, none⟩ = some (.slice ap p.len cp) := by rw [cell_of_row _ _ _ _ _ _ hRB.b1]; exact c13
  have a0 := hRB.cell0
  have a2 := hRB.cell2
  have z2 := Lib.frozen_of_heap hRB.b2 0
  have HV : Hid (p.In w B ap 0 ∧ Sub B w ∧ RFitC N ∧ cs[13]? = some (.slice ap p.len cp)) := ⟨hp, hB, HC, c13⟩
  have HX : Hid ((Ty.mk 5 o t p n l op c).fitR d r = (false, r - 1)) := by
    have how : (Ty.mk 5 o t p n l op c).own = false := by simp [Ty.own, hpl1]
    show _ = _; simp only [Ty.fitR]; rw [if_neg (by omega), if_neg (by decide), if_pos how]
  have hb : ((p.len : Int) == 1) = false := by simp; omega
  have HT : Hid ((W3.setCell ⟨w.heap.size + 1 + 1, 0, none⟩ (.int .i64 (r - 1))).cell? ⟨w.heap.size + 1 + 1, 0, none⟩ = some (.int .i64 (r - 1)) ∧ Below w.heap.size w (W3.setCell ⟨w.heap.size + 1 + 1, 0, none⟩ (.int .i64 (r - 1)))) := hRB.out (r - 1)
  clear hs hB HC hz c0 c13 c14 c15 hp hn hl hRB
  go_enter Tryz.func56, Tryz.ntmps56
  go_wp2_with fail
  have f2 := HT.out.1
  refine bodyPost_ret (v := .tuple #[.agg #[.int .i64 (r - 1)], .bool false]) (by rw [results_cell_tmp (p := 6) (u := 7) (ty := 112) rfl]; simp [go_sem, f2]) rfl ?_
  exact RFitE.of HX.out HT.out.2
set_option maxRecDepth 100000 in
set_option maxHeartbeats 4000000 in
theorem rfit_7 (N : Nat) (HC : RFitC N) (o : Int) (t : Tm) (p : TyL) (hN : p.sz ≤ N) (n : List ByteArray) (l : List Bool) (op : Bool) (c : ByteArray) (cs : Array Value) (B : Nat → Prop) (w : World) (r d : Int) (hs : (Ty.mk 7 o t p n l op c).In w B cs) (hB : Sub B w) (h0 : 0 ≤ r) (h1 : r ≤ 16384) (h2 : 0 ≤ d) (h3 : d ≤ 65) (hr : ¬ r - 1 < 0) (hd : ¬ 64 < d) (hpl1 : 2 ≤ p.len) :
    Calls Tryz.prog 56 #[.agg #[.int .i64 r], .agg cs, .int .i64 d] w (RFitE ((Ty.mk 7 o t p n l op c).fitR d r) w) := by
  obtain ⟨hz, c0, -, -, -, ap, cp, an, cn, ak, ck, c13, c14, c15, hp, hn, hl, -, ⟨hpl, hnl, hll, -⟩⟩ := Ty.In_all hs
  obtain ⟨W3, hW3, hRB⟩ := RB.new w cs (r - 1)
  have HRB3 : Hid (RB w W3 cs (r - 1)) := hRB
  have d0 : W3.cell? ⟨w.heap.size + 1, 0, none⟩ = some (.int .i64 7) := by rw [cell_of_row _ _ _ _ _ _ hRB.b1]; exact c0
  have d13 : W3.cell? ⟨w.heap.size + 1, 13, none⟩ = some (.slice ap p.len cp) := by rw [cell_of_row _ _ _ _ _ _ hRB.b1]; exact c13
  have a0 := hRB.cell0
  have a2 := hRB.cell2
  have z2 := Lib.frozen_of_heap hRB.b2 0
  have HV : Hid (p.In w B ap 0 ∧ Sub B w ∧ RFitC N ∧ cs[13]? = some (.slice ap p.len cp)) := ⟨hp, hB, HC, c13⟩
  have hpar : Sp.parted 7 = true := rfl
  have HX : Hid ((Ty.mk 7 o t p n l op c).fitR d r = p.fitR (d + 1) (r - 1)) := by
    have how : (Ty.mk 7 o t p n l op c).own = true := by simp [Ty.own, hpl1]
    show _ = _; simp only [Ty.fitR]; rw [if_neg (by omega), if_neg (by decide), if_neg (by rw [how]; decide), hpar, if_pos rfl]
  clear hs hB HC hz c0 c13 c14 c15 hp hn hl hRB
  go_enter Tryz.func56, Tryz.ntmps56
  go_wp2_with fail
  go_loopw [12] (fun x wr => ∃ (j : Nat) (l' : TyL) (q : Int), x = .int .i64 j ∧ l'.len + j = p.len ∧ l'.sz ≤ N ∧ 0 ≤ q ∧ q ≤ 16384 ∧ Hid (RB w wr cs q ∧ l'.In w B ap j ∧ p.fitR (d + 1) (r - 1) = l'.fitR (d + 1) q)) (fun x _ => p.len - (intOf x).toNat)
  case atStart => exact ⟨0, p, r - 1, rfl, rfl, hN, by omega, by omega, ⟨HRB3.out, HV.out.1, rfl⟩⟩
  case round =>
    obtain ⟨j, l', q, rfl, hlj, hlN, hq0, hq1, HK⟩ := hrel
    have HRB : Hid (RB w wr cs q) := HK.out.1
    have a0 := HRB.out.cell0
    have a2 := HRB.out.cell2
    have z2 := Lib.frozen_of_heap HRB.out.b2 0
    cases l' with
    | nil =>
      have hj' : p.len ≤ j := by simp [TyL.len] at hlj; omega
      have HR : Hid (p.fitR (d + 1) (r - 1) = (true, q)) := by show _ = _; rw [HK.out.2.2]; simp [TyL.fitR]
      clear hlj HK
      have HT := HRB.out.out q
      have HT : Hid ((wr.setCell ⟨w.heap.size + 1 + 1, 0, none⟩ (.int .i64 q)).cell? ⟨w.heap.size + 1 + 1, 0, none⟩ = some (.int .i64 q) ∧ Below w.heap.size w (wr.setCell ⟨w.heap.size + 1 + 1, 0, none⟩ (.int .i64 q))) := HT
      go_wp2_with fail
      have f2 := HT.out.1
      refine bodyPost_ret (v := .tuple #[.agg #[.int .i64 q], .bool true]) (by rw [results_cell_tmp (p := 6) (u := 7) (ty := 112) rfl]; simp [go_sem, f2]) rfl ?_
      exact RFitE.of (by rw [HX.out, HR.out]) HT.out.2
    | cons t' l' =>
      obtain ⟨-, hin, hfit⟩ := HK.out
      simp only [TyL.In] at hin
      obtain ⟨g, o1, cs', rfl, hgg, hcl, hti, hin'⟩ := hin
      have hj1 : j < p.len := by simp only [TyL.len] at hlj; omega
      have HJ : Hid (l'.len + (j + 1) = p.len) := by show _ = _; simp only [TyL.len] at hlj; omega
      have htN : t'.sz ≤ N ∧ l'.sz ≤ N := by simp [TyL.sz] at hlN; omega
      have hs' := (Ty.In_cells hti).1
      have hSm : ∀ W, RB w W cs q → W.cell? ⟨w.heap.size + 1, 13, none⟩ = some (.slice (some ⟨g, o1, none⟩) p.len cp) ∧ (loadVar 43 ⟨g, o1 + j * 18, none⟩).run Tryz.prog W = .ok (.agg cs') W := fun W hW => ⟨by rw [cell_of_row _ _ _ _ _ _ hW.b1]; exact HV.out.2.2.2, yldE hs' (fun x hx => by rw [(HV.out.2.1.same hW.bel).cell (p := ⟨g, o1 + j * 18 + x, none⟩) hgg]; exact hcl x hx)⟩
      have HS : Hid (∀ W, Below wr.heap.size wr W → W.cell? ⟨w.heap.size + 1, 13, none⟩ = some (.slice (some ⟨g, o1, none⟩) p.len cp) ∧ (loadVar 43 ⟨g, o1 + j * 18, none⟩).run Tryz.prog W = .ok (.agg cs') W) := fun W hW => hSm W (HRB.out.later hW)
      have HS2 : Hid (∀ (W : World) (q' : Int), Below wr.heap.size wr W → (W.setCell ⟨w.heap.size, 0, none⟩ (.int .i64 q')).cell? ⟨w.heap.size + 1, 13, none⟩ = some (.slice (some ⟨g, o1, none⟩) p.len cp) ∧ (loadVar 43 ⟨g, o1 + j * 18, none⟩).run Tryz.prog (W.setCell ⟨w.heap.size, 0, none⟩ (.int .i64 q')) = .ok (.agg cs') (W.setCell ⟨w.heap.size, 0, none⟩ (.int .i64 q'))) := fun W q' hW => by
        have hR := (HRB.out.later hW).set q'
        exact ⟨by rw [cell_of_row _ _ _ _ _ _ hR.b1]; exact HV.out.2.2.2, yldE hs' (fun x hx => by rw [(HV.out.2.1.same hR.bel).cell (p := ⟨g, o1 + j * 18 + x, none⟩) hgg]; exact hcl x hx)⟩
      have HO : Hid (∀ W, Below wr.heap.size wr W → Calls Tryz.prog 56 #[.agg #[.int .i64 q], .agg cs', .int .i64 (d + 1)] W (RFitE (t'.fitR (d + 1) q) W)) := fun W hW => by
        have hbW := (HRB.out.later hW).bel
        exact HV.out.2.2.1 t' htN.1 cs' B W q (d + 1) (t'.In_same (HV.out.2.1.same hbW) (fun _ h => h) cs' hti) (HV.out.2.1.later hbW) hq0 hq1 (by omega) (by omega)
      have hbd := Ty.fitR_bd t' (d + 1) q hq0
      have HF : Hid (p.fitR (d + 1) (r - 1) = if (t'.fitR (d + 1) q).1 then l'.fitR (d + 1) (t'.fitR (d + 1) q).2 else (false, (t'.fitR (d + 1) q).2)) := by show _ = _; rw [hfit]; simp only [TyL.fitR]
      have HIN : Hid (l'.In w B (some ⟨g, o1, none⟩) (j + 1)) := hin'
      have hi0 : (0 : Int) ≤ (j : Int) := Int.natCast_nonneg _
      have hi1 : (j : Int) < (p.len : Int) := by omega
      unfold RFitE at HO
      clear hlj hlN HK hin' hfit hcl hti hs' hgg hSm
      generalize t'.fitR (d + 1) q = x at *
      obtain ⟨xb, xq⟩ := x
      simp only at hbd HF HO
      have hdd : d + 1 ≤ 65 := by omega
      have hwd : IntKind.i64.wrap (d + 1) = d + 1 := wrap_small (by omega) (by omega)
      cases xb with
      | true =>
        have hx0 : 0 ≤ xq := hbd.2 rfl
        have hx1 : xq ≤ 16384 := by omega
        go_wp2_with fail
        refine wp_region_held_drew (S := fun W => W.cell? ⟨w.heap.size + 1, 13, none⟩ = some (.slice (some ⟨g, o1, none⟩) p.len cp) ∧ (loadVar 43 ⟨g, o1 + j * 18, none⟩).run Tryz.prog W = .ok (.agg cs') W) (by kernel_rfl) ?_ (fun hHeld => ?_)
        · exact HS.out _ (Below.refl _ _).drew
        refine wpAnyH_take (i := 1) (oi := { dst := some 135, op := Go.Op.fieldAddr 43 (Go.Operand.tmp 4) 3, type := 0, pos := "ref.go:53", after := #[], guard := none }) (v := ?_) rfl (by kernel_rfl) (by kernel_rfl) (by kernel_rfl) (fun _ _ _ h => h) (Or.inl ⟨by rfl, ?_⟩) (by assumption) ?_
        rotate_left
        · intro w hSw; (try dsimp only at hSw); go_simp; try (with_reducible rfl)
        simp only [Act.put, List.setIfInBounds_toArray, List.set_cons_zero, List.set_cons_succ]
        refine wpAnyH_take (i := 2) (oi := { dst := some 136, op := Go.Op.load 39 (Go.Operand.tmp 135), type := 39, pos := "ref.go:53", after := #[{ on := 1, ground := Go.Ground.data }], guard := none }) (v := ?_) rfl (by kernel_rfl) (by kernel_rfl) (by kernel_rfl) (fun _ _ _ h => h) (Or.inl ⟨by rfl, ?_⟩) (by assumption) ?_
        rotate_left
        · intro w hSw; (try dsimp only at hSw); go_simp; try (with_reducible rfl)
        simp only [Act.put, List.setIfInBounds_toArray, List.set_cons_zero, List.set_cons_succ]
        refine wpAnyH_take (i := 3) (oi := { dst := some 137, op := Go.Op.move (Go.Operand.tmp 12), type := 3, pos := "ref.go:53", after := #[], guard := none }) (v := ?_) rfl (by kernel_rfl) (by kernel_rfl) (by kernel_rfl) (fun _ _ _ h => h) (Or.inl ⟨by rfl, ?_⟩) (by assumption) ?_
        rotate_left
        · intro w hSw; (try dsimp only at hSw); go_simp; try (with_reducible rfl)
        simp only [Act.put, List.setIfInBounds_toArray, List.set_cons_zero, List.set_cons_succ]
        refine wpAnyH_take (i := 4) (oi := { dst := some 138, op := Go.Op.indexAddr 39 (Go.Operand.tmp 136) (Go.Operand.tmp 137), type := 0, pos := "ref.go:53", after := #[{ on := 2, ground := Go.Ground.data }, { on := 3, ground := Go.Ground.data }], guard := none }) (v := ?_) rfl (by kernel_rfl) (by kernel_rfl) (by kernel_rfl) (fun _ _ _ h => h) (Or.inl ⟨by rfl, ?_⟩) (by assumption) ?_
        rotate_left
        · intro w hSw; (try dsimp only at hSw); go_simp; try (with_reducible rfl)
        simp only [Act.put, List.setIfInBounds_toArray, List.set_cons_zero, List.set_cons_succ]
        refine wpAnyH_take (i := 5) (oi := { dst := some 139, op := Go.Op.load 43 (Go.Operand.tmp 138), type := 43, pos := "ref.go:53", after := #[{ on := 4, ground := Go.Ground.data }], guard := none }) (v := (.agg cs')) rfl (by kernel_rfl) (by kernel_rfl) (by kernel_rfl) (fun _ _ _ h => h) (take_ld rfl rfl rfl (fun w hSw => hSw.2)) (by assumption) ?_
        simp only [Act.put, List.setIfInBounds_toArray, List.set_cons_zero, List.set_cons_succ]
        refine wpAnyH_take (i := 6) (oi := { dst := some 140, op := Go.Op.move (Go.Operand.tmp 2), type := 3, pos := "ref.go:53", after := #[], guard := none }) (v := ?_) rfl (by kernel_rfl) (by kernel_rfl) (by kernel_rfl) (fun _ _ _ h => h) (Or.inl ⟨by rfl, ?_⟩) (by assumption) ?_
        rotate_left
        · intro w hSw; (try dsimp only at hSw); go_simp; try (with_reducible rfl)
        simp only [Act.put, List.setIfInBounds_toArray, List.set_cons_zero, List.set_cons_succ]
        refine wpAnyH_take (i := 7) (oi := { dst := some 141, op := Go.Op.binOp Go.BinOp.add 3 (Go.Operand.tmp 140) (Go.Operand.const (Go.Value.int Go.IntKind.i64 1)) 3, type := 3, pos := "ref.go:53", after := #[{ on := 6, ground := Go.Ground.data }], guard := none }) (v := ?_) rfl (by kernel_rfl) (by kernel_rfl) (by kernel_rfl) (fun _ _ _ h => h) (Or.inl ⟨by rfl, ?_⟩) (by assumption) ?_
        rotate_left
        · intro w hSw; (try dsimp only at hSw); go_simp; try (with_reducible rfl)
        simp only [Act.put, List.setIfInBounds_toArray, List.set_cons_zero, List.set_cons_succ]
        refine wpAnyH_ready (rs := [0]) (by kernel_rfl) (by simp) ?_
        refine AllReadyH.cons (o := { dst := some 134, op := Go.Op.load 112 (Go.Operand.tmp 3), type := 112, pos := "ref.go:53", after := #[], guard := none }) rfl (fun K hK => ?_) AllReadyH.nil
        go_simp
        refine hK.out _ _ ?_ (fun hHeld => ?_)
        · exact HS.out _ (Below.refl _ _).drew
        clear hK K
        try simp only [Act.put, List.setIfInBounds_toArray, List.set_cons_zero, List.set_cons_succ]
        refine wpAnyH_ready (rs := [8]) (by kernel_rfl) (by simp) ?_
        refine AllReadyH.cons (o := { dst := some 142, op := Go.Op.call { callee := Go.Callee.value (Go.Operand.func 56), args := #[Go.Operand.tmp 134, Go.Operand.tmp 139, Go.Operand.tmp 141], argTypes := #[112, 43, 3] }, type := 113, pos := "ref.go:53", after := #[{ on := 0, ground := Go.Ground.data }, { on := 5, ground := Go.Ground.data }, { on := 7, ground := Go.Ground.data }], guard := none }) rfl (fun K hK => ?_) AllReadyH.nil
        go_simp
        (refine (HO.out _ (Below.refl _ _).drew).mono ?_; rintro e w5 ⟨rfl, hb5⟩; have HB5 : Hid (Below wr.heap.size wr w5) := below_to (Below.refl _ _).drew hb5; clear hb5)
        go_wp2_with fail
        refine hK.out _ _ ?_ (fun hHeld => ?_)
        · exact HS.out _ HB5.out
        clear hK K
        refine wpAnyH_take (i := 9) (oi := { dst := some 133, op := Go.Op.move (Go.Operand.tmp 142), type := 113, pos := "ref.go:53", after := #[{ on := 8, ground := Go.Ground.data }], guard := none }) (v := ?_) rfl (by kernel_rfl) (by kernel_rfl) (by kernel_rfl) (fun _ _ _ h => h) (Or.inl ⟨by rfl, ?_⟩) (by assumption) ?_
        rotate_left
        · intro w hSw; (try dsimp only at hSw); go_simp; try (with_reducible rfl)
        simp only [Act.put, List.setIfInBounds_toArray, List.set_cons_zero, List.set_cons_succ]
        refine wpAnyH_take (i := 10) (oi := { dst := some 143, op := Go.Op.extract (Go.Operand.tmp 133) 0, type := 112, pos := "ref.go:53", after := #[{ on := 9, ground := Go.Ground.data }], guard := none }) (v := ?_) rfl (by kernel_rfl) (by kernel_rfl) (by kernel_rfl) (fun _ _ _ h => h) (Or.inl ⟨by rfl, ?_⟩) (by assumption) ?_
        rotate_left
        · intro w hSw; (try dsimp only at hSw); go_simp; try (with_reducible rfl)
        simp only [Act.put, List.setIfInBounds_toArray, List.set_cons_zero, List.set_cons_succ]
        refine wpAnyH_take (i := 11) (oi := { dst := some 144, op := Go.Op.extract (Go.Operand.tmp 133) 1, type := 4, pos := "ref.go:53", after := #[{ on := 9, ground := Go.Ground.data }, { on := 12, ground := Go.Ground.gcOnly Go.Departure.lateStores }], guard := none }) (v := ?_) rfl (by kernel_rfl) (by kernel_rfl) (by kernel_rfl) (fun _ _ _ h => h) (Or.inl ⟨by rfl, ?_⟩) (by assumption) ?_
        rotate_left
        · intro w hSw; (try dsimp only at hSw); go_simp; try (with_reducible rfl)
        simp only [Act.put, List.setIfInBounds_toArray, List.set_cons_zero, List.set_cons_succ]
        have y0 := (HRB.out.later HB5.out).cell0
        have z0 := Lib.frozen_of_heap (HRB.out.later HB5.out).b0 0
        refine wpAnyH_ready (rs := [12]) (by kernel_rfl) (by simp) ?_
        refine AllReadyH.cons (o := { dst := none, op := Go.Op.store 112 (Go.Operand.tmp 3) (Go.Operand.tmp 143), type := 0, pos := "ref.go:53", after := #[{ on := 10, ground := Go.Ground.data }, { on := 8, ground := Go.Ground.chain }, { on := 0, ground := Go.Ground.phase }, { on := 1, ground := Go.Ground.phase }, { on := 2, ground := Go.Ground.phase }, { on := 3, ground := Go.Ground.phase }, { on := 4, ground := Go.Ground.phase }, { on := 5, ground := Go.Ground.phase }, { on := 6, ground := Go.Ground.phase }, { on := 7, ground := Go.Ground.phase }, { on := 8, ground := Go.Ground.phase }, { on := 9, ground := Go.Ground.phase }, { on := 10, ground := Go.Ground.phase }, { on := 11, ground := Go.Ground.textOnly Go.Departure.lateStores }], guard := none }) rfl (fun K hK => ?_) AllReadyH.nil
        go_simp
        refine hK.out _ _ ?_ (fun hHeld => ?_)
        · exact HS2.out _ _ HB5.out
        clear hK K
        try simp only [Act.put, List.setIfInBounds_toArray, List.set_cons_zero, List.set_cons_succ]
        refine wpAnyH_take (i := 13) (oi := { dst := some 13, op := Go.Op.assign (Go.Operand.tmp 144), type := 4, pos := "ref.go:53", after := #[{ on := 11, ground := Go.Ground.data }, { on := 12, ground := Go.Ground.chain }, { on := 0, ground := Go.Ground.phase }, { on := 1, ground := Go.Ground.phase }, { on := 2, ground := Go.Ground.phase }, { on := 3, ground := Go.Ground.phase }, { on := 4, ground := Go.Ground.phase }, { on := 5, ground := Go.Ground.phase }, { on := 6, ground := Go.Ground.phase }, { on := 7, ground := Go.Ground.phase }, { on := 8, ground := Go.Ground.phase }, { on := 9, ground := Go.Ground.phase }, { on := 10, ground := Go.Ground.phase }, { on := 11, ground := Go.Ground.phase }, { on := 12, ground := Go.Ground.phase }], guard := none }) (v := ?_) rfl (by kernel_rfl) (by kernel_rfl) (by kernel_rfl) (fun _ _ _ h => h) (Or.inl ⟨by rfl, ?_⟩) (by assumption) ?_
        rotate_left
        · intro w hSw; (try dsimp only at hSw); go_simp; try (with_reducible rfl)
        simp only [Act.put, List.setIfInBounds_toArray, List.set_cons_zero, List.set_cons_succ]
        refine wpAnyH_done (by kernel_rfl) ?_ _
        have HR5 : Hid (RB w (w5.setCell ⟨w.heap.size, 0, none⟩ (.int .i64 xq)) cs xq) := (HRB.out.later HB5.out).set xq
        go_wp2_with fail
        go_roundw
        case rel => exact ⟨j + 1, l', xq, by go_num, HJ.out, htN.2, hx0, hx1, ⟨HR5.out, HIN.out, by rw [HF.out]; simp⟩⟩
        case measure => simp [intOf]; omega
      | false =>
        go_wp2_with fail
        refine wp_region_held_drew (S := fun W => W.cell? ⟨w.heap.size + 1, 13, none⟩ = some (.slice (some ⟨g, o1, none⟩) p.len cp) ∧ (loadVar 43 ⟨g, o1 + j * 18, none⟩).run Tryz.prog W = .ok (.agg cs') W) (by kernel_rfl) ?_ (fun hHeld => ?_)
        · exact HS.out _ (Below.refl _ _).drew
        refine wpAnyH_take (i := 1) (oi := { dst := some 135, op := Go.Op.fieldAddr 43 (Go.Operand.tmp 4) 3, type := 0, pos := "ref.go:53", after := #[], guard := none }) (v := ?_) rfl (by kernel_rfl) (by kernel_rfl) (by kernel_rfl) (fun _ _ _ h => h) (Or.inl ⟨by rfl, ?_⟩) (by assumption) ?_
        rotate_left
        · intro w hSw; (try dsimp only at hSw); go_simp; try (with_reducible rfl)
        simp only [Act.put, List.setIfInBounds_toArray, List.set_cons_zero, List.set_cons_succ]
        refine wpAnyH_take (i := 2) (oi := { dst := some 136, op := Go.Op.load 39 (Go.Operand.tmp 135), type := 39, pos := "ref.go:53", after := #[{ on := 1, ground := Go.Ground.data }], guard := none }) (v := ?_) rfl (by kernel_rfl) (by kernel_rfl) (by kernel_rfl) (fun _ _ _ h => h) (Or.inl ⟨by rfl, ?_⟩) (by assumption) ?_
        rotate_left
        · intro w hSw; (try dsimp only at hSw); go_simp; try (with_reducible rfl)
        simp only [Act.put, List.setIfInBounds_toArray, List.set_cons_zero, List.set_cons_succ]
        refine wpAnyH_take (i := 3) (oi := { dst := some 137, op := Go.Op.move (Go.Operand.tmp 12), type := 3, pos := "ref.go:53", after := #[], guard := none }) (v := ?_) rfl (by kernel_rfl) (by kernel_rfl) (by kernel_rfl) (fun _ _ _ h => h) (Or.inl ⟨by rfl, ?_⟩) (by assumption) ?_
        rotate_left
        · intro w hSw; (try dsimp only at hSw); go_simp; try (with_reducible rfl)
        simp only [Act.put, List.setIfInBounds_toArray, List.set_cons_zero, List.set_cons_succ]
        refine wpAnyH_take (i := 4) (oi := { dst := some 138, op := Go.Op.indexAddr 39 (Go.Operand.tmp 136) (Go.Operand.tmp 137), type := 0, pos := "ref.go:53", after := #[{ on := 2, ground := Go.Ground.data }, { on := 3, ground := Go.Ground.data }], guard := none }) (v := ?_) rfl (by kernel_rfl) (by kernel_rfl) (by kernel_rfl) (fun _ _ _ h => h) (Or.inl ⟨by rfl, ?_⟩) (by assumption) ?_
        rotate_left
        · intro w hSw; (try dsimp only at hSw); go_simp; try (with_reducible rfl)
        simp only [Act.put, List.setIfInBounds_toArray, List.set_cons_zero, List.set_cons_succ]
        refine wpAnyH_take (i := 5) (oi := { dst := some 139, op := Go.Op.load 43 (Go.Operand.tmp 138), type := 43, pos := "ref.go:53", after := #[{ on := 4, ground := Go.Ground.data }], guard := none }) (v := (.agg cs')) rfl (by kernel_rfl) (by kernel_rfl) (by kernel_rfl) (fun _ _ _ h => h) (take_ld rfl rfl rfl (fun w hSw => hSw.2)) (by assumption) ?_
        simp only [Act.put, List.setIfInBounds_toArray, List.set_cons_zero, List.set_cons_succ]
        refine wpAnyH_take (i := 6) (oi := { dst := some 140, op := Go.Op.move (Go.Operand.tmp 2), type := 3, pos := "ref.go:53", after := #[], guard := none }) (v := ?_) rfl (by kernel_rfl) (by kernel_rfl) (by kernel_rfl) (fun _ _ _ h => h) (Or.inl ⟨by rfl, ?_⟩) (by assumption) ?_
        rotate_left
        · intro w hSw; (try dsimp only at hSw); go_simp; try (with_reducible rfl)
        simp only [Act.put, List.setIfInBounds_toArray, List.set_cons_zero, List.set_cons_succ]
        refine wpAnyH_take (i := 7) (oi := { dst := some 141, op := Go.Op.binOp Go.BinOp.add 3 (Go.Operand.tmp 140) (Go.Operand.const (Go.Value.int Go.IntKind.i64 1)) 3, type := 3, pos := "ref.go:53", after := #[{ on := 6, ground := Go.Ground.data }], guard := none }) (v := ?_) rfl (by kernel_rfl) (by kernel_rfl) (by kernel_rfl) (fun _ _ _ h => h) (Or.inl ⟨by rfl, ?_⟩) (by assumption) ?_
        rotate_left
        · intro w hSw; (try dsimp only at hSw); go_simp; try (with_reducible rfl)
        simp only [Act.put, List.setIfInBounds_toArray, List.set_cons_zero, List.set_cons_succ]
        refine wpAnyH_ready (rs := [0]) (by kernel_rfl) (by simp) ?_
        refine AllReadyH.cons (o := { dst := some 134, op := Go.Op.load 112 (Go.Operand.tmp 3), type := 112, pos := "ref.go:53", after := #[], guard := none }) rfl (fun K hK => ?_) AllReadyH.nil
        go_simp
        refine hK.out _ _ ?_ (fun hHeld => ?_)
        · exact HS.out _ (Below.refl _ _).drew
        clear hK K
        try simp only [Act.put, List.setIfInBounds_toArray, List.set_cons_zero, List.set_cons_succ]
        refine wpAnyH_ready (rs := [8]) (by kernel_rfl) (by simp) ?_
        refine AllReadyH.cons (o := { dst := some 142, op := Go.Op.call { callee := Go.Callee.value (Go.Operand.func 56), args := #[Go.Operand.tmp 134, Go.Operand.tmp 139, Go.Operand.tmp 141], argTypes := #[112, 43, 3] }, type := 113, pos := "ref.go:53", after := #[{ on := 0, ground := Go.Ground.data }, { on := 5, ground := Go.Ground.data }, { on := 7, ground := Go.Ground.data }], guard := none }) rfl (fun K hK => ?_) AllReadyH.nil
        go_simp
        (refine (HO.out _ (Below.refl _ _).drew).mono ?_; rintro e w5 ⟨rfl, hb5⟩; have HB5 : Hid (Below wr.heap.size wr w5) := below_to (Below.refl _ _).drew hb5; clear hb5)
        go_wp2_with fail
        refine hK.out _ _ ?_ (fun hHeld => ?_)
        · exact HS.out _ HB5.out
        clear hK K
        refine wpAnyH_take (i := 9) (oi := { dst := some 133, op := Go.Op.move (Go.Operand.tmp 142), type := 113, pos := "ref.go:53", after := #[{ on := 8, ground := Go.Ground.data }], guard := none }) (v := ?_) rfl (by kernel_rfl) (by kernel_rfl) (by kernel_rfl) (fun _ _ _ h => h) (Or.inl ⟨by rfl, ?_⟩) (by assumption) ?_
        rotate_left
        · intro w hSw; (try dsimp only at hSw); go_simp; try (with_reducible rfl)
        simp only [Act.put, List.setIfInBounds_toArray, List.set_cons_zero, List.set_cons_succ]
        refine wpAnyH_take (i := 10) (oi := { dst := some 143, op := Go.Op.extract (Go.Operand.tmp 133) 0, type := 112, pos := "ref.go:53", after := #[{ on := 9, ground := Go.Ground.data }], guard := none }) (v := ?_) rfl (by kernel_rfl) (by kernel_rfl) (by kernel_rfl) (fun _ _ _ h => h) (Or.inl ⟨by rfl, ?_⟩) (by assumption) ?_
        rotate_left
        · intro w hSw; (try dsimp only at hSw); go_simp; try (with_reducible rfl)
        simp only [Act.put, List.setIfInBounds_toArray, List.set_cons_zero, List.set_cons_succ]
        refine wpAnyH_take (i := 11) (oi := { dst := some 144, op := Go.Op.extract (Go.Operand.tmp 133) 1, type := 4, pos := "ref.go:53", after := #[{ on := 9, ground := Go.Ground.data }, { on := 12, ground := Go.Ground.gcOnly Go.Departure.lateStores }], guard := none }) (v := ?_) rfl (by kernel_rfl) (by kernel_rfl) (by kernel_rfl) (fun _ _ _ h => h) (Or.inl ⟨by rfl, ?_⟩) (by assumption) ?_
        rotate_left
        · intro w hSw; (try dsimp only at hSw); go_simp; try (with_reducible rfl)
        simp only [Act.put, List.setIfInBounds_toArray, List.set_cons_zero, List.set_cons_succ]
        have y0 := (HRB.out.later HB5.out).cell0
        have z0 := Lib.frozen_of_heap (HRB.out.later HB5.out).b0 0
        refine wpAnyH_ready (rs := [12]) (by kernel_rfl) (by simp) ?_
        refine AllReadyH.cons (o := { dst := none, op := Go.Op.store 112 (Go.Operand.tmp 3) (Go.Operand.tmp 143), type := 0, pos := "ref.go:53", after := #[{ on := 10, ground := Go.Ground.data }, { on := 8, ground := Go.Ground.chain }, { on := 0, ground := Go.Ground.phase }, { on := 1, ground := Go.Ground.phase }, { on := 2, ground := Go.Ground.phase }, { on := 3, ground := Go.Ground.phase }, { on := 4, ground := Go.Ground.phase }, { on := 5, ground := Go.Ground.phase }, { on := 6, ground := Go.Ground.phase }, { on := 7, ground := Go.Ground.phase }, { on := 8, ground := Go.Ground.phase }, { on := 9, ground := Go.Ground.phase }, { on := 10, ground := Go.Ground.phase }, { on := 11, ground := Go.Ground.textOnly Go.Departure.lateStores }], guard := none }) rfl (fun K hK => ?_) AllReadyH.nil
        go_simp
        refine hK.out _ _ ?_ (fun hHeld => ?_)
        · exact HS2.out _ _ HB5.out
        clear hK K
        try simp only [Act.put, List.setIfInBounds_toArray, List.set_cons_zero, List.set_cons_succ]
        refine wpAnyH_take (i := 13) (oi := { dst := some 13, op := Go.Op.assign (Go.Operand.tmp 144), type := 4, pos := "ref.go:53", after := #[{ on := 11, ground := Go.Ground.data }, { on := 12, ground := Go.Ground.chain }, { on := 0, ground := Go.Ground.phase }, { on := 1, ground := Go.Ground.phase }, { on := 2, ground := Go.Ground.phase }, { on := 3, ground := Go.Ground.phase }, { on := 4, ground := Go.Ground.phase }, { on := 5, ground := Go.Ground.phase }, { on := 6, ground := Go.Ground.phase }, { on := 7, ground := Go.Ground.phase }, { on := 8, ground := Go.Ground.phase }, { on := 9, ground := Go.Ground.phase }, { on := 10, ground := Go.Ground.phase }, { on := 11, ground := Go.Ground.phase }, { on := 12, ground := Go.Ground.phase }], guard := none }) (v := ?_) rfl (by kernel_rfl) (by kernel_rfl) (by kernel_rfl) (fun _ _ _ h => h) (Or.inl ⟨by rfl, ?_⟩) (by assumption) ?_
        rotate_left
        · intro w hSw; (try dsimp only at hSw); go_simp; try (with_reducible rfl)
        simp only [Act.put, List.setIfInBounds_toArray, List.set_cons_zero, List.set_cons_succ]
        refine wpAnyH_done (by kernel_rfl) ?_ _
        have HR5 := (HRB.out.later HB5.out).set xq
        have u0 := HR5.cell0
        have u2 := HR5.cell2
        have v2 := Lib.frozen_of_heap HR5.b2 0
        have HT : Hid (((w5.setCell ⟨w.heap.size, 0, none⟩ (.int .i64 xq)).setCell ⟨w.heap.size + 1 + 1, 0, none⟩ (.int .i64 xq)).cell? ⟨w.heap.size + 1 + 1, 0, none⟩ = some (.int .i64 xq) ∧ Below w.heap.size w ((w5.setCell ⟨w.heap.size, 0, none⟩ (.int .i64 xq)).setCell ⟨w.heap.size + 1 + 1, 0, none⟩ (.int .i64 xq))) := HR5.out xq
        clear HR5
        generalize hw6 : w5.setCell ⟨w.heap.size, 0, none⟩ (.int .i64 xq) = w6 at *
        go_wp2_with fail
        have f2 := HT.out.1
        refine bodyPost_ret (v := .tuple #[.agg #[.int .i64 xq], .bool false]) (by rw [results_cell_tmp (p := 6) (u := 7) (ty := 112) rfl]; simp [go_sem, f2]) rfl ?_
        exact RFitE.of (by rw [HX.out, HF.out]; rfl) HT.out.2
set_option maxRecDepth 100000 in
set_option maxHeartbeats 4000000 in
theorem rfit_7n (N : Nat) (HC : RFitC N) (o : Int) (t : Tm) (p : TyL) (_hN : p.sz ≤ N) (n : List ByteArray) (l : List Bool) (op : Bool) (c : ByteArray) (cs : Array Value) (B : Nat → Prop) (w : World) (r d : Int) (hs : (Ty.mk 7 o t p n l op c).In w B cs) (hB : Sub B w) (h0 : 0 ≤ r) (h1 : r ≤ 16384) (h2 : 0 ≤ d) (h3 : d ≤ 65) (hr : ¬ r - 1 < 0) (hd : ¬ 64 < d) (hpl1 : ¬ 2 ≤ p.len) :
    Calls Tryz.prog 56 #[.agg #[.int .i64 r], .agg cs, .int .i64 d] w (RFitE ((Ty.mk 7 o t p n l op c).fitR d r) w) := by
  obtain ⟨hz, c0, -, -, -, ap, cp, an, cn, ak, ck, c13, c14, c15, hp, hn, hl, -, ⟨hpl, hnl, hll, -⟩⟩ := Ty.In_all hs
  obtain ⟨W3, hW3, hRB⟩ := RB.new w cs (r - 1)
  have HRB3 : Hid (RB w W3 cs (r - 1)) := hRB
  have d0 : W3.cell? ⟨w.heap.size + 1, 0, none⟩ = some (.int .i64 7) := by rw [cell_of_row _ _ _ _ _ _ hRB.b1]; exact c0
  have d13 : W3.cell? ⟨w.heap.size + 1, 13, none⟩ = some (.slice ap p.len cp) := by rw [cell_of_row _ _ _ _ _ _ hRB.b1]; exact c13
  have a0 := hRB.cell0
  have a2 := hRB.cell2
  have z2 := Lib.frozen_of_heap hRB.b2 0
  have HV : Hid (p.In w B ap 0 ∧ Sub B w ∧ RFitC N ∧ cs[13]? = some (.slice ap p.len cp)) := ⟨hp, hB, HC, c13⟩
  have HX : Hid ((Ty.mk 7 o t p n l op c).fitR d r = (false, r - 1)) := by
    have how : (Ty.mk 7 o t p n l op c).own = false := by simp [Ty.own]; omega
    show _ = _; simp only [Ty.fitR]; rw [if_neg (by omega), if_neg (by decide), if_pos how]
  have HT : Hid ((W3.setCell ⟨w.heap.size + 1 + 1, 0, none⟩ (.int .i64 (r - 1))).cell? ⟨w.heap.size + 1 + 1, 0, none⟩ = some (.int .i64 (r - 1)) ∧ Below w.heap.size w (W3.setCell ⟨w.heap.size + 1 + 1, 0, none⟩ (.int .i64 (r - 1)))) := hRB.out (r - 1)
  clear hs hB HC hz c0 c13 c14 c15 hp hn hl hRB
  go_enter Tryz.func56, Tryz.ntmps56
  go_wp2_with fail
  have f2 := HT.out.1
  refine bodyPost_ret (v := .tuple #[.agg #[.int .i64 (r - 1)], .bool false]) (by rw [results_cell_tmp (p := 6) (u := 7) (ty := 112) rfl]; simp [go_sem, f2]) rfl ?_
  exact RFitE.of HX.out HT.out.2
end Go.Proofs.YtbjcabpmndhfmaaGreat

/- tenonref07.fits at a dict's type. -/
namespace Go.Proofs.YtbjcabpmndhfmaaGreat
open Go.RowKit

set_option maxRecDepth 100000 in
set_option maxHeartbeats 4000000 in
theorem rfit_6a (N : Nat) (HC : RFitC N) (o : Int) (t : Tm) (p : TyL) (_hN : p.sz ≤ N) (n : List ByteArray) (l : List Bool) (op : Bool) (c : ByteArray) (cs : Array Value) (B : Nat → Prop) (w : World) (r d : Int) (hs : (Ty.mk 6 o t p n l op c).In w B cs) (hB : Sub B w) (h0 : 0 ≤ r) (h1 : r ≤ 16384) (h2 : 0 ≤ d) (h3 : d ≤ 65) (hr : ¬ r - 1 < 0) (hd : ¬ 64 < d) (hq : n.length ≠ p.len) :
    Calls Tryz.prog 56 #[.agg #[.int .i64 r], .agg cs, .int .i64 d] w (RFitE ((Ty.mk 6 o t p n l op c).fitR d r) w) := by
  obtain ⟨hz, c0, -, -, -, ap, cp, an, cn, ak, ck, c13, c14, c15, hp, hn, hl, -, ⟨hpl, hnl, hll, -⟩⟩ := Ty.In_all hs
  obtain ⟨W3, hW3, hRB⟩ := RB.new w cs (r - 1)
  have HRB3 : Hid (RB w W3 cs (r - 1)) := hRB
  have d0 : W3.cell? ⟨w.heap.size + 1, 0, none⟩ = some (.int .i64 6) := by rw [cell_of_row _ _ _ _ _ _ hRB.b1]; exact c0
  have d13 : W3.cell? ⟨w.heap.size + 1, 13, none⟩ = some (.slice ap p.len cp) := by rw [cell_of_row _ _ _ _ _ _ hRB.b1]; exact c13
  have a0 := hRB.cell0
  have a2 := hRB.cell2
  have z2 := Lib.frozen_of_heap hRB.b2 0
  have HV : Hid (p.In w B ap 0 ∧ Sub B w ∧ RFitC N ∧ cs[13]? = some (.slice ap p.len cp)) := ⟨hp, hB, HC, c13⟩
  have HX : Hid ((Ty.mk 6 o t p n l op c).fitR d r = (false, r - 1)) := by
    have how : (Ty.mk 6 o t p n l op c).own = false := by simp [Ty.own, hq]
    show _ = _; simp only [Ty.fitR]; rw [if_neg (by omega), if_neg (by decide), if_pos how]
  have d14 : W3.cell? ⟨w.heap.size + 1, 14, none⟩ = some (.slice an n.length cn) := by rw [cell_of_row _ _ _ _ _ _ hRB.b1]; exact c14
  have hb : ((n.length : Int) == (p.len : Int)) = false := by simp; omega
  have HT : Hid ((W3.setCell ⟨w.heap.size + 1 + 1, 0, none⟩ (.int .i64 (r - 1))).cell? ⟨w.heap.size + 1 + 1, 0, none⟩ = some (.int .i64 (r - 1)) ∧ Below w.heap.size w (W3.setCell ⟨w.heap.size + 1 + 1, 0, none⟩ (.int .i64 (r - 1)))) := hRB.out (r - 1)
  clear hs hB HC hz c0 c13 c14 c15 hp hn hl hRB
  go_enter Tryz.func56, Tryz.ntmps56
  go_wp2_with fail
  have f2 := HT.out.1
  refine bodyPost_ret (v := .tuple #[.agg #[.int .i64 (r - 1)], .bool false]) (by rw [results_cell_tmp (p := 6) (u := 7) (ty := 112) rfl]; simp [go_sem, f2]) rfl ?_
  exact RFitE.of HX.out HT.out.2
set_option maxRecDepth 100000 in
set_option maxHeartbeats 4000000 in
theorem rfit_6b (N : Nat) (HC : RFitC N) (o : Int) (t : Tm) (p : TyL) (_hN : p.sz ≤ N) (n : List ByteArray) (l : List Bool) (op : Bool) (c : ByteArray) (cs : Array Value) (B : Nat → Prop) (w : World) (r d : Int) (hs : (Ty.mk 6 o t p n l op c).In w B cs) (hB : Sub B w) (h0 : 0 ≤ r) (h1 : r ≤ 16384) (h2 : 0 ≤ d) (h3 : d ≤ 65) (hr : ¬ r - 1 < 0) (hd : ¬ 64 < d) (hnp : n.length = p.len) (hq : l.length ≠ p.len) :
    Calls Tryz.prog 56 #[.agg #[.int .i64 r], .agg cs, .int .i64 d] w (RFitE ((Ty.mk 6 o t p n l op c).fitR d r) w) := by
  obtain ⟨hz, c0, -, -, -, ap, cp, an, cn, ak, ck, c13, c14, c15, hp, hn, hl, -, ⟨hpl, hnl, hll, -⟩⟩ := Ty.In_all hs
  obtain ⟨W3, hW3, hRB⟩ := RB.new w cs (r - 1)
  have HRB3 : Hid (RB w W3 cs (r - 1)) := hRB
  have d0 : W3.cell? ⟨w.heap.size + 1, 0, none⟩ = some (.int .i64 6) := by rw [cell_of_row _ _ _ _ _ _ hRB.b1]; exact c0
  have d13 : W3.cell? ⟨w.heap.size + 1, 13, none⟩ = some (.slice ap p.len cp) := by rw [cell_of_row _ _ _ _ _ _ hRB.b1]; exact c13
  have a0 := hRB.cell0
  have a2 := hRB.cell2
  have z2 := Lib.frozen_of_heap hRB.b2 0
  have HV : Hid (p.In w B ap 0 ∧ Sub B w ∧ RFitC N ∧ cs[13]? = some (.slice ap p.len cp)) := ⟨hp, hB, HC, c13⟩
  have HX : Hid ((Ty.mk 6 o t p n l op c).fitR d r = (false, r - 1)) := by
    have how : (Ty.mk 6 o t p n l op c).own = false := by simp only [Ty.own]; simp; intro _ hh; omega
    show _ = _; simp only [Ty.fitR]; rw [if_neg (by omega), if_neg (by decide), if_pos how]
  rw [hnp] at c14
  have d14 : W3.cell? ⟨w.heap.size + 1, 14, none⟩ = some (.slice an p.len cn) := by rw [cell_of_row _ _ _ _ _ _ hRB.b1]; exact c14
  have d15 : W3.cell? ⟨w.heap.size + 1, 15, none⟩ = some (.slice ak l.length ck) := by rw [cell_of_row _ _ _ _ _ _ hRB.b1]; exact c15
  have hb : ((l.length : Int) == (p.len : Int)) = false := by simp; omega
  clear hnp hnl
  have HT : Hid ((W3.setCell ⟨w.heap.size + 1 + 1, 0, none⟩ (.int .i64 (r - 1))).cell? ⟨w.heap.size + 1 + 1, 0, none⟩ = some (.int .i64 (r - 1)) ∧ Below w.heap.size w (W3.setCell ⟨w.heap.size + 1 + 1, 0, none⟩ (.int .i64 (r - 1)))) := hRB.out (r - 1)
  clear hs hB HC hz c0 c13 c14 c15 hp hn hl hRB
  go_enter Tryz.func56, Tryz.ntmps56
  go_wp2_with fail
  have f2 := HT.out.1
  refine bodyPost_ret (v := .tuple #[.agg #[.int .i64 (r - 1)], .bool false]) (by rw [results_cell_tmp (p := 6) (u := 7) (ty := 112) rfl]; simp [go_sem, f2]) rfl ?_
  exact RFitE.of HX.out HT.out.2
set_option maxRecDepth 100000 in
set_option maxHeartbeats 4000000 in
theorem rfit_6c (N : Nat) (HC : RFitC N) (o : Int) (t : Tm) (p : TyL) (_hN : p.sz ≤ N) (n : List ByteArray) (l : List Bool) (op : Bool) (c : ByteArray) (cs : Array Value) (B : Nat → Prop) (w : World) (r d : Int) (hs : (Ty.mk 6 o t p n l op c).In w B cs) (hB : Sub B w) (h0 : 0 ≤ r) (h1 : r ≤ 16384) (h2 : 0 ≤ d) (h3 : d ≤ 65) (hr : ¬ r - 1 < 0) (hd : ¬ 64 < d) (hnp : n.length = p.len) (hlp : l.length = p.len) (hq : 4096 < p.len) :
    Calls Tryz.prog 56 #[.agg #[.int .i64 r], .agg cs, .int .i64 d] w (RFitE ((Ty.mk 6 o t p n l op c).fitR d r) w) := by
  obtain ⟨hz, c0, -, -, -, ap, cp, an, cn, ak, ck, c13, c14, c15, hp, hn, hl, -, ⟨hpl, hnl, hll, -⟩⟩ := Ty.In_all hs
  obtain ⟨W3, hW3, hRB⟩ := RB.new w cs (r - 1)
  have HRB3 : Hid (RB w W3 cs (r - 1)) := hRB
  have d0 : W3.cell? ⟨w.heap.size + 1, 0, none⟩ = some (.int .i64 6) := by rw [cell_of_row _ _ _ _ _ _ hRB.b1]; exact c0
  have d13 : W3.cell? ⟨w.heap.size + 1, 13, none⟩ = some (.slice ap p.len cp) := by rw [cell_of_row _ _ _ _ _ _ hRB.b1]; exact c13
  have a0 := hRB.cell0
  have a2 := hRB.cell2
  have z2 := Lib.frozen_of_heap hRB.b2 0
  have HV : Hid (p.In w B ap 0 ∧ Sub B w ∧ RFitC N ∧ cs[13]? = some (.slice ap p.len cp)) := ⟨hp, hB, HC, c13⟩
  have HX : Hid ((Ty.mk 6 o t p n l op c).fitR d r = (false, r - 1)) := by
    have how : (Ty.mk 6 o t p n l op c).own = false := by simp only [Ty.own, Sp.namesFit]; simp; intro _ _ hh; omega
    show _ = _; simp only [Ty.fitR]; rw [if_neg (by omega), if_neg (by decide), if_pos how]
  rw [hnp] at c14
  rw [hlp] at c15
  have d14 : W3.cell? ⟨w.heap.size + 1, 14, none⟩ = some (.slice an p.len cn) := by rw [cell_of_row _ _ _ _ _ _ hRB.b1]; exact c14
  have d15 : W3.cell? ⟨w.heap.size + 1, 15, none⟩ = some (.slice ak p.len ck) := by rw [cell_of_row _ _ _ _ _ _ hRB.b1]; exact c15
  clear hnp hnl hlp hll
  have HT : Hid ((W3.setCell ⟨w.heap.size + 1 + 1, 0, none⟩ (.int .i64 (r - 1))).cell? ⟨w.heap.size + 1 + 1, 0, none⟩ = some (.int .i64 (r - 1)) ∧ Below w.heap.size w (W3.setCell ⟨w.heap.size + 1 + 1, 0, none⟩ (.int .i64 (r - 1)))) := hRB.out (r - 1)
  clear hs hB HC hz c0 c13 c14 c15 hp hn hl hRB
  go_enter Tryz.func56, Tryz.ntmps56
  go_wp2_with fail
  have f2 := HT.out.1
  refine bodyPost_ret (v := .tuple #[.agg #[.int .i64 (r - 1)], .bool false]) (by rw [results_cell_tmp (p := 6) (u := 7) (ty := 112) rfl]; simp [go_sem, f2]) rfl ?_
  exact RFitE.of HX.out HT.out.2
set_option maxRecDepth 100000 in
set_option maxHeartbeats 4000000 in
theorem rfit_6 (N : Nat) (HC : RFitC N) (o : Int) (t : Tm) (p : TyL) (hN : p.sz ≤ N) (n : List ByteArray) (l : List Bool) (op : Bool) (c : ByteArray) (cs : Array Value) (B : Nat → Prop) (w : World) (r d : Int) (hs : (Ty.mk 6 o t p n l op c).In w B cs) (hB : Sub B w) (h0 : 0 ≤ r) (h1 : r ≤ 16384) (h2 : 0 ≤ d) (h3 : d ≤ 65) (hr : ¬ r - 1 < 0) (hd : ¬ 64 < d) (hnp : n.length = p.len) (hlp : l.length = p.len) (hq : p.len ≤ 4096) :
    Calls Tryz.prog 56 #[.agg #[.int .i64 r], .agg cs, .int .i64 d] w (RFitE ((Ty.mk 6 o t p n l op c).fitR d r) w) := by
  obtain ⟨hz, c0, -, -, -, ap, cp, an, cn, ak, ck, c13, c14, c15, hp, hn, hl, -, ⟨hpl, hnl, hll, -⟩⟩ := Ty.In_all hs
  obtain ⟨W3, hW3, hRB⟩ := RB.new w cs (r - 1)
  have HRB3 : Hid (RB w W3 cs (r - 1)) := hRB
  have d0 : W3.cell? ⟨w.heap.size + 1, 0, none⟩ = some (.int .i64 6) := by rw [cell_of_row _ _ _ _ _ _ hRB.b1]; exact c0
  have d13 : W3.cell? ⟨w.heap.size + 1, 13, none⟩ = some (.slice ap p.len cp) := by rw [cell_of_row _ _ _ _ _ _ hRB.b1]; exact c13
  have a0 := hRB.cell0
  have a2 := hRB.cell2
  have z2 := Lib.frozen_of_heap hRB.b2 0
  have HV : Hid (p.In w B ap 0 ∧ Sub B w ∧ RFitC N ∧ cs[13]? = some (.slice ap p.len cp)) := ⟨hp, hB, HC, c13⟩
  rw [hnp] at c14
  rw [hlp] at c15
  have d14 : W3.cell? ⟨w.heap.size + 1, 14, none⟩ = some (.slice an p.len cn) := by rw [cell_of_row _ _ _ _ _ _ hRB.b1]; exact c14
  have d15 : W3.cell? ⟨w.heap.size + 1, 15, none⟩ = some (.slice ak p.len ck) := by rw [cell_of_row _ _ _ _ _ _ hRB.b1]; exact c15
  have HC14 : Hid (cs[14]? = some (.slice an p.len cn)) := c14
  have HNL : Hid (n.length = p.len ∧ l.length = p.len) := ⟨hnp, hlp⟩
  have HNA : Hid (∀ W k s, Below w.heap.size w W → n[k]? = some s → ∃ g o, an = some ⟨g, o, none⟩ ∧ W.cell? ⟨g, o + k, none⟩ = some (.string s)) := fun W k s hW hk => by
    obtain ⟨g, o, e, hg, hc, _⟩ := hn k s hk
    exact ⟨g, o, e, by rw [(hB.same hW).cell (p := ⟨g, o + k, none⟩) hg]; exact hc⟩
  have HNZ : Hid (∀ (k : Nat) (s : ByteArray), n[k]? = some s → s.size ≤ maxLen) := fun k s hk => by
    obtain ⟨g, o, e, hg, hc, hz⟩ := hn k s hk
    unfold maxLen; omega
  clear hnp hnl hlp hll
  clear hs hB HC hz c0 c13 c14 c15 hp hn hl hRB
  go_enter Tryz.func56, Tryz.ntmps56
  go_wp2_with fail
  go_loopw [11] (fun x wr => ∃ (i : Nat) (ns : List ByteArray) (ah : ByteArray), x = .int .i64 i ∧ i + ns.length = p.len ∧ Hid (RB w wr cs (r - 1) ∧ (∀ j, n[i + j]? = ns[j]?) ∧ Sp.named ByteArray.empty n = Sp.named ah ns ∧ (i = 0 → ah = ByteArray.empty) ∧ (∀ i', i = i' + 1 → n[i']? = some ah))) (fun x _ => p.len - (intOf x).toNat)
  case atStart => exact ⟨0, n, ByteArray.empty, rfl, by rw [Nat.zero_add]; exact HNL.out.1, ⟨HRB3.out, fun j => by simp, rfl, fun _ => rfl, fun i' h => by omega⟩⟩
  case round =>
    obtain ⟨i, ns, ah, rfl, hlj, HK⟩ := hrel
    have HRB0 : Hid (RB w wr cs (r - 1)) := HK.out.1
    have a0 := HRB0.out.cell0
    have a2 := HRB0.out.cell2
    have z2 := Lib.frozen_of_heap HRB0.out.b2 0
    cases ns with
    | nil =>
      have hj' : p.len ≤ i := by simp at hlj; omega
      have HX : Hid ((Ty.mk 6 o t p n l op c).fitR d r = p.fitR (d + 1) (r - 1)) := by
        have how : (Ty.mk 6 o t p n l op c).own = true := by
          have h5 : Sp.named ByteArray.empty n = true := by rw [HK.out.2.2.1]; rfl
          simp [Ty.own, Sp.namesFit, h5, HNL.out.1, HNL.out.2, hq]
        have hpar : Sp.parted 6 = true := rfl
        show _ = _; simp only [Ty.fitR]; rw [if_neg (by omega), if_neg (by decide), if_neg (by rw [how]; decide), hpar, if_pos rfl]
      have HRB3 : Hid (RB w wr cs (r - 1)) := HRB0
      clear hlj HK a0 a2 z2 HRB0
      have hdec : decide (i < p.len) = false := by simp; omega
      go_wp2_with fail
      try simp only [hdec]
      clear hj' hdec
      go_loopw [12] (fun x wr => ∃ (j : Nat) (l' : TyL) (q : Int), x = .int .i64 j ∧ l'.len + j = p.len ∧ l'.sz ≤ N ∧ 0 ≤ q ∧ q ≤ 16384 ∧ Hid (RB w wr cs q ∧ l'.In w B ap j ∧ p.fitR (d + 1) (r - 1) = l'.fitR (d + 1) q)) (fun x _ => p.len - (intOf x).toNat)
      case atStart => exact ⟨0, p, r - 1, rfl, rfl, hN, by omega, by omega, ⟨HRB3.out, HV.out.1, rfl⟩⟩
      case round =>
        obtain ⟨j, l', q, rfl, hlj, hlN, hq0, hq1, HK⟩ := hrel
        have HRB : Hid (RB w wr cs q) := HK.out.1
        have a0 := HRB.out.cell0
        have a2 := HRB.out.cell2
        have z2 := Lib.frozen_of_heap HRB.out.b2 0
        cases l' with
        | nil =>
          have hj' : p.len ≤ j := by simp [TyL.len] at hlj; omega
          have HR : Hid (p.fitR (d + 1) (r - 1) = (true, q)) := by show _ = _; rw [HK.out.2.2]; simp [TyL.fitR]
          clear hlj HK
          have HT := HRB.out.out q
          have HT : Hid ((wr.setCell ⟨w.heap.size + 1 + 1, 0, none⟩ (.int .i64 q)).cell? ⟨w.heap.size + 1 + 1, 0, none⟩ = some (.int .i64 q) ∧ Below w.heap.size w (wr.setCell ⟨w.heap.size + 1 + 1, 0, none⟩ (.int .i64 q))) := HT
          go_wp2_with fail
          have f2 := HT.out.1
          refine bodyPost_ret (v := .tuple #[.agg #[.int .i64 q], .bool true]) (by rw [results_cell_tmp (p := 6) (u := 7) (ty := 112) rfl]; simp [go_sem, f2]) rfl ?_
          exact RFitE.of (by rw [HX.out, HR.out]) HT.out.2
        | cons t' l' =>
          obtain ⟨-, hin, hfit⟩ := HK.out
          simp only [TyL.In] at hin
          obtain ⟨g, o1, cs', rfl, hgg, hcl, hti, hin'⟩ := hin
          have hj1 : j < p.len := by simp only [TyL.len] at hlj; omega
          have HJ : Hid (l'.len + (j + 1) = p.len) := by show _ = _; simp only [TyL.len] at hlj; omega
          have htN : t'.sz ≤ N ∧ l'.sz ≤ N := by simp [TyL.sz] at hlN; omega
          have hs' := (Ty.In_cells hti).1
          have hSm : ∀ W, RB w W cs q → W.cell? ⟨w.heap.size + 1, 13, none⟩ = some (.slice (some ⟨g, o1, none⟩) p.len cp) ∧ (loadVar 43 ⟨g, o1 + j * 18, none⟩).run Tryz.prog W = .ok (.agg cs') W := fun W hW => ⟨by rw [cell_of_row _ _ _ _ _ _ hW.b1]; exact HV.out.2.2.2, yldE hs' (fun x hx => by rw [(HV.out.2.1.same hW.bel).cell (p := ⟨g, o1 + j * 18 + x, none⟩) hgg]; exact hcl x hx)⟩
          have HS : Hid (∀ W, Below wr.heap.size wr W → W.cell? ⟨w.heap.size + 1, 13, none⟩ = some (.slice (some ⟨g, o1, none⟩) p.len cp) ∧ (loadVar 43 ⟨g, o1 + j * 18, none⟩).run Tryz.prog W = .ok (.agg cs') W) := fun W hW => hSm W (HRB.out.later hW)
          have HS2 : Hid (∀ (W : World) (q' : Int), Below wr.heap.size wr W → (W.setCell ⟨w.heap.size, 0, none⟩ (.int .i64 q')).cell? ⟨w.heap.size + 1, 13, none⟩ = some (.slice (some ⟨g, o1, none⟩) p.len cp) ∧ (loadVar 43 ⟨g, o1 + j * 18, none⟩).run Tryz.prog (W.setCell ⟨w.heap.size, 0, none⟩ (.int .i64 q')) = .ok (.agg cs') (W.setCell ⟨w.heap.size, 0, none⟩ (.int .i64 q'))) := fun W q' hW => by
            have hR := (HRB.out.later hW).set q'
            exact ⟨by rw [cell_of_row _ _ _ _ _ _ hR.b1]; exact HV.out.2.2.2, yldE hs' (fun x hx => by rw [(HV.out.2.1.same hR.bel).cell (p := ⟨g, o1 + j * 18 + x, none⟩) hgg]; exact hcl x hx)⟩
          have HO : Hid (∀ W, Below wr.heap.size wr W → Calls Tryz.prog 56 #[.agg #[.int .i64 q], .agg cs', .int .i64 (d + 1)] W (RFitE (t'.fitR (d + 1) q) W)) := fun W hW => by
            have hbW := (HRB.out.later hW).bel
            exact HV.out.2.2.1 t' htN.1 cs' B W q (d + 1) (t'.In_same (HV.out.2.1.same hbW) (fun _ h => h) cs' hti) (HV.out.2.1.later hbW) hq0 hq1 (by omega) (by omega)
          have hbd := Ty.fitR_bd t' (d + 1) q hq0
          have HF : Hid (p.fitR (d + 1) (r - 1) = if (t'.fitR (d + 1) q).1 then l'.fitR (d + 1) (t'.fitR (d + 1) q).2 else (false, (t'.fitR (d + 1) q).2)) := by show _ = _; rw [hfit]; simp only [TyL.fitR]
          have HIN : Hid (l'.In w B (some ⟨g, o1, none⟩) (j + 1)) := hin'
          have hi0 : (0 : Int) ≤ (j : Int) := Int.natCast_nonneg _
          have hi1 : (j : Int) < (p.len : Int) := by omega
          unfold RFitE at HO
          clear hlj hlN HK hin' hfit hcl hti hs' hgg hSm
          generalize t'.fitR (d + 1) q = x at *
          obtain ⟨xb, xq⟩ := x
          simp only at hbd HF HO
          have hdd : d + 1 ≤ 65 := by omega
          have hwd : IntKind.i64.wrap (d + 1) = d + 1 := wrap_small (by omega) (by omega)
          cases xb with
          | true =>
            have hx0 : 0 ≤ xq := hbd.2 rfl
            have hx1 : xq ≤ 16384 := by omega
            go_wp2_with fail
            refine wp_region_held_drew (S := fun W => W.cell? ⟨w.heap.size + 1, 13, none⟩ = some (.slice (some ⟨g, o1, none⟩) p.len cp) ∧ (loadVar 43 ⟨g, o1 + j * 18, none⟩).run Tryz.prog W = .ok (.agg cs') W) (by kernel_rfl) ?_ (fun hHeld => ?_)
            · exact HS.out _ (Below.refl _ _).drew
            refine wpAnyH_take (i := 1) (oi := { dst := some 135, op := Go.Op.fieldAddr 43 (Go.Operand.tmp 4) 3, type := 0, pos := "ref.go:53", after := #[], guard := none }) (v := ?_) rfl (by kernel_rfl) (by kernel_rfl) (by kernel_rfl) (fun _ _ _ h => h) (Or.inl ⟨by rfl, ?_⟩) (by assumption) ?_
            rotate_left
            · intro w hSw; (try dsimp only at hSw); go_simp; try (with_reducible rfl)
            simp only [Act.put, List.setIfInBounds_toArray, List.set_cons_zero, List.set_cons_succ]
            refine wpAnyH_take (i := 2) (oi := { dst := some 136, op := Go.Op.load 39 (Go.Operand.tmp 135), type := 39, pos := "ref.go:53", after := #[{ on := 1, ground := Go.Ground.data }], guard := none }) (v := ?_) rfl (by kernel_rfl) (by kernel_rfl) (by kernel_rfl) (fun _ _ _ h => h) (Or.inl ⟨by rfl, ?_⟩) (by assumption) ?_
            rotate_left
            · intro w hSw; (try dsimp only at hSw); go_simp; try (with_reducible rfl)
            simp only [Act.put, List.setIfInBounds_toArray, List.set_cons_zero, List.set_cons_succ]
            refine wpAnyH_take (i := 3) (oi := { dst := some 137, op := Go.Op.move (Go.Operand.tmp 12), type := 3, pos := "ref.go:53", after := #[], guard := none }) (v := ?_) rfl (by kernel_rfl) (by kernel_rfl) (by kernel_rfl) (fun _ _ _ h => h) (Or.inl ⟨by rfl, ?_⟩) (by assumption) ?_
            rotate_left
            · intro w hSw; (try dsimp only at hSw); go_simp; try (with_reducible rfl)
            simp only [Act.put, List.setIfInBounds_toArray, List.set_cons_zero, List.set_cons_succ]
            refine wpAnyH_take (i := 4) (oi := { dst := some 138, op := Go.Op.indexAddr 39 (Go.Operand.tmp 136) (Go.Operand.tmp 137), type := 0, pos := "ref.go:53", after := #[{ on := 2, ground := Go.Ground.data }, { on := 3, ground := Go.Ground.data }], guard := none }) (v := ?_) rfl (by kernel_rfl) (by kernel_rfl) (by kernel_rfl) (fun _ _ _ h => h) (Or.inl ⟨by rfl, ?_⟩) (by assumption) ?_
            rotate_left
            · intro w hSw; (try dsimp only at hSw); go_simp; try (with_reducible rfl)
            simp only [Act.put, List.setIfInBounds_toArray, List.set_cons_zero, List.set_cons_succ]
            refine wpAnyH_take (i := 5) (oi := { dst := some 139, op := Go.Op.load 43 (Go.Operand.tmp 138), type := 43, pos := "ref.go:53", after := #[{ on := 4, ground := Go.Ground.data }], guard := none }) (v := (.agg cs')) rfl (by kernel_rfl) (by kernel_rfl) (by kernel_rfl) (fun _ _ _ h => h) (take_ld rfl rfl rfl (fun w hSw => hSw.2)) (by assumption) ?_
            simp only [Act.put, List.setIfInBounds_toArray, List.set_cons_zero, List.set_cons_succ]
            refine wpAnyH_take (i := 6) (oi := { dst := some 140, op := Go.Op.move (Go.Operand.tmp 2), type := 3, pos := "ref.go:53", after := #[], guard := none }) (v := ?_) rfl (by kernel_rfl) (by kernel_rfl) (by kernel_rfl) (fun _ _ _ h => h) (Or.inl ⟨by rfl, ?_⟩) (by assumption) ?_
            rotate_left
            · intro w hSw; (try dsimp only at hSw); go_simp; try (with_reducible rfl)
            simp only [Act.put, List.setIfInBounds_toArray, List.set_cons_zero, List.set_cons_succ]
            refine wpAnyH_take (i := 7) (oi := { dst := some 141, op := Go.Op.binOp Go.BinOp.add 3 (Go.Operand.tmp 140) (Go.Operand.const (Go.Value.int Go.IntKind.i64 1)) 3, type := 3, pos := "ref.go:53", after := #[{ on := 6, ground := Go.Ground.data }], guard := none }) (v := ?_) rfl (by kernel_rfl) (by kernel_rfl) (by kernel_rfl) (fun _ _ _ h => h) (Or.inl ⟨by rfl, ?_⟩) (by assumption) ?_
            rotate_left
            · intro w hSw; (try dsimp only at hSw); go_simp; try (with_reducible rfl)
            simp only [Act.put, List.setIfInBounds_toArray, List.set_cons_zero, List.set_cons_succ]
            refine wpAnyH_ready (rs := [0]) (by kernel_rfl) (by simp) ?_
            refine AllReadyH.cons (o := { dst := some 134, op := Go.Op.load 112 (Go.Operand.tmp 3), type := 112, pos := "ref.go:53", after := #[], guard := none }) rfl (fun K hK => ?_) AllReadyH.nil
            go_simp
            refine hK.out _ _ ?_ (fun hHeld => ?_)
            · exact HS.out _ (Below.refl _ _).drew
            clear hK K
            try simp only [Act.put, List.setIfInBounds_toArray, List.set_cons_zero, List.set_cons_succ]
            refine wpAnyH_ready (rs := [8]) (by kernel_rfl) (by simp) ?_
            refine AllReadyH.cons (o := { dst := some 142, op := Go.Op.call { callee := Go.Callee.value (Go.Operand.func 56), args := #[Go.Operand.tmp 134, Go.Operand.tmp 139, Go.Operand.tmp 141], argTypes := #[112, 43, 3] }, type := 113, pos := "ref.go:53", after := #[{ on := 0, ground := Go.Ground.data }, { on := 5, ground := Go.Ground.data }, { on := 7, ground := Go.Ground.data }], guard := none }) rfl (fun K hK => ?_) AllReadyH.nil
            go_simp
            (refine (HO.out _ (Below.refl _ _).drew).mono ?_; rintro e w5 ⟨rfl, hb5⟩; have HB5 : Hid (Below wr.heap.size wr w5) := below_to (Below.refl _ _).drew hb5; clear hb5)
            go_wp2_with fail
            refine hK.out _ _ ?_ (fun hHeld => ?_)
            · exact HS.out _ HB5.out
            clear hK K
            refine wpAnyH_take (i := 9) (oi := { dst := some 133, op := Go.Op.move (Go.Operand.tmp 142), type := 113, pos := "ref.go:53", after := #[{ on := 8, ground := Go.Ground.data }], guard := none }) (v := ?_) rfl (by kernel_rfl) (by kernel_rfl) (by kernel_rfl) (fun _ _ _ h => h) (Or.inl ⟨by rfl, ?_⟩) (by assumption) ?_
            rotate_left
            · intro w hSw; (try dsimp only at hSw); go_simp; try (with_reducible rfl)
            simp only [Act.put, List.setIfInBounds_toArray, List.set_cons_zero, List.set_cons_succ]
            refine wpAnyH_take (i := 10) (oi := { dst := some 143, op := Go.Op.extract (Go.Operand.tmp 133) 0, type := 112, pos := "ref.go:53", after := #[{ on := 9, ground := Go.Ground.data }], guard := none }) (v := ?_) rfl (by kernel_rfl) (by kernel_rfl) (by kernel_rfl) (fun _ _ _ h => h) (Or.inl ⟨by rfl, ?_⟩) (by assumption) ?_
            rotate_left
            · intro w hSw; (try dsimp only at hSw); go_simp; try (with_reducible rfl)
            simp only [Act.put, List.setIfInBounds_toArray, List.set_cons_zero, List.set_cons_succ]
            refine wpAnyH_take (i := 11) (oi := { dst := some 144, op := Go.Op.extract (Go.Operand.tmp 133) 1, type := 4, pos := "ref.go:53", after := #[{ on := 9, ground := Go.Ground.data }, { on := 12, ground := Go.Ground.gcOnly Go.Departure.lateStores }], guard := none }) (v := ?_) rfl (by kernel_rfl) (by kernel_rfl) (by kernel_rfl) (fun _ _ _ h => h) (Or.inl ⟨by rfl, ?_⟩) (by assumption) ?_
            rotate_left
            · intro w hSw; (try dsimp only at hSw); go_simp; try (with_reducible rfl)
            simp only [Act.put, List.setIfInBounds_toArray, List.set_cons_zero, List.set_cons_succ]
            have y0 := (HRB.out.later HB5.out).cell0
            have z0 := Lib.frozen_of_heap (HRB.out.later HB5.out).b0 0
            refine wpAnyH_ready (rs := [12]) (by kernel_rfl) (by simp) ?_
            refine AllReadyH.cons (o := { dst := none, op := Go.Op.store 112 (Go.Operand.tmp 3) (Go.Operand.tmp 143), type := 0, pos := "ref.go:53", after := #[{ on := 10, ground := Go.Ground.data }, { on := 8, ground := Go.Ground.chain }, { on := 0, ground := Go.Ground.phase }, { on := 1, ground := Go.Ground.phase }, { on := 2, ground := Go.Ground.phase }, { on := 3, ground := Go.Ground.phase }, { on := 4, ground := Go.Ground.phase }, { on := 5, ground := Go.Ground.phase }, { on := 6, ground := Go.Ground.phase }, { on := 7, ground := Go.Ground.phase }, { on := 8, ground := Go.Ground.phase }, { on := 9, ground := Go.Ground.phase }, { on := 10, ground := Go.Ground.phase }, { on := 11, ground := Go.Ground.textOnly Go.Departure.lateStores }], guard := none }) rfl (fun K hK => ?_) AllReadyH.nil
            go_simp
            refine hK.out _ _ ?_ (fun hHeld => ?_)
            · exact HS2.out _ _ HB5.out
            clear hK K
            try simp only [Act.put, List.setIfInBounds_toArray, List.set_cons_zero, List.set_cons_succ]
            refine wpAnyH_take (i := 13) (oi := { dst := some 13, op := Go.Op.assign (Go.Operand.tmp 144), type := 4, pos := "ref.go:53", after := #[{ on := 11, ground := Go.Ground.data }, { on := 12, ground := Go.Ground.chain }, { on := 0, ground := Go.Ground.phase }, { on := 1, ground := Go.Ground.phase }, { on := 2, ground := Go.Ground.phase }, { on := 3, ground := Go.Ground.phase }, { on := 4, ground := Go.Ground.phase }, { on := 5, ground := Go.Ground.phase }, { on := 6, ground := Go.Ground.phase }, { on := 7, ground := Go.Ground.phase }, { on := 8, ground := Go.Ground.phase }, { on := 9, ground := Go.Ground.phase }, { on := 10, ground := Go.Ground.phase }, { on := 11, ground := Go.Ground.phase }, { on := 12, ground := Go.Ground.phase }], guard := none }) (v := ?_) rfl (by kernel_rfl) (by kernel_rfl) (by kernel_rfl) (fun _ _ _ h => h) (Or.inl ⟨by rfl, ?_⟩) (by assumption) ?_
            rotate_left
            · intro w hSw; (try dsimp only at hSw); go_simp; try (with_reducible rfl)
            simp only [Act.put, List.setIfInBounds_toArray, List.set_cons_zero, List.set_cons_succ]
            refine wpAnyH_done (by kernel_rfl) ?_ _
            have HR5 : Hid (RB w (w5.setCell ⟨w.heap.size, 0, none⟩ (.int .i64 xq)) cs xq) := (HRB.out.later HB5.out).set xq
            go_wp2_with fail
            go_roundw
            case rel => exact ⟨j + 1, l', xq, by go_num, HJ.out, htN.2, hx0, hx1, ⟨HR5.out, HIN.out, by rw [HF.out]; simp⟩⟩
            case measure => simp [intOf]; omega
          | false =>
            go_wp2_with fail
            refine wp_region_held_drew (S := fun W => W.cell? ⟨w.heap.size + 1, 13, none⟩ = some (.slice (some ⟨g, o1, none⟩) p.len cp) ∧ (loadVar 43 ⟨g, o1 + j * 18, none⟩).run Tryz.prog W = .ok (.agg cs') W) (by kernel_rfl) ?_ (fun hHeld => ?_)
            · exact HS.out _ (Below.refl _ _).drew
            refine wpAnyH_take (i := 1) (oi := { dst := some 135, op := Go.Op.fieldAddr 43 (Go.Operand.tmp 4) 3, type := 0, pos := "ref.go:53", after := #[], guard := none }) (v := ?_) rfl (by kernel_rfl) (by kernel_rfl) (by kernel_rfl) (fun _ _ _ h => h) (Or.inl ⟨by rfl, ?_⟩) (by assumption) ?_
            rotate_left
            · intro w hSw; (try dsimp only at hSw); go_simp; try (with_reducible rfl)
            simp only [Act.put, List.setIfInBounds_toArray, List.set_cons_zero, List.set_cons_succ]
            refine wpAnyH_take (i := 2) (oi := { dst := some 136, op := Go.Op.load 39 (Go.Operand.tmp 135), type := 39, pos := "ref.go:53", after := #[{ on := 1, ground := Go.Ground.data }], guard := none }) (v := ?_) rfl (by kernel_rfl) (by kernel_rfl) (by kernel_rfl) (fun _ _ _ h => h) (Or.inl ⟨by rfl, ?_⟩) (by assumption) ?_
            rotate_left
            · intro w hSw; (try dsimp only at hSw); go_simp; try (with_reducible rfl)
            simp only [Act.put, List.setIfInBounds_toArray, List.set_cons_zero, List.set_cons_succ]
            refine wpAnyH_take (i := 3) (oi := { dst := some 137, op := Go.Op.move (Go.Operand.tmp 12), type := 3, pos := "ref.go:53", after := #[], guard := none }) (v := ?_) rfl (by kernel_rfl) (by kernel_rfl) (by kernel_rfl) (fun _ _ _ h => h) (Or.inl ⟨by rfl, ?_⟩) (by assumption) ?_
            rotate_left
            · intro w hSw; (try dsimp only at hSw); go_simp; try (with_reducible rfl)
            simp only [Act.put, List.setIfInBounds_toArray, List.set_cons_zero, List.set_cons_succ]
            refine wpAnyH_take (i := 4) (oi := { dst := some 138, op := Go.Op.indexAddr 39 (Go.Operand.tmp 136) (Go.Operand.tmp 137), type := 0, pos := "ref.go:53", after := #[{ on := 2, ground := Go.Ground.data }, { on := 3, ground := Go.Ground.data }], guard := none }) (v := ?_) rfl (by kernel_rfl) (by kernel_rfl) (by kernel_rfl) (fun _ _ _ h => h) (Or.inl ⟨by rfl, ?_⟩) (by assumption) ?_
            rotate_left
            · intro w hSw; (try dsimp only at hSw); go_simp; try (with_reducible rfl)
            simp only [Act.put, List.setIfInBounds_toArray, List.set_cons_zero, List.set_cons_succ]
            refine wpAnyH_take (i := 5) (oi := { dst := some 139, op := Go.Op.load 43 (Go.Operand.tmp 138), type := 43, pos := "ref.go:53", after := #[{ on := 4, ground := Go.Ground.data }], guard := none }) (v := (.agg cs')) rfl (by kernel_rfl) (by kernel_rfl) (by kernel_rfl) (fun _ _ _ h => h) (take_ld rfl rfl rfl (fun w hSw => hSw.2)) (by assumption) ?_
            simp only [Act.put, List.setIfInBounds_toArray, List.set_cons_zero, List.set_cons_succ]
            refine wpAnyH_take (i := 6) (oi := { dst := some 140, op := Go.Op.move (Go.Operand.tmp 2), type := 3, pos := "ref.go:53", after := #[], guard := none }) (v := ?_) rfl (by kernel_rfl) (by kernel_rfl) (by kernel_rfl) (fun _ _ _ h => h) (Or.inl ⟨by rfl, ?_⟩) (by assumption) ?_
            rotate_left
            · intro w hSw; (try dsimp only at hSw); go_simp; try (with_reducible rfl)
            simp only [Act.put, List.setIfInBounds_toArray, List.set_cons_zero, List.set_cons_succ]
            refine wpAnyH_take (i := 7) (oi := { dst := some 141, op := Go.Op.binOp Go.BinOp.add 3 (Go.Operand.tmp 140) (Go.Operand.const (Go.Value.int Go.IntKind.i64 1)) 3, type := 3, pos := "ref.go:53", after := #[{ on := 6, ground := Go.Ground.data }], guard := none }) (v := ?_) rfl (by kernel_rfl) (by kernel_rfl) (by kernel_rfl) (fun _ _ _ h => h) (Or.inl ⟨by rfl, ?_⟩) (by assumption) ?_
            rotate_left
            · intro w hSw; (try dsimp only at hSw); go_simp; try (with_reducible rfl)
            simp only [Act.put, List.setIfInBounds_toArray, List.set_cons_zero, List.set_cons_succ]
            refine wpAnyH_ready (rs := [0]) (by kernel_rfl) (by simp) ?_
            refine AllReadyH.cons (o := { dst := some 134, op := Go.Op.load 112 (Go.Operand.tmp 3), type := 112, pos := "ref.go:53", after := #[], guard := none }) rfl (fun K hK => ?_) AllReadyH.nil
            go_simp
            refine hK.out _ _ ?_ (fun hHeld => ?_)
            · exact HS.out _ (Below.refl _ _).drew
            clear hK K
            try simp only [Act.put, List.setIfInBounds_toArray, List.set_cons_zero, List.set_cons_succ]
            refine wpAnyH_ready (rs := [8]) (by kernel_rfl) (by simp) ?_
            refine AllReadyH.cons (o := { dst := some 142, op := Go.Op.call { callee := Go.Callee.value (Go.Operand.func 56), args := #[Go.Operand.tmp 134, Go.Operand.tmp 139, Go.Operand.tmp 141], argTypes := #[112, 43, 3] }, type := 113, pos := "ref.go:53", after := #[{ on := 0, ground := Go.Ground.data }, { on := 5, ground := Go.Ground.data }, { on := 7, ground := Go.Ground.data }], guard := none }) rfl (fun K hK => ?_) AllReadyH.nil
            go_simp
            (refine (HO.out _ (Below.refl _ _).drew).mono ?_; rintro e w5 ⟨rfl, hb5⟩; have HB5 : Hid (Below wr.heap.size wr w5) := below_to (Below.refl _ _).drew hb5; clear hb5)
            go_wp2_with fail
            refine hK.out _ _ ?_ (fun hHeld => ?_)
            · exact HS.out _ HB5.out
            clear hK K
            refine wpAnyH_take (i := 9) (oi := { dst := some 133, op := Go.Op.move (Go.Operand.tmp 142), type := 113, pos := "ref.go:53", after := #[{ on := 8, ground := Go.Ground.data }], guard := none }) (v := ?_) rfl (by kernel_rfl) (by kernel_rfl) (by kernel_rfl) (fun _ _ _ h => h) (Or.inl ⟨by rfl, ?_⟩) (by assumption) ?_
            rotate_left
            · intro w hSw; (try dsimp only at hSw); go_simp; try (with_reducible rfl)
            simp only [Act.put, List.setIfInBounds_toArray, List.set_cons_zero, List.set_cons_succ]
            refine wpAnyH_take (i := 10) (oi := { dst := some 143, op := Go.Op.extract (Go.Operand.tmp 133) 0, type := 112, pos := "ref.go:53", after := #[{ on := 9, ground := Go.Ground.data }], guard := none }) (v := ?_) rfl (by kernel_rfl) (by kernel_rfl) (by kernel_rfl) (fun _ _ _ h => h) (Or.inl ⟨by rfl, ?_⟩) (by assumption) ?_
            rotate_left
            · intro w hSw; (try dsimp only at hSw); go_simp; try (with_reducible rfl)
            simp only [Act.put, List.setIfInBounds_toArray, List.set_cons_zero, List.set_cons_succ]
            refine wpAnyH_take (i := 11) (oi := { dst := some 144, op := Go.Op.extract (Go.Operand.tmp 133) 1, type := 4, pos := "ref.go:53", after := #[{ on := 9, ground := Go.Ground.data }, { on := 12, ground := Go.Ground.gcOnly Go.Departure.lateStores }], guard := none }) (v := ?_) rfl (by kernel_rfl) (by kernel_rfl) (by kernel_rfl) (fun _ _ _ h => h) (Or.inl ⟨by rfl, ?_⟩) (by assumption) ?_
            rotate_left
            · intro w hSw; (try dsimp only at hSw); go_simp; try (with_reducible rfl)
            simp only [Act.put, List.setIfInBounds_toArray, List.set_cons_zero, List.set_cons_succ]
            have y0 := (HRB.out.later HB5.out).cell0
            have z0 := Lib.frozen_of_heap (HRB.out.later HB5.out).b0 0
            refine wpAnyH_ready (rs := [12]) (by kernel_rfl) (by simp) ?_
            refine AllReadyH.cons (o := { dst := none, op := Go.Op.store 112 (Go.Operand.tmp 3) (Go.Operand.tmp 143), type := 0, pos := "ref.go:53", after := #[{ on := 10, ground := Go.Ground.data }, { on := 8, ground := Go.Ground.chain }, { on := 0, ground := Go.Ground.phase }, { on := 1, ground := Go.Ground.phase }, { on := 2, ground := Go.Ground.phase }, { on := 3, ground := Go.Ground.phase }, { on := 4, ground := Go.Ground.phase }, { on := 5, ground := Go.Ground.phase }, { on := 6, ground := Go.Ground.phase }, { on := 7, ground := Go.Ground.phase }, { on := 8, ground := Go.Ground.phase }, { on := 9, ground := Go.Ground.phase }, { on := 10, ground := Go.Ground.phase }, { on := 11, ground := Go.Ground.textOnly Go.Departure.lateStores }], guard := none }) rfl (fun K hK => ?_) AllReadyH.nil
            go_simp
            refine hK.out _ _ ?_ (fun hHeld => ?_)
            · exact HS2.out _ _ HB5.out
            clear hK K
            try simp only [Act.put, List.setIfInBounds_toArray, List.set_cons_zero, List.set_cons_succ]
            refine wpAnyH_take (i := 13) (oi := { dst := some 13, op := Go.Op.assign (Go.Operand.tmp 144), type := 4, pos := "ref.go:53", after := #[{ on := 11, ground := Go.Ground.data }, { on := 12, ground := Go.Ground.chain }, { on := 0, ground := Go.Ground.phase }, { on := 1, ground := Go.Ground.phase }, { on := 2, ground := Go.Ground.phase }, { on := 3, ground := Go.Ground.phase }, { on := 4, ground := Go.Ground.phase }, { on := 5, ground := Go.Ground.phase }, { on := 6, ground := Go.Ground.phase }, { on := 7, ground := Go.Ground.phase }, { on := 8, ground := Go.Ground.phase }, { on := 9, ground := Go.Ground.phase }, { on := 10, ground := Go.Ground.phase }, { on := 11, ground := Go.Ground.phase }, { on := 12, ground := Go.Ground.phase }], guard := none }) (v := ?_) rfl (by kernel_rfl) (by kernel_rfl) (by kernel_rfl) (fun _ _ _ h => h) (Or.inl ⟨by rfl, ?_⟩) (by assumption) ?_
            rotate_left
            · intro w hSw; (try dsimp only at hSw); go_simp; try (with_reducible rfl)
            simp only [Act.put, List.setIfInBounds_toArray, List.set_cons_zero, List.set_cons_succ]
            refine wpAnyH_done (by kernel_rfl) ?_ _
            have HR5 := (HRB.out.later HB5.out).set xq
            have u0 := HR5.cell0
            have u2 := HR5.cell2
            have v2 := Lib.frozen_of_heap HR5.b2 0
            have HT : Hid (((w5.setCell ⟨w.heap.size, 0, none⟩ (.int .i64 xq)).setCell ⟨w.heap.size + 1 + 1, 0, none⟩ (.int .i64 xq)).cell? ⟨w.heap.size + 1 + 1, 0, none⟩ = some (.int .i64 xq) ∧ Below w.heap.size w ((w5.setCell ⟨w.heap.size, 0, none⟩ (.int .i64 xq)).setCell ⟨w.heap.size + 1 + 1, 0, none⟩ (.int .i64 xq))) := HR5.out xq
            clear HR5
            generalize hw6 : w5.setCell ⟨w.heap.size, 0, none⟩ (.int .i64 xq) = w6 at *
            go_wp2_with fail
            have f2 := HT.out.1
            refine bodyPost_ret (v := .tuple #[.agg #[.int .i64 xq], .bool false]) (by rw [results_cell_tmp (p := 6) (u := 7) (ty := 112) rfl]; simp [go_sem, f2]) rfl ?_
            exact RFitE.of (by rw [HX.out, HF.out]; rfl) HT.out.2
    | cons s ns =>
      have hi1 : (i : Int) < (p.len : Int) := by simp at hlj; omega
      have hi0 : (0 : Int) ≤ (i : Int) := Int.natCast_nonneg _
      have es : n[i]? = some s := by have := HK.out.2.1 0; simpa using this
      obtain ⟨g, o1, rfl, hcs⟩ := HNA.out wr i s HRB0.out.bel es
      have d14 : wr.cell? ⟨w.heap.size + 1, 14, none⟩ = some (.slice (some ⟨g, o1, none⟩) p.len cn) := by rw [cell_of_row _ _ _ _ _ _ HRB0.out.b1]; exact HC14.out
      have HJ : Hid (i + 1 + ns.length = p.len ∧ (∀ j, n[i + 1 + j]? = ns[j]?) ∧ n[i]? = some s) := ⟨by simp at hlj; omega, fun j => by rw [show i + 1 + j = i + (j + 1) by omega, HK.out.2.1 (j + 1)]; simp, es⟩
      have HNC : Hid (∀ W, Calls Tryz.prog 17 #[.string s] W fun e w' => e = .returned (.bool (Sp.isNm s)) ∧ W = w') := fun W => Name_any s W (HNZ.out i s es)
      have HND : Hid (Sp.named ByteArray.empty n = (Sp.isNm s && !Sp.leS s ah && Sp.named s ns)) := by show _ = _; rw [HK.out.2.2.1]; rfl
      have hno : (Sp.isNm s && !Sp.leS s ah && Sp.named s ns) = false → Hid ((Ty.mk 6 o t p n l op c).fitR d r = (false, r - 1)) := fun hh => by
        have how : (Ty.mk 6 o t p n l op c).own = false := by
          have h5 : Sp.named ByteArray.empty n = false := by rw [HND.out]; exact hh
          simp [Ty.own, Sp.namesFit, h5]
        show _ = _; simp only [Ty.fitR]; rw [if_neg (by omega), if_neg (by decide), if_pos how]
      have HT : Hid (∀ W, Below wr.heap.size wr W → (W.setCell ⟨w.heap.size + 1 + 1, 0, none⟩ (.int .i64 (r - 1))).cell? ⟨w.heap.size + 1 + 1, 0, none⟩ = some (.int .i64 (r - 1)) ∧ Below w.heap.size w (W.setCell ⟨w.heap.size + 1 + 1, 0, none⟩ (.int .i64 (r - 1)))) := fun W hW => (HRB0.out.later hW).out (r - 1)
      have HAH : Hid ((i = 0 → ah = ByteArray.empty) ∧ (∀ i', i = i' + 1 → n[i']? = some ah)) := HK.out.2.2.2
      clear HK hlj es
      cases hnm : Sp.isNm s with
      | false =>
        have HX : Hid ((Ty.mk 6 o t p n l op c).fitR d r = (false, r - 1)) := hno (by rw [hnm]; rfl)
        rw [hnm] at HNC
        clear hno HND hnm
        go_wp2_with fail
        go_quiet ((go_at_call 17; exact Calls.quiet_of_same ((HNC.out _).mono (fun e w' h => ⟨h.1, h.2.symm⟩))))
        go_wp2_with fail
        have f2 := fun k => (HT.out _ (below_drewN' _ wr k)).1
        refine bodyPost_ret (v := .tuple #[.agg #[.int .i64 (r - 1)], .bool false]) (by rw [results_cell_tmp (p := 6) (u := 7) (ty := 112) rfl]; simp [go_sem, f2]) rfl ?_
        exact RFitE.of HX.out (HT.out _ (below_drewN' _ _ _)).2
      | true =>
        rw [hnm] at HNC
        by_cases hiz : i = 0
        · have hah := HAH.out.1 hiz
          subst hah
          have HND2 : Hid (Sp.named ByteArray.empty n = Sp.named s ns) := by show _ = _; rw [HND.out, hnm, leS_empty hnm]; rfl
          have hi4 : decide (0 < (i : Int)) = false := by simp; omega
          have hi5 : decide (0 < i) = false := by simp; omega
          have HZ0 : Hid (i = 0) := hiz
          clear hno HND hnm HAH hiz
          go_wp2_with fail
          go_quiet ((go_at_call 17; exact Calls.quiet_of_same ((HNC.out _).mono (fun e w' h => ⟨h.1, h.2.symm⟩))))
          go_wp2_with fail
          go_roundw
          case rel => exact ⟨i + 1, ns, s, by go_num, HJ.out.1, ⟨HRB0.out.later (below_drewN' _ _ _), HJ.out.2.1, HND2.out, fun h => by omega, fun i' h => by have e : i' = i := (by omega); rw [e]; exact HJ.out.2.2⟩⟩
          case measure => simp [intOf]; omega
        · obtain ⟨i', hii⟩ : ∃ i', i = i' + 1 := ⟨i - 1, by omega⟩
          have ea := HAH.out.2 i' hii
          obtain ⟨g', o1', he, hca⟩ := HNA.out wr i' ah HRB0.out.bel ea
          injection he with he
          injection he with he1 he2
          subst he1
          subst he2
          have hwi : IntKind.i64.wrap ((i : Int) - 1) = (i' : Int) := by rw [show (i : Int) - 1 = (i' : Int) by omega]; exact wrap_small (by omega) (by omega)
          have hi2 : (i' : Int) < (p.len : Int) := by omega
          have hi3 : (0 : Int) ≤ (i' : Int) := Int.natCast_nonneg _
          have hi4 : decide (0 < (i : Int)) = true := by simp; omega
          have hi5 : decide (0 < i) = true := by simp; omega
          have HZ0 : Hid (i = i' + 1) := hii
          clear hii hiz
          cases hle : Sp.leS s ah with
          | true =>
            have HX : Hid ((Ty.mk 6 o t p n l op c).fitR d r = (false, r - 1)) := hno (by rw [hnm, hle]; rfl)
            have hle' : (Op.bytesLess s.toList ah.toList || s.toList == ah.toList) = true := hle
            clear hno HND hnm HAH hle ea
            go_wp2_with fail
            go_quiet ((go_at_call 17; exact Calls.quiet_of_same ((HNC.out _).mono (fun e w' h => ⟨h.1, h.2.symm⟩))))
            go_wp2_with fail
            have f2 := fun k => (HT.out _ (below_drewN' _ wr k)).1
            refine bodyPost_ret (v := .tuple #[.agg #[.int .i64 (r - 1)], .bool false]) (by rw [results_cell_tmp (p := 6) (u := 7) (ty := 112) rfl]; simp [go_sem, f2]) rfl ?_
            exact RFitE.of HX.out (HT.out _ (below_drewN' _ _ _)).2
          | false =>
            have HND2 : Hid (Sp.named ByteArray.empty n = Sp.named s ns) := by show _ = _; rw [HND.out, hnm, hle]; rfl
            have hle' : (Op.bytesLess s.toList ah.toList || s.toList == ah.toList) = false := hle
            clear hno HND hnm HAH hle ea
            go_wp2_with fail
            go_quiet ((go_at_call 17; exact Calls.quiet_of_same ((HNC.out _).mono (fun e w' h => ⟨h.1, h.2.symm⟩))))
            go_wp2_with fail
            go_roundw
            case rel => exact ⟨i + 1, ns, s, by go_num, HJ.out.1, ⟨HRB0.out.later (below_drewN' _ _ _), HJ.out.2.1, HND2.out, fun h => by omega, fun i'' h => by have e : i'' = i := (by omega); rw [e]; exact HJ.out.2.2⟩⟩
            case measure => simp [intOf]; omega
end Go.Proofs.YtbjcabpmndhfmaaGreat

/- tenonref07.is: a type of one value; a union. -/
namespace Go.Proofs.YtbjcabpmndhfmaaGreat
open Go.RowKit

set_option maxRecDepth 100000 in
set_option maxHeartbeats 2000000 in
theorem ris_4 (o : Int) (t : Tm) (p : TyL) (n : List ByteArray) (l : List Bool) (op : Bool) (c : ByteArray) (v : Tm) (ct cs : Array Value) (B : Nat → Prop) (w : World) (at_ : Int) (hs : (Ty.mk 4 o t p n l op c).In w B cs) (hv : v.In w B ct) (hB : Sub B w) (hg : v.all.e = 0) (ht : t.all.e = 0) : Calls Tryz.prog 33 #[.agg ct, .agg cs, .int .i64 at_] w (RIsE ((Ty.mk 4 o t p n l op c).has v) at_ w) := by
  obtain ⟨hz, c0, -⟩ := Ty.In_all hs
  obtain ⟨-, -, -, cu, hcu, hcs, hct⟩ := Ty.In_only hs
  obtain ⟨W2, hW2, hb, -, b0, b1⟩ := is_boxes w ct cs
  have d0 : W2.cell? ⟨w.heap.size + 1, 0, none⟩ = some (.int .i64 4) := by rw [cell_of_row _ _ _ _ _ _ b1]; exact c0
  have HL1 : Hid ((loadVar 38 ⟨w.heap.size, 0, none⟩).run Tryz.prog W2 = .ok (.agg ct) W2) := yldT (Tm.In_size hv) (fun x hx => by rw [Nat.zero_add, cell_of_row _ _ _ _ _ _ b0])
  have HL2 : Hid ((loadVar 38 ⟨w.heap.size + 1, 2, none⟩).run Tryz.prog W2 = .ok (.agg cu) W2) := yldT hcs (fun x hx => by rw [cell_of_row _ _ _ _ _ _ b1]; exact hct x hx)
  have HCM : Hid (Calls Tryz.prog 57 #[.agg ct, .agg cu] W2 fun e w' => e = .returned (.int .i64 (v.cmp t)) ∧ Below W2.heap.size W2 w') := compare_any v.sz v t (Nat.le_refl _) ct cu B W2 (v.In_same (hB.same hb) (fun _ h => h) ct hv) (t.In_same (hB.same hb) (fun _ h => h) cu hcu) (hB.later hb) (Tm.ok_all hg) (Tm.ok_all ht)
  have HB : Hid (Below w.heap.size w W2) := hb
  have H : Hid ((Ty.mk 4 o t p n l op c).has v = (v.sameB t, 0)) := by show _ = _; simp [Ty.has]
  have HSB : Hid (v.sameB t = decide (v.cmp t = 0)) := by show _ = _; simp [Tm.sameB, hg, ht]
  clear hs hz c0 b1 b0 hb hv hcu hcs hct hg ht hB
  by_cases hq : v.cmp t = 0
  · have HE : Hid (((Ty.mk 4 o t p n l op c).has v).1 = true) := by show _ = _; rw [H.out, HSB.out]; simp [hq]
    rw [hq] at HCM
    clear hq H HSB
    go_enter Tryz.func33, Tryz.ntmps33
    go_wp2_with (first | ((with_reducible refine ld_row ?_ ?_ HL1.out ?_); rfl; rfl) | ((with_reducible refine ld_row ?_ ?_ HL2.out ?_); rfl; rfl))
    refine HCM.out.mono ?_
    rintro e w1 ⟨rfl, hb1⟩
    have H1 : Hid (Below w.heap.size w w1) := HB.out.trans (hb1.mono HB.out.size)
    clear hb1
    go_wp2_with fail
    go_ret2
    exact RIsE.yes HE.out H1.out
  · have HE : Hid ((Ty.mk 4 o t p n l op c).has v = (false, 0)) := by show _ = _; rw [H.out, HSB.out]; simp [hq]
    have hqb : (v.cmp t == 0) = false := by simp [hq]
    clear H HSB hq
    generalize v.cmp t = q at *
    go_enter Tryz.func33, Tryz.ntmps33
    go_wp2_with (first | ((with_reducible refine ld_row ?_ ?_ HL1.out ?_); rfl; rfl) | ((with_reducible refine ld_row ?_ ?_ HL2.out ?_); rfl; rfl))
    refine HCM.out.mono ?_
    rintro e w1 ⟨rfl, hb1⟩
    have H1 : Hid (Below w.heap.size w w1) := HB.out.trans (hb1.mono HB.out.size)
    clear hb1
    go_wp2_with fail
    go_ret2
    exact RIsE.no0 HE.out H1.out

set_option maxRecDepth 100000 in
set_option maxHeartbeats 4000000 in
theorem ris_7 (N : Nat) (HC : RIsC N) (o : Int) (t : Tm) (p : TyL) (hN : p.sz ≤ N) (hok : p.ok = true) (n : List ByteArray) (l : List Bool) (op : Bool) (c : ByteArray) (v : Tm) (ct cs : Array Value) (B : Nat → Prop) (w : World) (at_ : Int) (hs : (Ty.mk 7 o t p n l op c).In w B cs) (hv : v.In w B ct) (hB : Sub B w) (hg : v.all.e = 0) (h0 : 0 ≤ at_) (h1 : at_ + v.pn ≤ 16384) : Calls Tryz.prog 33 #[.agg ct, .agg cs, .int .i64 at_] w (RIsE ((Ty.mk 7 o t p n l op c).has v) at_ w) := by
  obtain ⟨hz, c0, -, -, -, ap, cp, -, -, -, -, c13, -, -, hp, -, -, -, hpl, -⟩ := Ty.In_all hs
  obtain ⟨W2, hW2, hb, hsz, b0, b1⟩ := is_boxes w ct cs
  have d0 : W2.cell? ⟨w.heap.size + 1, 0, none⟩ = some (.int .i64 7) := by rw [cell_of_row _ _ _ _ _ _ b1]; exact c0
  have HB : Hid (Below w.heap.size w W2) := hb
  have HX : Hid (∀ W, Below W2.heap.size W2 W → (loadVar 38 ⟨w.heap.size, 0, none⟩).run Tryz.prog W = .ok (.agg ct) W ∧ W.cell? ⟨w.heap.size + 1, 13, none⟩ = some (.slice ap p.len cp) ∧ Sub B W ∧ Same B w W) := fun W hW => by
    have hbw := hb.trans (hW.mono hb.size)
    refine ⟨yldT (Tm.In_size hv) (fun x hx => by rw [Nat.zero_add, hW.cell (p := ⟨w.heap.size, x, none⟩) (by show w.heap.size < _; omega), cell_of_row _ _ _ _ _ _ b0]), by rw [hW.cell (p := ⟨w.heap.size + 1, 13, none⟩) (by show w.heap.size + 1 < _; omega), cell_of_row _ _ _ _ _ _ b1]; exact c13, hB.later hbw, hB.same hbw⟩
  have HV : Hid (v.In w B ct ∧ v.all.e = 0 ∧ RIsC N ∧ p.In w B ap 0 ∧ Sub B w) := ⟨hv, hg, HC, hp, hB⟩
  have H : Hid ((Ty.mk 7 o t p n l op c).has v = (p.hasAny v, 0)) := by show _ = _; simp [Ty.has]
  have hat : at_ ≤ 16384 := by have := v.pn_pos; omega
  clear hs hz c0 c13 b1 b0 hb hv hg HC hp hB hsz
  have d13 := (HX.out W2 (Below.refl _ _)).2.1
  go_enter Tryz.func33, Tryz.ntmps33
  go_wp2_with fail
  go_loopw [8, 9] (fun b x wr => ∃ (j : Nat) (l' : TyL) (r : Bool), b = .bool r ∧ x = .int .i64 j ∧ l'.len + j = p.len ∧ l'.sz ≤ N ∧ l'.ok = true ∧ Hid (Below W2.heap.size W2 wr ∧ l'.In w B ap j ∧ p.hasAny v = (r || l'.hasAny v))) (fun _ x _ => p.len - (intOf x).toNat)
  case atStart => exact ⟨0, p, false, rfl, rfl, rfl, hN, hok, ⟨Below.refl _ _, HV.out.2.2.2.1, by simp⟩⟩
  case round =>
    obtain ⟨j, l', r, rfl, rfl, hlj, hlN, hlo, HK⟩ := hrel
    have e13 := (HX.out wr HK.out.1).2.1
    cases l' with
    | nil =>
      have hj' : p.len ≤ j := by simp [TyL.len] at hlj; omega
      have HR : Hid (p.hasAny v = r ∧ Below w.heap.size w wr) := ⟨by rw [HK.out.2.2]; simp [TyL.hasAny], HB.out.trans (HK.out.1.mono HB.out.size)⟩
      clear hlj HK
      cases r with
      | true =>
        go_wp2_with fail
        go_ret2
        exact RIsE.yes (by rw [H.out]; exact HR.out.1) HR.out.2
      | false =>
        go_wp2_with fail
        go_ret2
        exact RIsE.no0 (by rw [H.out, HR.out.1]) HR.out.2
    | cons t' l' =>
      obtain ⟨hbw, hin, hany⟩ := HK.out
      simp only [TyL.In] at hin
      obtain ⟨g, o1, cs', rfl, hgg, hcl, hti, hin'⟩ := hin
      have hj1 : j < p.len := by simp only [TyL.len] at hlj; omega
      have HJ : Hid (l'.len + (j + 1) = p.len) := by show _ = _; simp only [TyL.len] at hlj; omega
      have htN : t'.sz ≤ N ∧ l'.sz ≤ N := by simp [TyL.sz] at hlN; omega
      have hto : t'.ok = true ∧ l'.ok = true := by simpa [TyL.ok] using hlo
      have hs' := (Ty.In_cells hti).1
      have HS : Hid (∀ W, Below wr.heap.size wr W → (loadVar 38 ⟨w.heap.size, 0, none⟩).run Tryz.prog W = .ok (.agg ct) W ∧ W.cell? ⟨w.heap.size + 1, 13, none⟩ = some (.slice (some ⟨g, o1, none⟩) p.len cp) ∧ (loadVar 43 ⟨g, o1 + j * 18, none⟩).run Tryz.prog W = .ok (.agg cs') W) := fun W hW => by
        have hW2 := hbw.trans (hW.mono hbw.size)
        obtain ⟨q1, q2, q3, q4⟩ := HX.out W hW2
        exact ⟨q1, q2, yldE hs' (fun x hx => by rw [q4.cell (p := ⟨g, o1 + j * 18 + x, none⟩) hgg]; exact hcl x hx)⟩
      have HO : Hid (∀ W, Below wr.heap.size wr W → Calls Tryz.prog 33 #[.agg ct, .agg cs', .int .i64 at_] W (RIsE (t'.has v) at_ W)) := fun W hW => by
        obtain ⟨-, -, q3, q4⟩ := HX.out W (hbw.trans (hW.mono hbw.size))
        exact HV.out.2.2.1 t' htN.1 hto.1 v ct cs' B W at_ HV.out.2.1 (v.In_same q4 (fun _ h => h) ct HV.out.1) (t'.In_same q4 (fun _ h => h) cs' hti) q3 h0 h1
      have HN : Hid (Below W2.heap.size W2 wr ∧ l'.In w B (some ⟨g, o1, none⟩) (j + 1) ∧ p.hasAny v = (r || ((t'.has v).1 || l'.hasAny v))) := ⟨hbw, hin', by rw [hany]; rfl⟩
      have hi0 : (0 : Int) ≤ (j : Int) := Int.natCast_nonneg _
      have hi1 : (j : Int) < (p.len : Int) := by omega
      unfold RIsE at HO
      clear hlj hlN hlo HK hbw hin' hany hcl hti hs' hgg
      generalize t'.has v = x at *
      obtain ⟨xb, xq⟩ := x
      simp only at HO
      generalize (if xb = true then (0 : Int) else at_ + xq) = yq at HO
      go_wp2_with fail
      refine wp_region_held_drew (S := fun W => (loadVar 38 ⟨w.heap.size, 0, none⟩).run Tryz.prog W = .ok (.agg ct) W ∧ W.cell? ⟨w.heap.size + 1, 13, none⟩ = some (.slice (some ⟨g, o1, none⟩) p.len cp) ∧ (loadVar 43 ⟨g, o1 + j * 18, none⟩).run Tryz.prog W = .ok (.agg cs') W) (by kernel_rfl) ?_ (fun hHeld => ?_)
      · exact HS.out _ (Below.refl _ _).drew
      refine wpAnyH_take (i := 0) (oi := { dst := some 52, op := Go.Op.load 38 (Go.Operand.tmp 3), type := 38, pos := "ref.go:91", after := #[], guard := none }) (v := (.agg ct)) rfl (by kernel_rfl) (by kernel_rfl) (by kernel_rfl) (fun _ _ _ h => h) (take_ld rfl rfl rfl (fun w hSw => hSw.1)) (by assumption) ?_
      simp only [Act.put, List.setIfInBounds_toArray, List.set_cons_zero, List.set_cons_succ]
      refine wpAnyH_take (i := 1) (oi := { dst := some 53, op := Go.Op.fieldAddr 43 (Go.Operand.tmp 4) 3, type := 0, pos := "ref.go:91", after := #[], guard := none }) (v := ?_) rfl (by kernel_rfl) (by kernel_rfl) (by kernel_rfl) (fun _ _ _ h => h) (Or.inl ⟨by rfl, ?_⟩) (by assumption) ?_
      rotate_left
      · intro w hSw; (try dsimp only at hSw); go_simp; try (with_reducible rfl)
      simp only [Act.put, List.setIfInBounds_toArray, List.set_cons_zero, List.set_cons_succ]
      refine wpAnyH_take (i := 2) (oi := { dst := some 54, op := Go.Op.load 39 (Go.Operand.tmp 53), type := 39, pos := "ref.go:91", after := #[{ on := 1, ground := Go.Ground.data }], guard := none }) (v := ?_) rfl (by kernel_rfl) (by kernel_rfl) (by kernel_rfl) (fun _ _ _ h => h) (Or.inl ⟨by rfl, ?_⟩) (by assumption) ?_
      rotate_left
      · intro w hSw; (try dsimp only at hSw); go_simp; try (with_reducible rfl)
      simp only [Act.put, List.setIfInBounds_toArray, List.set_cons_zero, List.set_cons_succ]
      refine wpAnyH_take (i := 3) (oi := { dst := some 55, op := Go.Op.move (Go.Operand.tmp 9), type := 3, pos := "ref.go:91", after := #[], guard := none }) (v := ?_) rfl (by kernel_rfl) (by kernel_rfl) (by kernel_rfl) (fun _ _ _ h => h) (Or.inl ⟨by rfl, ?_⟩) (by assumption) ?_
      rotate_left
      · intro w hSw; (try dsimp only at hSw); go_simp; try (with_reducible rfl)
      simp only [Act.put, List.setIfInBounds_toArray, List.set_cons_zero, List.set_cons_succ]
      refine wpAnyH_take (i := 4) (oi := { dst := some 56, op := Go.Op.indexAddr 39 (Go.Operand.tmp 54) (Go.Operand.tmp 55), type := 0, pos := "ref.go:91", after := #[{ on := 2, ground := Go.Ground.data }, { on := 3, ground := Go.Ground.data }], guard := none }) (v := ?_) rfl (by kernel_rfl) (by kernel_rfl) (by kernel_rfl) (fun _ _ _ h => h) (Or.inl ⟨by rfl, ?_⟩) (by assumption) ?_
      rotate_left
      · intro w hSw; (try dsimp only at hSw); go_simp; try (with_reducible rfl)
      simp only [Act.put, List.setIfInBounds_toArray, List.set_cons_zero, List.set_cons_succ]
      refine wpAnyH_take (i := 5) (oi := { dst := some 57, op := Go.Op.load 43 (Go.Operand.tmp 56), type := 43, pos := "ref.go:91", after := #[{ on := 4, ground := Go.Ground.data }], guard := none }) (v := (.agg cs')) rfl (by kernel_rfl) (by kernel_rfl) (by kernel_rfl) (fun _ _ _ h => h) (take_ld rfl rfl rfl (fun w hSw => hSw.2.2)) (by assumption) ?_
      simp only [Act.put, List.setIfInBounds_toArray, List.set_cons_zero, List.set_cons_succ]
      refine wpAnyH_take (i := 6) (oi := { dst := some 58, op := Go.Op.move (Go.Operand.tmp 2), type := 3, pos := "ref.go:91", after := #[], guard := none }) (v := ?_) rfl (by kernel_rfl) (by kernel_rfl) (by kernel_rfl) (fun _ _ _ h => h) (Or.inl ⟨by rfl, ?_⟩) (by assumption) ?_
      rotate_left
      · intro w hSw; (try dsimp only at hSw); go_simp; try (with_reducible rfl)
      simp only [Act.put, List.setIfInBounds_toArray, List.set_cons_zero, List.set_cons_succ]
      refine wpAnyH_ready (rs := [7]) (by kernel_rfl) (by simp) ?_
      refine AllReadyH.cons (o := { dst := some 59, op := Go.Op.call { callee := Go.Callee.value (Go.Operand.func 33), args := #[Go.Operand.tmp 52, Go.Operand.tmp 57, Go.Operand.tmp 58], argTypes := #[38, 43, 3] }, type := 64, pos := "ref.go:91", after := #[{ on := 0, ground := Go.Ground.data }, { on := 5, ground := Go.Ground.data }, { on := 6, ground := Go.Ground.data }], guard := none }) rfl (fun K hK => ?_) AllReadyH.nil
      go_simp
      (refine (HO.out _ (Below.refl _ _).drew).mono ?_; rintro e w5 ⟨rfl, hb5⟩; have HB5 : Hid (Below wr.heap.size wr w5) := below_to (Below.refl _ _).drew hb5; clear hb5)
      go_wp2_with fail
      refine hK.out _ _ ?_ (fun hHeld => ?_)
      · exact HS.out _ HB5.out
      clear hK K
      refine wpAnyH_take (i := 8) (oi := { dst := some 51, op := Go.Op.move (Go.Operand.tmp 59), type := 64, pos := "ref.go:91", after := #[{ on := 7, ground := Go.Ground.data }], guard := none }) (v := ?_) rfl (by kernel_rfl) (by kernel_rfl) (by kernel_rfl) (fun _ _ _ h => h) (Or.inl ⟨by rfl, ?_⟩) (by assumption) ?_
      rotate_left
      · intro w hSw; (try dsimp only at hSw); go_simp; try (with_reducible rfl)
      simp only [Act.put, List.setIfInBounds_toArray, List.set_cons_zero, List.set_cons_succ]
      refine wpAnyH_take (i := 9) (oi := { dst := some 60, op := Go.Op.extract (Go.Operand.tmp 51) 0, type := 4, pos := "ref.go:91", after := #[{ on := 8, ground := Go.Ground.data }], guard := none }) (v := ?_) rfl (by kernel_rfl) (by kernel_rfl) (by kernel_rfl) (fun _ _ _ h => h) (Or.inl ⟨by rfl, ?_⟩) (by assumption) ?_
      rotate_left
      · intro w hSw; (try dsimp only at hSw); go_simp; try (with_reducible rfl)
      simp only [Act.put, List.setIfInBounds_toArray, List.set_cons_zero, List.set_cons_succ]
      refine wpAnyH_take (i := 10) (oi := { dst := some 61, op := Go.Op.extract (Go.Operand.tmp 51) 1, type := 3, pos := "ref.go:91", after := #[{ on := 8, ground := Go.Ground.data }, { on := 11, ground := Go.Ground.gcOnly Go.Departure.lateStores }], guard := none }) (v := ?_) rfl (by kernel_rfl) (by kernel_rfl) (by kernel_rfl) (fun _ _ _ h => h) (Or.inl ⟨by rfl, ?_⟩) (by assumption) ?_
      rotate_left
      · intro w hSw; (try dsimp only at hSw); go_simp; try (with_reducible rfl)
      simp only [Act.put, List.setIfInBounds_toArray, List.set_cons_zero, List.set_cons_succ]
      refine wpAnyH_take (i := 11) (oi := { dst := some 10, op := Go.Op.assign (Go.Operand.tmp 60), type := 4, pos := "ref.go:91", after := #[{ on := 9, ground := Go.Ground.data }, { on := 7, ground := Go.Ground.chain }, { on := 0, ground := Go.Ground.phase }, { on := 1, ground := Go.Ground.phase }, { on := 2, ground := Go.Ground.phase }, { on := 3, ground := Go.Ground.phase }, { on := 4, ground := Go.Ground.phase }, { on := 5, ground := Go.Ground.phase }, { on := 6, ground := Go.Ground.phase }, { on := 7, ground := Go.Ground.phase }, { on := 8, ground := Go.Ground.phase }, { on := 9, ground := Go.Ground.phase }, { on := 10, ground := Go.Ground.textOnly Go.Departure.lateStores }], guard := none }) (v := ?_) rfl (by kernel_rfl) (by kernel_rfl) (by kernel_rfl) (fun _ _ _ h => h) (Or.inl ⟨by rfl, ?_⟩) (by assumption) ?_
      rotate_left
      · intro w hSw; (try dsimp only at hSw); go_simp; try (with_reducible rfl)
      simp only [Act.put, List.setIfInBounds_toArray, List.set_cons_zero, List.set_cons_succ]
      refine wpAnyH_take (i := 12) (oi := { dst := some 11, op := Go.Op.assign (Go.Operand.tmp 61), type := 3, pos := "ref.go:91", after := #[{ on := 10, ground := Go.Ground.data }, { on := 11, ground := Go.Ground.chain }, { on := 0, ground := Go.Ground.phase }, { on := 1, ground := Go.Ground.phase }, { on := 2, ground := Go.Ground.phase }, { on := 3, ground := Go.Ground.phase }, { on := 4, ground := Go.Ground.phase }, { on := 5, ground := Go.Ground.phase }, { on := 6, ground := Go.Ground.phase }, { on := 7, ground := Go.Ground.phase }, { on := 8, ground := Go.Ground.phase }, { on := 9, ground := Go.Ground.phase }, { on := 10, ground := Go.Ground.phase }, { on := 11, ground := Go.Ground.phase }], guard := none }) (v := ?_) rfl (by kernel_rfl) (by kernel_rfl) (by kernel_rfl) (fun _ _ _ h => h) (Or.inl ⟨by rfl, ?_⟩) (by assumption) ?_
      rotate_left
      · intro w hSw; (try dsimp only at hSw); go_simp; try (with_reducible rfl)
      simp only [Act.put, List.setIfInBounds_toArray, List.set_cons_zero, List.set_cons_succ]
      refine wpAnyH_done (by kernel_rfl) ?_ _
      have H5 : Hid (Below W2.heap.size W2 w5) := HN.out.1.trans (HB5.out.mono HN.out.1.size)
      cases r with
      | true =>
        go_wp2_with fail
        go_roundw
        case rel => exact ⟨j + 1, l', true, rfl, by go_num, HJ.out, htN.2, hto.2, ⟨H5.out, HN.out.2.1, by rw [HN.out.2.2]; simp⟩⟩
        case measure => simp [intOf]; omega
      | false =>
        go_wp2_with fail
        go_roundw
        case rel => exact ⟨j + 1, l', xb, rfl, by go_num, HJ.out, htN.2, hto.2, ⟨H5.out, HN.out.2.1, by rw [HN.out.2.2]; simp⟩⟩
        case measure => simp [intOf]; omega
end Go.Proofs.YtbjcabpmndhfmaaGreat

/- tenonref06.rising: whether names are names, and rise. -/
namespace Go.Proofs.YtbjcabpmndhfmaaGreat
open Go.RowKit

set_option maxRecDepth 100000 in
set_option maxHeartbeats 4000000 in
theorem rising_any (n : List ByteArray) (an : Option Addr) (cn : Nat) (B : Nat → Prop) (w : World) (hn : NamesAt w B an n) (hB : Sub B w) (hnl : n.length ≤ 70368744177664) :
    Calls Tryz.prog 53 #[.slice an n.length cn] w fun e w' => e = .returned (.bool (Sp.named ByteArray.empty n)) ∧ Below w.heap.size w w' := by
  have HNA : Hid (∀ W k s, Below w.heap.size w W → n[k]? = some s → ∃ g o, an = some ⟨g, o, none⟩ ∧ W.cell? ⟨g, o + k, none⟩ = some (.string s)) := fun W k s hW hk => by
    obtain ⟨g, o, e, hg, hc, _⟩ := hn k s hk
    exact ⟨g, o, e, by rw [(hB.same hW).cell (p := ⟨g, o + k, none⟩) hg]; exact hc⟩
  have HNZ : Hid (∀ (k : Nat) (s : ByteArray), n[k]? = some s → s.size ≤ maxLen) := fun k s hk => by
    obtain ⟨g, o, e, hg, hc, hz⟩ := hn k s hk
    unfold maxLen; omega
  clear hn hB
  obtain ⟨P, hP⟩ : ∃ P, n.length = P := ⟨_, rfl⟩
  rw [hP] at hnl ⊢
  have HP : Hid (n.length = P) := hP
  clear hP
  go_enter Tryz.func53, Tryz.ntmps53
  go_wp2_with fail
  go_loopw [3] (fun x wr => ∃ (i : Nat) (ns : List ByteArray) (ah : ByteArray), x = .int .i64 i ∧ i + ns.length = P ∧ Hid (Below w.heap.size w wr ∧ (∀ j, n[i + j]? = ns[j]?) ∧ Sp.named ByteArray.empty n = Sp.named ah ns ∧ (i = 0 → ah = ByteArray.empty) ∧ (∀ i', i = i' + 1 → n[i']? = some ah))) (fun x _ => P - (intOf x).toNat)
  case atStart => exact ⟨0, n, ByteArray.empty, rfl, by rw [Nat.zero_add]; exact HP.out, ⟨Below.refl _ _, fun j => by simp, rfl, fun _ => rfl, fun i' h => by omega⟩⟩
  case round =>
    obtain ⟨i, ns, ah, rfl, hlj, HK⟩ := hrel
    cases ns with
    | nil =>
      have hj' : P ≤ i := by simp at hlj; omega
      have HX : Hid (Sp.named ByteArray.empty n = true ∧ Below w.heap.size w wr) := ⟨by rw [HK.out.2.2.1]; rfl, HK.out.1⟩
      clear hlj HK
      go_wp2_with fail
      go_ret
      exact ⟨ret_bool HX.out.1.symm, HX.out.2⟩
    | cons s ns =>
      have hi1 : (i : Int) < (P : Int) := by simp at hlj; omega
      have hi0 : (0 : Int) ≤ (i : Int) := Int.natCast_nonneg _
      have es : n[i]? = some s := by have := HK.out.2.1 0; simpa using this
      obtain ⟨g, o1, rfl, hcs⟩ := HNA.out wr i s HK.out.1 es
      have HBR : Hid (Below w.heap.size w wr) := HK.out.1
      have HJ : Hid (i + 1 + ns.length = P ∧ (∀ j, n[i + 1 + j]? = ns[j]?) ∧ n[i]? = some s) := ⟨by simp at hlj; omega, fun j => by rw [show i + 1 + j = i + (j + 1) by omega, HK.out.2.1 (j + 1)]; simp, es⟩
      have HNC : Hid (∀ W, Calls Tryz.prog 17 #[.string s] W fun e w' => e = .returned (.bool (Sp.isNm s)) ∧ W = w') := fun W => Name_any s W (HNZ.out i s es)
      have HND : Hid (Sp.named ByteArray.empty n = (Sp.isNm s && !Sp.leS s ah && Sp.named s ns)) := by show _ = _; rw [HK.out.2.2.1]; rfl
      have HDR : Hid (∀ k, Below w.heap.size w (wr.drewN k)) := fun k => HBR.out.trans ((below_drewN' _ wr k).mono HBR.out.size)
      have HAH : Hid ((i = 0 → ah = ByteArray.empty) ∧ (∀ i', i = i' + 1 → n[i']? = some ah)) := HK.out.2.2.2
      clear HK hlj es
      cases hnm : Sp.isNm s with
      | false =>
        have HX : Hid (Sp.named ByteArray.empty n = false) := by show _ = _; rw [HND.out, hnm]; rfl
        rw [hnm] at HNC
        clear HND hnm
        go_wp2_with fail
        go_quiet ((go_at_call 17; exact Calls.quiet_of_same ((HNC.out _).mono (fun e w' h => ⟨h.1, h.2.symm⟩))))
        go_wp2_with fail
        go_ret
        exact ⟨ret_bool HX.out.symm, HDR.out _⟩
      | true =>
        rw [hnm] at HNC
        by_cases hiz : i = 0
        · have hah := HAH.out.1 hiz
          subst hah
          have HND2 : Hid (Sp.named ByteArray.empty n = Sp.named s ns) := by show _ = _; rw [HND.out, hnm, leS_empty hnm]; rfl
          have hi4 : decide (0 < (i : Int)) = false := by simp; omega
          have hi5 : decide (0 < i) = false := by simp; omega
          have HZ0 : Hid (i = 0) := hiz
          clear HND hnm HAH hiz
          go_wp2_with fail
          go_quiet ((go_at_call 17; exact Calls.quiet_of_same ((HNC.out _).mono (fun e w' h => ⟨h.1, h.2.symm⟩))))
          go_wp2_with fail
          go_roundw
          case rel => exact ⟨i + 1, ns, s, by go_num, HJ.out.1, ⟨HDR.out _, HJ.out.2.1, HND2.out, fun h => by omega, fun i' h => by have e : i' = i := (by omega); rw [e]; exact HJ.out.2.2⟩⟩
          case measure => simp [intOf]; omega
        · obtain ⟨i', hii⟩ : ∃ i', i = i' + 1 := ⟨i - 1, by omega⟩
          have ea := HAH.out.2 i' hii
          obtain ⟨g', o1', he, hca⟩ := HNA.out wr i' ah HBR.out ea
          injection he with he
          injection he with he1 he2
          subst he1
          subst he2
          have hwi : IntKind.i64.wrap ((i : Int) - 1) = (i' : Int) := by rw [show (i : Int) - 1 = (i' : Int) by omega]; exact Go.wrap_small _ (by omega) (by omega)
          have hi2 : (i' : Int) < (P : Int) := by omega
          have hi3 : (0 : Int) ≤ (i' : Int) := Int.natCast_nonneg _
          have hi4 : decide (0 < (i : Int)) = true := by simp; omega
          have hi5 : decide (0 < i) = true := by simp; omega
          have HZ0 : Hid (i = i' + 1) := hii
          clear hii hiz
          cases hle : Sp.leS s ah with
          | true =>
            have HX : Hid (Sp.named ByteArray.empty n = false) := by show _ = _; rw [HND.out, hnm, hle]; rfl
            have hle' : (Op.bytesLess s.toList ah.toList || s.toList == ah.toList) = true := hle
            clear HND hnm HAH hle ea
            go_wp2_with fail
            go_quiet ((go_at_call 17; exact Calls.quiet_of_same ((HNC.out _).mono (fun e w' h => ⟨h.1, h.2.symm⟩))))
            go_wp2_with fail
            go_ret
            exact ⟨ret_bool HX.out.symm, HDR.out _⟩
          | false =>
            have HND2 : Hid (Sp.named ByteArray.empty n = Sp.named s ns) := by show _ = _; rw [HND.out, hnm, hle]; rfl
            have hle' : (Op.bytesLess s.toList ah.toList || s.toList == ah.toList) = false := hle
            clear HND hnm HAH hle ea
            go_wp2_with fail
            go_quiet ((go_at_call 17; exact Calls.quiet_of_same ((HNC.out _).mono (fun e w' h => ⟨h.1, h.2.symm⟩))))
            go_wp2_with fail
            go_roundw
            case rel => exact ⟨i + 1, ns, s, by go_num, HJ.out.1, ⟨HDR.out _, HJ.out.2.1, HND2.out, fun h => by omega, fun i'' h => by have e : i'' = i := (by omega); rw [e]; exact HJ.out.2.2⟩⟩
            case measure => simp [intOf]; omega
end Go.Proofs.YtbjcabpmndhfmaaGreat

