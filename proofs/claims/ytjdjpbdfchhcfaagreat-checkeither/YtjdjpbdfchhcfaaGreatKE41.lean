/- check.hasDict: a dict's fields against a dict's type. -/
import Derived.Test.YtjdjpbdfchhcfaaGreatKE1
import Derived.Test.YtjdjpbdfchhcfaaGreatKE40
import Derived.Test.YtjdjpbdfchhcfaaGreatKE29
import Derived.Test.YtjdjpbdfchhcfaaGreatKE26
import Derived.RangeFuncBox
namespace Go.Proofs.YtjdjpbdfchhcfaaGreat
open Go.RowKit Go.Shelf

def TyL.get : TyL → Nat → Option Ty
  | .nil, _ => none
  | .cons t _, 0 => some t
  | .cons _ l, k + 1 => l.get k
theorem TyL.get_some : (l : TyL) → ∀ j, j < l.len → ∃ t, l.get j = some t
  | .nil, j, h => by simp [TyL.len] at h
  | .cons t l, 0, _ => ⟨t, rfl⟩
  | .cons t l, j + 1, h => TyL.get_some l j (by simp [TyL.len] at h; omega)
theorem TyL.get_fns : (l : TyL) → ∀ j t, l.get j = some t → l.fns[j]? = some t.has
  | .nil, j, t, h => by simp [TyL.get] at h
  | .cons u l, 0, t, h => by simp [TyL.get] at h; subst h; rfl
  | .cons u l, j + 1, t, h => by simp only [TyL.fns]; exact TyL.get_fns l j t h
theorem TyL.fns_len : (l : TyL) → l.fns.length = l.len
  | .nil => rfl
  | .cons t l => by simp only [TyL.fns, TyL.len, List.length_cons, TyL.fns_len l]
theorem TyL.Sh_at : (l : TyL) → ∀ {w : World} {B : Nat → Prop} {a : Option Addr} {k j : Nat} {t : Ty}, l.Sh w B a k → l.ok = true → l.get j = some t → ∃ g o b, a = some ⟨g, o, none⟩ ∧ B g ∧ w.cell? ⟨g, o + (k + j), none⟩ = some (.pointer (some ⟨b, 0, none⟩)) ∧ t.Sh w B b ∧ t.ok = true ∧ t.sz ≤ l.sz
  | .nil, w, B, a, k, j, t, _, _, h => by simp [TyL.get] at h
  | .cons u l, w, B, a, k, 0, t, hS, ho, h => by
    simp only [TyL.Sh] at hS
    obtain ⟨g, o, b, e, hg, c0, hs, _⟩ := hS
    simp [TyL.get] at h
    subst h
    simp only [TyL.ok, Bool.and_eq_true] at ho
    exact ⟨g, o, b, e, hg, c0, hs, ho.1, by simp only [TyL.sz]; omega⟩
  | .cons u l, w, B, a, k, j + 1, t, hS, ho, h => by
    simp only [TyL.Sh] at hS
    obtain ⟨g, o, b, e, hg, c0, hs, hl⟩ := hS
    simp only [TyL.ok, Bool.and_eq_true] at ho
    obtain ⟨g', o', b', q1, q2, q3, q4, q5, q6⟩ := TyL.Sh_at l (j := j) hl ho.2 h
    exact ⟨g', o', b', q1, q2, by rw [show k + (j + 1) = k + 1 + j by omega]; exact q3, q4, q5, by simp only [TyL.sz]; omega⟩
theorem TmF.get_good : (l : TmF) → l.gd → ∀ j t, l.vals.get j = some t → t.all.e = 0
  | .nil, _, j, t, h => by simp [TmF.vals, TmL.get] at h
  | .cons n u l, g, 0, t, h => by simp [TmF.vals, TmL.get] at h; subst h; exact g.1
  | .cons n u l, g, j + 1, t, h => TmF.get_good l g.2 j t (by simpa [TmF.vals, TmL.get] using h)
theorem TmL.pre_get : (l : TmL) → ∀ j t, l.get j = some t → l.pre (j + 1) = l.pre j + t.pn
  | .nil, j, t, h => by simp [TmL.get] at h
  | .cons u l, 0, t, h => by simp [TmL.get] at h; subst h; simp [TmL.pre]
  | .cons u l, j + 1, t, h => by
    have := TmL.pre_get l j t h
    simp only [TmL.pre] at this ⊢; omega
theorem BoolsAt.at {w : World} {B : Nat → Prop} {a : Option Addr} {l : List Bool} (h : BoolsAt w B a l) {i : Nat} (hi : i < l.length) : ∃ s g o, l[i]? = some s ∧ a = some ⟨g, o, none⟩ ∧ B g ∧ w.cell? ⟨g, o + i, none⟩ = some (.bool s) := by
  obtain ⟨g, o, e, hg, hc⟩ := h i _ (List.getElem?_eq_getElem hi)
  exact ⟨_, g, o, List.getElem?_eq_getElem hi, e, hg, hc⟩

theorem two_set {w W : World} {h : Nat} {v : Value} (b2 : Boxed W (h + 1 + 1) 4 (.bool false)) (b3 : Boxed W (h + 1 + 1 + 1) 3 v) (q : Int) (r : Bool) (hB : Below h w W) :
    Boxed ((W.setCell ⟨h + 1 + 1, 0, none⟩ (.bool r)).setCell ⟨h + 1 + 1 + 1, 0, none⟩ (.int .i64 q)) (h + 1 + 1) 4 (.bool r) ∧ Boxed ((W.setCell ⟨h + 1 + 1, 0, none⟩ (.bool r)).setCell ⟨h + 1 + 1 + 1, 0, none⟩ (.int .i64 q)) (h + 1 + 1 + 1) 3 (.int .i64 q) ∧
      KeepsOthers W ((W.setCell ⟨h + 1 + 1, 0, none⟩ (.bool r)).setCell ⟨h + 1 + 1 + 1, 0, none⟩ (.int .i64 q)) ∧ Below h w ((W.setCell ⟨h + 1 + 1, 0, none⟩ (.bool r)).setCell ⟨h + 1 + 1 + 1, 0, none⟩ (.int .i64 q)) :=
  ⟨(b2.set _).other (by omega) _, (b3.other (by omega) _).set _, (KeepsOthers.setCell _ _ _).trans (KeepsOthers.setCell _ _ _), (hB.setCell (p := ⟨h + 1 + 1, 0, none⟩) (by show h ≤ h + 1 + 1; omega) _).setCell (p := ⟨h + 1 + 1 + 1, 0, none⟩) (by show h ≤ h + 1 + 1 + 1; omega) _⟩
theorem all_snoc {A B : Nat} {g : Int × Int → Bool × Int} {pre : List (PQ A B)} {x : PQ A B} (h : ∀ y ∈ pre, (g y.1).1 = true) (hx : (g x.1).1 = true) : ∀ y ∈ pre ++ [x], (g y.1).1 = true := fun y hy => by
  rcases List.mem_append.1 hy with hy | hy
  · exact h y hy
  · rw [List.mem_singleton.1 hy]; exact hx
theorem boxed_below {W W' : World} {b : Nat} {t : TypeId} {v : Value} (h : Boxed W b t v) (hb : Below W.heap.size W W') : Boxed W' b t v := (hb.block _ h.lt).trans h
theorem cell_below {W W' : World} {p : Addr} {v : Value} (h : W.cell? p = some v) (hb : Below W.heap.size W W') : W'.cell? p = some v := by
  have hp : p.block < W.heap.size := by
    cases hh : W.heap[p.block]? with
    | none => simp [World.cell?, hh] at h
    | some o => exact (Array.getElem?_eq_some_iff.1 hh).1
  rw [hb.cell hp]; exact h

set_option maxRecDepth 100000 in
set_option maxHeartbeats 4000000 in
theorem hasDict_any (N : Nat) (HC : HasC N) (p : TyL) (hN : p.sz ≤ N) (hok : p.ok = true) (NS : List ByteArray) (KS : List Bool) (op : Bool) (F : TmF) (af : Option Addr) (cf b B : Nat) (ap an ak : Option Addr) (cp cn ck : Nat) (w : World) (hB : B ≤ w.heap.size) (hb : b < B)
    (c4 : w.cell? ⟨b, 4, none⟩ = some (.slice ap p.len cp)) (c5 : w.cell? ⟨b, 5, none⟩ = some (.slice an NS.length cn)) (c6 : w.cell? ⟨b, 6, none⟩ = some (.slice ak KS.length ck)) (c7 : w.cell? ⟨b, 7, none⟩ = some (.bool op))
    (hNS : NamesAt w (Lo B) an NS) (hKS : BoolsAt w (Lo B) ak KS) (hp : p.Sh w (Lo B) ap 0) (hF : F.V w (Lo B) af 0) (hgd : F.gd) (hpn : F.pn < 16384) (hl1 : NS.length = p.len) (hl2 : KS.length = NS.length) (hl3 : NS.length ≤ 4096) (hl4 : F.len ≤ 4096) (hcap : F.len ≤ cf) (hcf : cf ≤ 9223372036854775807) :
    Calls Tryz.prog 85 #[.pointer (some ⟨b, 0, none⟩), .slice af F.len cf] w fun e w' => e = .returned (.tuple #[.bool (Sp.firstBad (Sp.stepD op KS p.fns F.vals) (Sp.mrg (NS.length + F.len) 0 0 NS F.names)).1, .int .i64 (Sp.firstBad (Sp.stepD op KS p.fns F.vals) (Sp.mrg (NS.length + F.len) 0 0 NS F.names)).2]) ∧ Below w.heap.size w w' := by
  have hbw : b < w.heap.size := by omega
  have hSame : ∀ W, Below w.heap.size w W → Same (Lo B) w W := fun W hW k hk => hW.block k (Nat.lt_of_lt_of_le hk hB)
  have HX : Hid (∀ W, Below w.heap.size w W → W.cell? ⟨b, 4, none⟩ = some (.slice ap p.len cp) ∧ W.cell? ⟨b, 5, none⟩ = some (.slice an NS.length cn) ∧ W.cell? ⟨b, 6, none⟩ = some (.slice ak KS.length ck) ∧ W.cell? ⟨b, 7, none⟩ = some (.bool op)) := fun W hW =>
    ⟨by rw [hW.cell (p := ⟨b, 4, none⟩) hbw]; exact c4, by rw [hW.cell (p := ⟨b, 5, none⟩) hbw]; exact c5, by rw [hW.cell (p := ⟨b, 6, none⟩) hbw]; exact c6, by rw [hW.cell (p := ⟨b, 7, none⟩) hbw]; exact c7⟩
  have HKB : Hid (∀ W i, Below w.heap.size w W → i < NS.length → ∃ s g o, KS[i]? = some s ∧ ak = some ⟨g, o, none⟩ ∧ W.cell? ⟨g, o + i, none⟩ = some (.bool s)) := fun W i hW hi => by
    obtain ⟨s, g, o, e1, e2, e3, e4⟩ := hKS.at (i := i) (by omega)
    exact ⟨s, g, o, e1, e2, by rw [(hSame W hW).cell (p := ⟨g, o + i, none⟩) e3]; exact e4⟩
  have HPT : Hid (∀ i, i < NS.length → ∃ t g o b', p.fns[i]? = some t.has ∧ ap = some ⟨g, o, none⟩ ∧ (g < w.heap.size ∧ w.cell? ⟨g, o + i, none⟩ = some (.pointer (some ⟨b', 0, none⟩))) ∧ ∀ W v x, Below w.heap.size w W → v.all.e = 0 → v.V w (Lo B) x → Calls Tryz.prog 45 #[.pointer (some ⟨b', 0, none⟩), x] W (HasE t v W)) := fun i hi => by
    obtain ⟨t, ht⟩ := TyL.get_some p i (by omega)
    obtain ⟨g, o, b', q1, q2, q3, q4, q5, q6⟩ := TyL.Sh_at p hp hok ht
    rw [Nat.zero_add] at q3
    exact ⟨t, g, o, b', TyL.get_fns p i t ht, q1, ⟨Nat.lt_of_lt_of_le q2 hB, q3⟩, fun W v x hW hv hx => HC t (by omega) q5 v x b' B W hv (v.V_same (hSame W hW) (fun _ h => h) x hx) (t.Sh_same (hSame W hW) (fun _ h => h) b' q4) (Nat.le_trans hB hW.size)⟩
  have HFT : Hid (∀ j, j < F.len → ∃ v g o m x, F.vals.get j = some v ∧ af = some ⟨g, o, none⟩ ∧ g < w.heap.size ∧ w.cell? ⟨g, o + j * 2, none⟩ = some (.string m) ∧ w.cell? ⟨g, o + j * 2 + 1, none⟩ = some x ∧ v.V w (Lo B) x ∧ v.all.e = 0) := fun j hj => by
    obtain ⟨v, hv⟩ := TmL.get_some F.vals j (by rw [TmF.vals_len]; exact hj)
    obtain ⟨g, o, x, e, hg, q0, q1, hx⟩ := TmF.V_at F hF (n := F.names[j]'(by rw [TmF.names_len]; exact hj)) (List.getElem?_eq_getElem _) hv
    rw [Nat.zero_add] at q0 q1
    exact ⟨v, g, o, _, x, hv, e, Nat.lt_of_lt_of_le hg hB, q0, q1, hx, TmF.get_good F hgd j v hv⟩
  have HZ : Hid (∀ (v : Tm) (x : Value) (W : World), Below w.heap.size w W → v.all.e = 0 → v.V w (Lo B) x → Calls Tryz.prog 106 #[x] W fun e w' => e = .returned (.int .i64 v.pn) ∧ Below W.heap.size W w') := fun v x W hW hg hv => by
    have := sizeOf_any v x B W (Nat.le_trans hB hW.size) (v.V_same (hSame W hW) (fun _ h => h) x hv)
    rw [(Tm.good_pn hg).1] at this; exact this
  have HTG : Hid (∀ W, Calls Tryz.prog 102 #[.slice an NS.length cn, .slice af F.len cf, .func (.func 103) #[] #[]] W fun e w' =>
    e = .returned (.func (.func 121) #[] #[.pointer (some ⟨W.heap.size, 0, none⟩), .pointer (some ⟨W.heap.size + 1, 0, none⟩), .pointer (some ⟨W.heap.size + 1 + 1, 0, none⟩)]) ∧
      ((W.alloc (.cells #[.slice an NS.length cn] 31)).alloc (.cells #[.slice af F.len cf] 72)).alloc (.cells #[.func (.func 103) #[] #[]] 169) = w') := fun W => together_any an af NS.length cn F.len cf W
  have HMEM : Hid (NamesAt w (Lo w.heap.size) an NS ∧ F.V w (Lo w.heap.size) af 0) := ⟨hNS.same (Same.refl _ _) (Lo.le hB), F.V_same (Same.refl _ _) (Lo.le hB) af 0 hF⟩
  have hpp : ∀ j, 0 ≤ F.vals.pre j ∧ F.vals.pre j ≤ F.pn := fun j => by have := F.vals.pre_bd j; rw [TmF.vals_pn] at this; exact this
  have HBDS : Hid (∀ (i : Nat) (f : Tm → Bool × Int) (v : Tm), p.fns[i]? = some f → 0 ≤ (f v).2 ∧ (f v).2 < v.pn) := fun i f v hf => TyL.fns_bd p f (List.mem_of_getElem? hf) v
  have HPP : Hid (∀ j v, F.vals.get j = some v → F.vals.pre (j + 1) = F.vals.pre j + v.pn) := fun j v h => TmL.pre_get F.vals j v h
  obtain ⟨g, HG⟩ : ∃ g, Hid (g = Sp.stepD op KS p.fns F.vals) := ⟨_, show _ = _ from rfl⟩
  obtain ⟨M, HM⟩ : ∃ M, Hid (M = Sp.mrg (NS.length + F.len) 0 0 NS F.names) := ⟨_, show _ = _ from rfl⟩
  rw [← HM.out, ← HG.out]
  have HLN : Hid (NS.length = p.len ∧ KS.length = NS.length) := ⟨hl1, hl2⟩
  clear hNS hKS hp hF hgd HC hSame c4 c5 c6 c7 hok hN hl1 hl2
  obtain ⟨w4, hw4⟩ : ∃ w4, ((((w.alloc (.cells #[.pointer (some ⟨b, 0, none⟩)] 60)).alloc (.cells #[.slice af F.len cf] 73)).alloc (.cells #[.bool false] 4)).alloc (.cells #[.int .i64 0] 3)) = w4 := ⟨_, rfl⟩
  have HW4 : Hid (Below w.heap.size w w4 ∧ w4.heap.size = w.heap.size + 1 + 1 + 1 + 1 ∧ w4.cell? ⟨w.heap.size, 0, none⟩ = some (.pointer (some ⟨b, 0, none⟩)) ∧ w4.cell? ⟨w.heap.size + 1, 0, none⟩ = some (.slice af F.len cf) ∧ Boxed w4 (w.heap.size + 1 + 1) 4 (.bool false) ∧ Boxed w4 (w.heap.size + 1 + 1 + 1) 3 (.int .i64 0)) := by
    rw [← hw4]
    have b0 := Boxed.new w 60 (.pointer (some ⟨b, 0, none⟩))
    have b1 := Boxed.new (w.alloc (.cells #[.pointer (some ⟨b, 0, none⟩)] 60)) 73 (.slice af F.len cf)
    have b2 := Boxed.new ((w.alloc (.cells #[.pointer (some ⟨b, 0, none⟩)] 60)).alloc (.cells #[.slice af F.len cf] 73)) 4 (.bool false)
    have b3 := Boxed.new (((w.alloc (.cells #[.pointer (some ⟨b, 0, none⟩)] 60)).alloc (.cells #[.slice af F.len cf] 73)).alloc (.cells #[.bool false] 4)) 3 (.int .i64 0)
    simp only [World.size_alloc] at b1 b2 b3
    exact ⟨((((Below.refl _ w).alloc (Nat.le_refl _) _).alloc (by simp) _).alloc (by simp; omega) _).alloc (by simp; omega) _, by simp only [World.size_alloc], (((b0.alloc _).alloc _).alloc _).cell, ((b1.alloc _).alloc _).cell, b2.alloc _, b3⟩
  refine (callsIn_wide (n := 3)).1 ?_
  refine callsIn_of_wp_marks Tryz.func85 rfl trivial ?_ rfl
  simp only [Tryz.ntmps85, List.size_toArray, List.length_cons, List.length_nil, Nat.reduceAdd, Nat.reduceSub, Array.replicate_succ, Array.replicate_zero, List.push_toArray, List.append_toArray, List.nil_append, List.cons_append]
  gi_wp2
  clear hw4
  refine wpIn_wide.2 ?_
  have HK1 : Hid (∀ W, Below w4.heap.size w4 W → W.cell? ⟨w.heap.size, 0, none⟩ = some (.pointer (some ⟨b, 0, none⟩)) ∧ W.cell? ⟨w.heap.size + 1, 0, none⟩ = some (.slice af F.len cf) ∧ W.cell? ⟨b, 5, none⟩ = some (.slice an NS.length cn)) := fun W h => by
    obtain ⟨q1, q2, q3, q4, -, -⟩ := HW4.out
    exact ⟨by rw [h.cell (p := ⟨w.heap.size, 0, none⟩) (by show w.heap.size < _; omega)]; exact q3, by rw [h.cell (p := ⟨w.heap.size + 1, 0, none⟩) (by show w.heap.size + 1 < _; omega)]; exact q4, (HX.out W (q1.trans (h.mono q1.size))).2.1⟩
  have HDR : Hid (w4.drew.heap.size = w4.heap.size) := (rfl : _ = _)
  go_region_held3 (fun W => W.cell? ⟨w.heap.size, 0, none⟩ = some (.pointer (some ⟨b, 0, none⟩)) ∧ W.cell? ⟨w.heap.size + 1, 0, none⟩ = some (.slice af F.len cf) ∧ W.cell? ⟨b, 5, none⟩ = some (.slice an NS.length cn))
    (first | with_reducible exact HK1.out _ HBT.out | with_reducible exact HK1.out _ (Below.refl _ _).drew)
    ((go_at_call 102; refine (HTG.out _).mono ?_; rintro e W0 ⟨rfl, hW0⟩; have HBT : Hid (Below w4.heap.size w4 W0) := by (rw [← hW0]; exact (((((Below.refl _ _).drew).alloc (Nat.le_refl _) _).alloc (by simp) _).alloc (by simp; omega) _))))
  have HW0 : Hid (Below w.heap.size w W0 ∧ W0.heap.size = w4.heap.size + 1 + 1 + 1 ∧ W0.cell? ⟨w4.heap.size, 0, none⟩ = some (.slice an NS.length cn) ∧ W0.cell? ⟨w4.heap.size + 1, 0, none⟩ = some (.slice af F.len cf) ∧ W0.cell? ⟨w4.heap.size + 1 + 1, 0, none⟩ = some (.func (.func 103) #[] #[]) ∧
      W0.cell? ⟨w.heap.size, 0, none⟩ = some (.pointer (some ⟨b, 0, none⟩)) ∧ W0.cell? ⟨w.heap.size + 1, 0, none⟩ = some (.slice af F.len cf) ∧ Boxed W0 (w.heap.size + 1 + 1) 4 (.bool false) ∧ Boxed W0 (w.heap.size + 1 + 1 + 1) 3 (.int .i64 0)) := by
    obtain ⟨q1, q2, q3, q4, q5, q6⟩ := HW4.out
    have b0 := Boxed.new w4.drew 31 (.slice an NS.length cn)
    have b1 := Boxed.new (w4.drew.alloc (.cells #[.slice an NS.length cn] 31)) 72 (.slice af F.len cf)
    have b2 := Boxed.new ((w4.drew.alloc (.cells #[.slice an NS.length cn] 31)).alloc (.cells #[.slice af F.len cf] 72)) 169 (.func (.func 103) #[] #[])
    simp only [World.size_alloc] at b1 b2
    obtain ⟨r1, r2, -⟩ := HK1.out W0 HBT.out
    have hblk : ∀ k, k < w4.heap.size → W0.heap[k]? = w4.heap[k]? := fun k hk => HBT.out.block k hk
    have e5 : Boxed W0 (w.heap.size + 1 + 1) 4 (.bool false) := (hblk _ q5.lt).trans q5
    have e6 : Boxed W0 (w.heap.size + 1 + 1 + 1) 3 (.int .i64 0) := (hblk _ q6.lt).trans q6
    refine ⟨q1.trans (HBT.out.mono q1.size), by rw [← hW0]; simp only [World.size_alloc]; rfl, ?_, ?_, ?_, r1, r2, e5, e6⟩
    · rw [← hW0]; exact ((b0.alloc _).alloc _).cell
    · rw [← hW0]; exact (b1.alloc _).cell
    · rw [← hW0]; exact b2.cell
  clear hW0
  have HTS := HW0.out
  obtain ⟨t1, t2, t3, t4, t5, t6, t7, t8, t9⟩ := HTS
  have hs0 : Same (Lo w.heap.size) w W0 := fun k hk => t1.block k hk
  have HSQ := tog_stops (3 - 1) w4.heap.size (w4.heap.size + 1) (w4.heap.size + 1 + 1) NS F an af cn cf W0 (by omega) (by omega) (by omega) t3 t4 t5 (HMEM.out.1.same hs0 (Lo.le t1.size)) (F.V_same hs0 (Lo.le t1.size) af 0 HMEM.out.2) hl3 hl4
  rw [← HM.out] at HSQ
  have HSQ' : Hid _ := HSQ
  clear HSQ hs0 HMEM HTG HBT HK1
  gi_wp2
  refine' wpIn_rangeFunc_ownF rfl (by omega) (gf := 121) (lb := #[.pointer (some ⟨w4.heap.size, 0, none⟩), .pointer (some ⟨w4.heap.size + 1, 0, none⟩), .pointer (some ⟨w4.heap.size + 1 + 1, 0, none⟩)]) rfl trivial (enters_of Tryz.func121 (by kernel_rfl) rfl)
    HSQ'.out belowK_t (belowK_b (Nat.le_refl _)) (Below.refl _ _) (fun _ => rfl)
    (fun pre W => ((∀ x ∈ pre, (g x.1).1 = true) ∧ W.cell? ⟨w.heap.size, 0, none⟩ = some (.pointer (some ⟨b, 0, none⟩)) ∧ W.cell? ⟨w.heap.size + 1, 0, none⟩ = some (.slice af F.len cf) ∧ Boxed W (w.heap.size + 1 + 1) 4 (.bool false) ∧ Boxed W (w.heap.size + 1 + 1 + 1) 3 (.int .i64 0)) ∧ Below W0.heap.size W0 W)
    (fun c pre W => (c = .ret ∧ ∃ ini last, pre = ini ++ [last] ∧ (∀ x ∈ ini, (g x.1).1 = true) ∧ (g last.1).1 = false ∧ Boxed W (w.heap.size + 1 + 1) 4 (.bool false) ∧ Boxed W (w.heap.size + 1 + 1 + 1) 3 (.int .i64 (g last.1).2)) ∧ Below w.heap.size w W)
    (OwnFrom.and (Own.from (fun s A B row hs hg hr => ⟨hs.1, cell_kept hs.2.1 hg hr, cell_kept hs.2.2.1 hg hr, boxed_own (β := Unit) _ _ (fun _ => .bool false) () A B row hs.2.2.2.1 hg hr, boxed_own (β := Unit) _ _ (fun _ => .int .i64 0) () A B row hs.2.2.2.2 hg hr⟩) _) (ownFrom_below (Nat.le_refl _) (Nat.le_refl _)))
    (fun c => OwnFrom.and (Own.from (fun s A B row hs hg hr => by obtain ⟨hc, ini, last, e1, e2, e3, e4, e5⟩ := hs; exact ⟨hc, ini, last, e1, e2, e3, boxed_own (β := Unit) _ _ (fun _ => .bool false) () A B row e4 hg hr, boxed_own (β := Unit) _ _ (fun _ => .int .i64 (g last.1).2) () A B row e5 hg hr⟩) _) (ownFrom_below (Nat.le_refl _) t1.size))
    ⟨⟨fun x hx => (by cases hx), t6, t7, t8, t9⟩, Below.refl _ _⟩ _ ?assign ?body ?done ?stop
  case assign =>
    intro l x W K hK
    simp only [PQ.enc]
    gi_wp2
    exact hK
  case body =>
    rintro l pre ⟨⟨x1, x2⟩, hx⟩ W ⟨⟨hgd, d0, d1, bx2, bx3⟩, hBW⟩ -
    have hBV := hBW
    have hBW := t1.trans (hBV.mono t1.size)
    have HBV : Hid (Below W0.heap.size W0 W) := hBV
    obtain ⟨s4, s5, s6, s7⟩ := HX.out W hBW
    have d2 := bx2.cell
    have d3 := bx3.cell
    have z2 := bx2.frozen
    have z3 := bx3.frozen
    have HI : Hid ((∀ y ∈ pre, (g y.1).1 = true) ∧ W.cell? ⟨w.heap.size, 0, none⟩ = some (.pointer (some ⟨b, 0, none⟩)) ∧ W.cell? ⟨w.heap.size + 1, 0, none⟩ = some (.slice af F.len cf) ∧ Boxed W (w.heap.size + 1 + 1) 4 (.bool false) ∧ Boxed W (w.heap.size + 1 + 1 + 1) 3 (.int .i64 0) ∧ Below w.heap.size w W) := ⟨hgd, d0, d1, bx2, bx3, hBW⟩
    clear hgd bx2 bx3 hBW hBV HSQ' HW0 HW4 t3 t4 t5 t6 t7 t8 t9
    rcases hx with ⟨e1, e2, e3⟩ | ⟨e1, e2, e3⟩ | ⟨e1, e2, e3, e4⟩
    · have e1 : x1 = -1 := e1
      subst e1
      have e2 : 0 ≤ x2 := e2
      have HGX : Hid (g (-1, x2) = (op, 0)) := by show _ = _; rw [HG.out]; simp [Sp.stepD]
      have n2 : decide (x2 < 0) = false := by simp; omega
      dsimp only
      cases op with
      | true =>
        gi_wp2
        exact ⟨KeepsOthers.refl _, Below.refl _ _, ⟨all_snoc HI.out.1 (by show (g (-1, x2)).1 = true; rw [HGX.out]), HI.out.2.1, HI.out.2.2.1, HI.out.2.2.2.1, HI.out.2.2.2.2.1⟩, HBV.out⟩
      | false =>
        gi_wp2
        obtain ⟨u1, u2, u3, u4⟩ := two_set HI.out.2.2.2.1 HI.out.2.2.2.2.1 0 false HI.out.2.2.2.2.2
        exact ⟨u3, ⟨rfl, pre, _, rfl, HI.out.1, by show (g (-1, x2)).1 = false; rw [HGX.out], u1, by show Boxed _ _ _ (.int .i64 (g (-1, x2)).2); rw [HGX.out]; exact u2⟩, u4⟩
    · have e3 : x2 = -1 := e3
      subst e3
      obtain ⟨i, rfl⟩ := Int.eq_ofNat_of_zero_le e1
      have hi1 : (i : Int) < (KS.length : Int) := by have : (i : Int) < NS.length := e2; have := HLN.out.2; omega
      have hi0 : (0 : Int) ≤ (i : Int) := Int.natCast_nonneg _
      have n1 : decide ((i : Int) < 0) = false := by simp
      obtain ⟨sb, g1, o1, ks, rfl, cs⟩ := HKB.out W i HI.out.2.2.2.2.2 (by have : (i : Int) < NS.length := e2; omega)
      have HGX : Hid (g ((i : Int), -1) = (sb, 0)) := by show _ = _; rw [HG.out]; have q1 : ¬ ((i : Int) < 0) := (by omega); simp only [Sp.stepD, if_neg q1, Int.toNat_natCast, ks]; rfl
      clear ks
      dsimp only
      cases sb with
      | true =>
        gi_wp2
        exact ⟨KeepsOthers.refl _, Below.refl _ _, ⟨all_snoc HI.out.1 (by show (g ((i : Int), -1)).1 = true; rw [HGX.out]), HI.out.2.1, HI.out.2.2.1, HI.out.2.2.2.1, HI.out.2.2.2.2.1⟩, HBV.out⟩
      | false =>
        gi_wp2
        obtain ⟨u1, u2, u3, u4⟩ := two_set HI.out.2.2.2.1 HI.out.2.2.2.2.1 0 false HI.out.2.2.2.2.2
        exact ⟨u3, ⟨rfl, pre, _, rfl, HI.out.1, by show (g ((i : Int), -1)).1 = false; rw [HGX.out], u1, by show Boxed _ _ _ (.int .i64 (g ((i : Int), -1)).2); rw [HGX.out]; exact u2⟩, u4⟩
    · obtain ⟨i, rfl⟩ := Int.eq_ofNat_of_zero_le e1
      obtain ⟨j, rfl⟩ := Int.eq_ofNat_of_zero_le e3
      have hiN : i < NS.length := by have : (i : Int) < NS.length := e2; omega
      have hjF : j < F.len := by have : (j : Int) < F.len := e4; omega
      have hi1 : (i : Int) < (p.len : Int) := by have := HLN.out.1; omega
      have hi0 : (0 : Int) ≤ (i : Int) := Int.natCast_nonneg _
      have hj0 : (0 : Int) ≤ (j : Int) := Int.natCast_nonneg _
      have hj1 : (j : Int) < (F.len : Int) := by omega
      have hj2 : (j : Int) ≤ (cf : Int) := by omega
      have n1 : decide ((i : Int) < 0) = false := by simp
      have n2 : decide ((j : Int) < 0) = false := by simp
      obtain ⟨t, g1, o1, b', ft, rfl, ⟨hg1, cs⟩, HCT⟩ := HPT.out i hiN
      obtain ⟨v, g2, o2, m, x, fv, rfl, hg2, cm, cx, hvx, hvg⟩ := HFT.out j hjF
      have hbd := HBDS.out i t.has v ft
      have hp1 := HPP.out j v fv
      have hpj := hpp j
      have hpj1 := hpp (j + 1)
      have HGX : Hid (g ((i : Int), (j : Int)) = if (t.has v).1 then (true, 0) else (false, 1 + F.vals.pre j + (t.has v).2)) := by
        show _ = _
        have q1 : ¬ ((i : Int) < 0) := by omega
        have q2 : ¬ ((j : Int) < 0) := by omega
        rw [HG.out]; simp only [Sp.stepD, if_neg q1, if_neg q2, Int.toNat_natCast, ft, fv]
      have hxs := v.V_shape x hvx
      have HO : Hid (∀ W', Below W.heap.size W W' → Calls Tryz.prog 45 #[.pointer (some ⟨b', 0, none⟩), x] W' (HasE t v W')) := fun W' h => HCT W' v x (HI.out.2.2.2.2.2.trans (h.mono HI.out.2.2.2.2.2.size)) hvg hvx
      have HS8 : Hid (∀ W', Below W.heap.size W W' → W'.cell? ⟨w.heap.size, 0, none⟩ = some (.pointer (some ⟨b, 0, none⟩)) ∧ W'.cell? ⟨b, 4, none⟩ = some (.slice (some ⟨g1, o1, none⟩) p.len cp) ∧ W'.cell? ⟨g1, o1 + i, none⟩ = some (.pointer (some ⟨b', 0, none⟩)) ∧ W'.cell? ⟨w.heap.size + 1, 0, none⟩ = some (.slice (some ⟨g2, o2, none⟩) F.len cf) ∧ W'.cell? ⟨g2, o2 + j * 2 + 1, none⟩ = some x) := fun W' h => ⟨cell_below d0 h, cell_below s4 h, cell_below (by rw [HI.out.2.2.2.2.2.cell (p := ⟨g1, o1 + i, none⟩) hg1]; exact cs) h, cell_below d1 h, cell_below (by rw [HI.out.2.2.2.2.2.cell (p := ⟨g2, o2 + j * 2 + 1, none⟩) hg2]; exact cx) h⟩
      have HBL : Hid (∀ W', Below W.heap.size W W' → W.drew.heap.size = W.heap.size ∧ Below w.heap.size w W' ∧ Boxed W' (w.heap.size + 1 + 1) 4 (.bool false) ∧ Boxed W' (w.heap.size + 1 + 1 + 1) 3 (.int .i64 0) ∧ W'.cell? ⟨w.heap.size, 0, none⟩ = some (.pointer (some ⟨b, 0, none⟩)) ∧ W'.cell? ⟨w.heap.size + 1, 0, none⟩ = some (.slice (some ⟨g2, o2, none⟩) F.len cf)) := fun W' h => ⟨rfl, HI.out.2.2.2.2.2.trans (h.mono HI.out.2.2.2.2.2.size), boxed_below HI.out.2.2.2.1 h, boxed_below HI.out.2.2.2.2.1 h, cell_below d0 h, cell_below d1 h⟩
      unfold HasE at HO
      have hbW : Below w.heap.size w W := HI.out.2.2.2.2.2
      clear ft fv cs cx hvx hvg HCT
      generalize t.has v = r at *
      obtain ⟨rb, rq⟩ := r
      simp only at hbd HGX HO
      dsimp only
      cases rb with
      | true =>
        rcases hxs with rfl | ⟨T, y, rfl⟩
        · gi_wp2
          refine region_round (S := fun W' => W'.cell? ⟨w.heap.size, 0, none⟩ = some (.pointer (some ⟨b, 0, none⟩)) ∧ W'.cell? ⟨b, 4, none⟩ = some (.slice (some ⟨g1, o1, none⟩) p.len cp) ∧ W'.cell? ⟨g1, o1 + i, none⟩ = some (.pointer (some ⟨b', 0, none⟩)) ∧ W'.cell? ⟨w.heap.size + 1, 0, none⟩ = some (.slice (some ⟨g2, o2, none⟩) F.len cf) ∧ W'.cell? ⟨g2, o2 + j * 2 + 1, none⟩ = some .nilIface) (by kernel_rfl) (by kernel_rfl) (HS8.out _ (Below.refl _ _).drew) (fun hHeld => ?_)
          refine tkH (i := 0) (v := ?_) rfl (by kernel_rfl) (by rfl) ?_ (by assumption) ?_
          rotate_left
          · intro w hSw; (try dsimp only at hSw); go_simp; try (with_reducible rfl)
          simp only [Act.put, lsA, lsB, lsC]
          refine tkH (i := 1) (v := ?_) rfl (by kernel_rfl) (by rfl) ?_ (by assumption) ?_
          rotate_left
          · intro w hSw; (try dsimp only at hSw); go_simp; try (with_reducible rfl)
          simp only [Act.put, lsA, lsB, lsC]
          refine tkH (i := 2) (v := ?_) rfl (by kernel_rfl) (by rfl) ?_ (by assumption) ?_
          rotate_left
          · intro w hSw; (try dsimp only at hSw); go_simp; try (with_reducible rfl)
          simp only [Act.put, lsA, lsB, lsC]
          refine tkH (i := 3) (v := ?_) rfl (by kernel_rfl) (by rfl) ?_ (by assumption) ?_
          rotate_left
          · intro w hSw; (try dsimp only at hSw); go_simp; try (with_reducible rfl)
          simp only [Act.put, lsA, lsB, lsC]
          refine tkH (i := 4) (v := ?_) rfl (by kernel_rfl) (by rfl) ?_ (by assumption) ?_
          rotate_left
          · intro w hSw; (try dsimp only at hSw); go_simp; try (with_reducible rfl)
          simp only [Act.put, lsA, lsB, lsC]
          refine tkH (i := 5) (v := ?_) rfl (by kernel_rfl) (by rfl) ?_ (by assumption) ?_
          rotate_left
          · intro w hSw; (try dsimp only at hSw); go_simp; try (with_reducible rfl)
          simp only [Act.put, lsA, lsB, lsC]
          refine tkH (i := 6) (v := ?_) rfl (by kernel_rfl) (by rfl) ?_ (by assumption) ?_
          rotate_left
          · intro w hSw; (try dsimp only at hSw); go_simp; try (with_reducible rfl)
          simp only [Act.put, lsA, lsB, lsC]
          refine tkH (i := 7) (v := ?_) rfl (by kernel_rfl) (by rfl) ?_ (by assumption) ?_
          rotate_left
          · intro w hSw; (try dsimp only at hSw); go_simp; try (with_reducible rfl)
          simp only [Act.put, lsA, lsB, lsC]
          refine tkH (i := 8) (v := ?_) rfl (by kernel_rfl) (by rfl) ?_ (by assumption) ?_
          rotate_left
          · intro w hSw; (try dsimp only at hSw); go_simp; try (with_reducible rfl)
          simp only [Act.put, lsA, lsB, lsC]
          refine tkH (i := 9) (v := ?_) rfl (by kernel_rfl) (by rfl) ?_ (by assumption) ?_
          rotate_left
          · intro w hSw; (try dsimp only at hSw); go_simp; try (with_reducible rfl)
          simp only [Act.put, lsA, lsB, lsC]
          refine tkH (i := 10) (v := ?_) rfl (by kernel_rfl) (by rfl) ?_ (by assumption) ?_
          rotate_left
          · intro w hSw; (try dsimp only at hSw); go_simp; try (with_reducible rfl)
          simp only [Act.put, lsA, lsB, lsC]
          refine tkH (i := 11) (v := ?_) rfl (by kernel_rfl) (by rfl) ?_ (by assumption) ?_
          rotate_left
          · intro w hSw; (try dsimp only at hSw); go_simp; try (with_reducible rfl)
          simp only [Act.put, lsA, lsB, lsC]
          refine wpAnyH_ready (rs := [12]) (by kernel_rfl) (by simp) ?_
          refine arC rfl (fun K hK => ?_) AllReadyH.nil
          go_simp
          (refine (HO.out _ (Below.refl _ _).drew).mono ?_; rintro e w5 ⟨rfl, hb5⟩; have HB5 : Hid (Below W.heap.size W w5) := below_to (Below.refl _ _).drew hb5; clear hb5)
          go_wp2_with fail
          refine hK.out _ _ ?_ (fun hHeld => ?_)
          · exact HS8.out _ HB5.out
          clear hK K
          refine tkH (i := 13) (v := ?_) rfl (by kernel_rfl) (by rfl) ?_ (by assumption) ?_
          rotate_left
          · intro w hSw; (try dsimp only at hSw); go_simp; try (with_reducible rfl)
          simp only [Act.put, lsA, lsB, lsC]
          refine tkH (i := 14) (v := ?_) rfl (by kernel_rfl) (by rfl) ?_ (by assumption) ?_
          rotate_left
          · intro w hSw; (try dsimp only at hSw); go_simp; try (with_reducible rfl)
          simp only [Act.put, lsA, lsB, lsC]
          refine tkH (i := 15) (v := ?_) rfl (by kernel_rfl) (by rfl) ?_ (by assumption) ?_
          rotate_left
          · intro w hSw; (try dsimp only at hSw); go_simp; try (with_reducible rfl)
          simp only [Act.put, lsA, lsB, lsC]
          refine tkH (i := 16) (v := ?_) rfl (by kernel_rfl) (by rfl) ?_ (by assumption) ?_
          rotate_left
          · intro w hSw; (try dsimp only at hSw); go_simp; try (with_reducible rfl)
          simp only [Act.put, lsA, lsB, lsC]
          refine tkH (i := 17) (v := ?_) rfl (by kernel_rfl) (by rfl) ?_ (by assumption) ?_
          rotate_left
          · intro w hSw; (try dsimp only at hSw); go_simp; try (with_reducible rfl)
          simp only [Act.put, lsA, lsB, lsC]
          refine wpAnyH_done (by kernel_rfl) ?_ _
          refine Tame.normal ?_
          obtain ⟨-, q1, q2, q3, q4, q5⟩ := HBL.out _ HB5.out
          gi_wp2
          exact ⟨KeepsOthers.of_below HB5.out, HB5.out.mono HBV.out.size, ⟨all_snoc HI.out.1 (by show (g ((i : Int), (j : Int))).1 = true; rw [HGX.out]; rfl), q4, q5, q2, q3⟩, HBV.out.trans (HB5.out.mono HBV.out.size)⟩
        · gi_wp2
          refine region_round (S := fun W' => W'.cell? ⟨w.heap.size, 0, none⟩ = some (.pointer (some ⟨b, 0, none⟩)) ∧ W'.cell? ⟨b, 4, none⟩ = some (.slice (some ⟨g1, o1, none⟩) p.len cp) ∧ W'.cell? ⟨g1, o1 + i, none⟩ = some (.pointer (some ⟨b', 0, none⟩)) ∧ W'.cell? ⟨w.heap.size + 1, 0, none⟩ = some (.slice (some ⟨g2, o2, none⟩) F.len cf) ∧ W'.cell? ⟨g2, o2 + j * 2 + 1, none⟩ = some (.iface T y)) (by kernel_rfl) (by kernel_rfl) (HS8.out _ (Below.refl _ _).drew) (fun hHeld => ?_)
          refine tkH (i := 0) (v := ?_) rfl (by kernel_rfl) (by rfl) ?_ (by assumption) ?_
          rotate_left
          · intro w hSw; (try dsimp only at hSw); go_simp; try (with_reducible rfl)
          simp only [Act.put, lsA, lsB, lsC]
          refine tkH (i := 1) (v := ?_) rfl (by kernel_rfl) (by rfl) ?_ (by assumption) ?_
          rotate_left
          · intro w hSw; (try dsimp only at hSw); go_simp; try (with_reducible rfl)
          simp only [Act.put, lsA, lsB, lsC]
          refine tkH (i := 2) (v := ?_) rfl (by kernel_rfl) (by rfl) ?_ (by assumption) ?_
          rotate_left
          · intro w hSw; (try dsimp only at hSw); go_simp; try (with_reducible rfl)
          simp only [Act.put, lsA, lsB, lsC]
          refine tkH (i := 3) (v := ?_) rfl (by kernel_rfl) (by rfl) ?_ (by assumption) ?_
          rotate_left
          · intro w hSw; (try dsimp only at hSw); go_simp; try (with_reducible rfl)
          simp only [Act.put, lsA, lsB, lsC]
          refine tkH (i := 4) (v := ?_) rfl (by kernel_rfl) (by rfl) ?_ (by assumption) ?_
          rotate_left
          · intro w hSw; (try dsimp only at hSw); go_simp; try (with_reducible rfl)
          simp only [Act.put, lsA, lsB, lsC]
          refine tkH (i := 5) (v := ?_) rfl (by kernel_rfl) (by rfl) ?_ (by assumption) ?_
          rotate_left
          · intro w hSw; (try dsimp only at hSw); go_simp; try (with_reducible rfl)
          simp only [Act.put, lsA, lsB, lsC]
          refine tkH (i := 6) (v := ?_) rfl (by kernel_rfl) (by rfl) ?_ (by assumption) ?_
          rotate_left
          · intro w hSw; (try dsimp only at hSw); go_simp; try (with_reducible rfl)
          simp only [Act.put, lsA, lsB, lsC]
          refine tkH (i := 7) (v := ?_) rfl (by kernel_rfl) (by rfl) ?_ (by assumption) ?_
          rotate_left
          · intro w hSw; (try dsimp only at hSw); go_simp; try (with_reducible rfl)
          simp only [Act.put, lsA, lsB, lsC]
          refine tkH (i := 8) (v := ?_) rfl (by kernel_rfl) (by rfl) ?_ (by assumption) ?_
          rotate_left
          · intro w hSw; (try dsimp only at hSw); go_simp; try (with_reducible rfl)
          simp only [Act.put, lsA, lsB, lsC]
          refine tkH (i := 9) (v := ?_) rfl (by kernel_rfl) (by rfl) ?_ (by assumption) ?_
          rotate_left
          · intro w hSw; (try dsimp only at hSw); go_simp; try (with_reducible rfl)
          simp only [Act.put, lsA, lsB, lsC]
          refine tkH (i := 10) (v := ?_) rfl (by kernel_rfl) (by rfl) ?_ (by assumption) ?_
          rotate_left
          · intro w hSw; (try dsimp only at hSw); go_simp; try (with_reducible rfl)
          simp only [Act.put, lsA, lsB, lsC]
          refine tkH (i := 11) (v := ?_) rfl (by kernel_rfl) (by rfl) ?_ (by assumption) ?_
          rotate_left
          · intro w hSw; (try dsimp only at hSw); go_simp; try (with_reducible rfl)
          simp only [Act.put, lsA, lsB, lsC]
          refine wpAnyH_ready (rs := [12]) (by kernel_rfl) (by simp) ?_
          refine arC rfl (fun K hK => ?_) AllReadyH.nil
          go_simp
          (refine (HO.out _ (Below.refl _ _).drew).mono ?_; rintro e w5 ⟨rfl, hb5⟩; have HB5 : Hid (Below W.heap.size W w5) := below_to (Below.refl _ _).drew hb5; clear hb5)
          go_wp2_with fail
          refine hK.out _ _ ?_ (fun hHeld => ?_)
          · exact HS8.out _ HB5.out
          clear hK K
          refine tkH (i := 13) (v := ?_) rfl (by kernel_rfl) (by rfl) ?_ (by assumption) ?_
          rotate_left
          · intro w hSw; (try dsimp only at hSw); go_simp; try (with_reducible rfl)
          simp only [Act.put, lsA, lsB, lsC]
          refine tkH (i := 14) (v := ?_) rfl (by kernel_rfl) (by rfl) ?_ (by assumption) ?_
          rotate_left
          · intro w hSw; (try dsimp only at hSw); go_simp; try (with_reducible rfl)
          simp only [Act.put, lsA, lsB, lsC]
          refine tkH (i := 15) (v := ?_) rfl (by kernel_rfl) (by rfl) ?_ (by assumption) ?_
          rotate_left
          · intro w hSw; (try dsimp only at hSw); go_simp; try (with_reducible rfl)
          simp only [Act.put, lsA, lsB, lsC]
          refine tkH (i := 16) (v := ?_) rfl (by kernel_rfl) (by rfl) ?_ (by assumption) ?_
          rotate_left
          · intro w hSw; (try dsimp only at hSw); go_simp; try (with_reducible rfl)
          simp only [Act.put, lsA, lsB, lsC]
          refine tkH (i := 17) (v := ?_) rfl (by kernel_rfl) (by rfl) ?_ (by assumption) ?_
          rotate_left
          · intro w hSw; (try dsimp only at hSw); go_simp; try (with_reducible rfl)
          simp only [Act.put, lsA, lsB, lsC]
          refine wpAnyH_done (by kernel_rfl) ?_ _
          refine Tame.normal ?_
          obtain ⟨-, q1, q2, q3, q4, q5⟩ := HBL.out _ HB5.out
          gi_wp2
          exact ⟨KeepsOthers.of_below HB5.out, HB5.out.mono HBV.out.size, ⟨all_snoc HI.out.1 (by show (g ((i : Int), (j : Int))).1 = true; rw [HGX.out]; rfl), q4, q5, q2, q3⟩, HBV.out.trans (HB5.out.mono HBV.out.size)⟩
      | false =>
        rcases hxs with rfl | ⟨T, y, rfl⟩
        · gi_wp2
          refine region_round (S := fun W' => W'.cell? ⟨w.heap.size, 0, none⟩ = some (.pointer (some ⟨b, 0, none⟩)) ∧ W'.cell? ⟨b, 4, none⟩ = some (.slice (some ⟨g1, o1, none⟩) p.len cp) ∧ W'.cell? ⟨g1, o1 + i, none⟩ = some (.pointer (some ⟨b', 0, none⟩)) ∧ W'.cell? ⟨w.heap.size + 1, 0, none⟩ = some (.slice (some ⟨g2, o2, none⟩) F.len cf) ∧ W'.cell? ⟨g2, o2 + j * 2 + 1, none⟩ = some .nilIface) (by kernel_rfl) (by kernel_rfl) (HS8.out _ (Below.refl _ _).drew) (fun hHeld => ?_)
          refine tkH (i := 0) (v := ?_) rfl (by kernel_rfl) (by rfl) ?_ (by assumption) ?_
          rotate_left
          · intro w hSw; (try dsimp only at hSw); go_simp; try (with_reducible rfl)
          simp only [Act.put, lsA, lsB, lsC]
          refine tkH (i := 1) (v := ?_) rfl (by kernel_rfl) (by rfl) ?_ (by assumption) ?_
          rotate_left
          · intro w hSw; (try dsimp only at hSw); go_simp; try (with_reducible rfl)
          simp only [Act.put, lsA, lsB, lsC]
          refine tkH (i := 2) (v := ?_) rfl (by kernel_rfl) (by rfl) ?_ (by assumption) ?_
          rotate_left
          · intro w hSw; (try dsimp only at hSw); go_simp; try (with_reducible rfl)
          simp only [Act.put, lsA, lsB, lsC]
          refine tkH (i := 3) (v := ?_) rfl (by kernel_rfl) (by rfl) ?_ (by assumption) ?_
          rotate_left
          · intro w hSw; (try dsimp only at hSw); go_simp; try (with_reducible rfl)
          simp only [Act.put, lsA, lsB, lsC]
          refine tkH (i := 4) (v := ?_) rfl (by kernel_rfl) (by rfl) ?_ (by assumption) ?_
          rotate_left
          · intro w hSw; (try dsimp only at hSw); go_simp; try (with_reducible rfl)
          simp only [Act.put, lsA, lsB, lsC]
          refine tkH (i := 5) (v := ?_) rfl (by kernel_rfl) (by rfl) ?_ (by assumption) ?_
          rotate_left
          · intro w hSw; (try dsimp only at hSw); go_simp; try (with_reducible rfl)
          simp only [Act.put, lsA, lsB, lsC]
          refine tkH (i := 6) (v := ?_) rfl (by kernel_rfl) (by rfl) ?_ (by assumption) ?_
          rotate_left
          · intro w hSw; (try dsimp only at hSw); go_simp; try (with_reducible rfl)
          simp only [Act.put, lsA, lsB, lsC]
          refine tkH (i := 7) (v := ?_) rfl (by kernel_rfl) (by rfl) ?_ (by assumption) ?_
          rotate_left
          · intro w hSw; (try dsimp only at hSw); go_simp; try (with_reducible rfl)
          simp only [Act.put, lsA, lsB, lsC]
          refine tkH (i := 8) (v := ?_) rfl (by kernel_rfl) (by rfl) ?_ (by assumption) ?_
          rotate_left
          · intro w hSw; (try dsimp only at hSw); go_simp; try (with_reducible rfl)
          simp only [Act.put, lsA, lsB, lsC]
          refine tkH (i := 9) (v := ?_) rfl (by kernel_rfl) (by rfl) ?_ (by assumption) ?_
          rotate_left
          · intro w hSw; (try dsimp only at hSw); go_simp; try (with_reducible rfl)
          simp only [Act.put, lsA, lsB, lsC]
          refine tkH (i := 10) (v := ?_) rfl (by kernel_rfl) (by rfl) ?_ (by assumption) ?_
          rotate_left
          · intro w hSw; (try dsimp only at hSw); go_simp; try (with_reducible rfl)
          simp only [Act.put, lsA, lsB, lsC]
          refine tkH (i := 11) (v := ?_) rfl (by kernel_rfl) (by rfl) ?_ (by assumption) ?_
          rotate_left
          · intro w hSw; (try dsimp only at hSw); go_simp; try (with_reducible rfl)
          simp only [Act.put, lsA, lsB, lsC]
          refine wpAnyH_ready (rs := [12]) (by kernel_rfl) (by simp) ?_
          refine arC rfl (fun K hK => ?_) AllReadyH.nil
          go_simp
          (refine (HO.out _ (Below.refl _ _).drew).mono ?_; rintro e w5 ⟨rfl, hb5⟩; have HB5 : Hid (Below W.heap.size W w5) := below_to (Below.refl _ _).drew hb5; clear hb5)
          go_wp2_with fail
          refine hK.out _ _ ?_ (fun hHeld => ?_)
          · exact HS8.out _ HB5.out
          clear hK K
          refine tkH (i := 13) (v := ?_) rfl (by kernel_rfl) (by rfl) ?_ (by assumption) ?_
          rotate_left
          · intro w hSw; (try dsimp only at hSw); go_simp; try (with_reducible rfl)
          simp only [Act.put, lsA, lsB, lsC]
          refine tkH (i := 14) (v := ?_) rfl (by kernel_rfl) (by rfl) ?_ (by assumption) ?_
          rotate_left
          · intro w hSw; (try dsimp only at hSw); go_simp; try (with_reducible rfl)
          simp only [Act.put, lsA, lsB, lsC]
          refine tkH (i := 15) (v := ?_) rfl (by kernel_rfl) (by rfl) ?_ (by assumption) ?_
          rotate_left
          · intro w hSw; (try dsimp only at hSw); go_simp; try (with_reducible rfl)
          simp only [Act.put, lsA, lsB, lsC]
          refine tkH (i := 16) (v := ?_) rfl (by kernel_rfl) (by rfl) ?_ (by assumption) ?_
          rotate_left
          · intro w hSw; (try dsimp only at hSw); go_simp; try (with_reducible rfl)
          simp only [Act.put, lsA, lsB, lsC]
          refine tkH (i := 17) (v := ?_) rfl (by kernel_rfl) (by rfl) ?_ (by assumption) ?_
          rotate_left
          · intro w hSw; (try dsimp only at hSw); go_simp; try (with_reducible rfl)
          simp only [Act.put, lsA, lsB, lsC]
          refine wpAnyH_done (by kernel_rfl) ?_ _
          refine Tame.normal ?_
          obtain ⟨-, q1, q2, q3, q4, q5⟩ := HBL.out _ HB5.out
          have HQ : Hid (Below w.heap.size w w5 ∧ Boxed w5 (w.heap.size + 1 + 1) 4 (.bool false) ∧ Boxed w5 (w.heap.size + 1 + 1 + 1) 3 (.int .i64 0)) := ⟨q1, q2, q3⟩
          clear q1 q2 q3 q4
          gi_wp2
          gi_loopw [9, 71] (fun q x wi => ∃ k : Nat, q = .int .i64 (rq + F.vals.pre k) ∧ x = .int .i64 k ∧ k ≤ j ∧ Hid (Below w5.heap.size w5 wi)) (fun _ x _ => j - (intOf x).toNat)
          case atStart => exact ⟨0, by simp [TmL.pre], rfl, by omega, Below.refl _ _⟩
          case round =>
            obtain ⟨k, rfl, rfl, hkj, HKB2⟩ := hrel
            have hpk := hpp k
            by_cases hk : k < j
            · obtain ⟨v2, g3, o3, m2, x2, fv2, he, hg3, cm2, cx2, hvx2, hvg2⟩ := HFT.out k (by omega)
              injection he with he
              injection he with he3 he4
              subst he3
              subst he4
              have hbr : Below w.heap.size w wr := HQ.out.1.trans (HKB2.out.mono HQ.out.1.size)
              have y0 : wr.cell? ⟨g2, o2 + k * 2, none⟩ = some (.string m2) := by rw [hbr.cell (p := ⟨g2, o2 + k * 2, none⟩) hg3]; exact cm2
              have y1 : wr.cell? ⟨g2, o2 + k * 2 + 1, none⟩ = some x2 := by rw [hbr.cell (p := ⟨g2, o2 + k * 2 + 1, none⟩) hg3]; exact cx2
              have HZ2 : Hid (∀ W', Below wr.heap.size wr W' → Calls Tryz.prog 106 #[x2] W' fun e w' => e = .returned (.int .i64 v2.pn) ∧ Below W'.heap.size W' w') := fun W' h => HZ.out v2 x2 W' (hbr.trans (h.mono hbr.size)) hvg2 hvx2
              have hx2s := v2.V_shape x2 hvx2
              have hp2 := HPP.out k v2 fv2
              have hpk1 := hpp (k + 1)
              have hv2p := v2.pn_pos
              have hk0 : (0 : Int) ≤ (k : Int) := Int.natCast_nonneg _
              have hk1 : (k : Int) < (j : Int) := by omega
              have HPE : Hid (F.vals.pre (k + 1) = F.vals.pre k + v2.pn) := hp2
              have hs1 : F.vals.pre k + v2.pn ≤ F.pn := by omega
              clear fv2 cm2 cx2 hvx2 hvg2 hg3 hbr hp2 hpk1
              generalize v2.pn = vp at *
              rcases hx2s with rfl | ⟨T2, y2, rfl⟩
              all_goals
                gi_wp2
                refine ⟨trivial, ?_⟩
                refine CallsIn.inRound l (callsIn_wide.2 ((HZ2.out _ ((Below.refl _ _).alloc (Nat.le_refl _) _)).mono ?_))
                rintro e w6 ⟨rfl, hb6⟩
                have H6 : Hid (Below w5.heap.size w5 w6) := HKB2.out.trans ((((Below.refl _ wr).alloc (Nat.le_refl _) _).trans (hb6.mono (by simp))).mono HKB2.out.size)
                clear hb6
                gi_wp2
                go_roundw
                case rel => exact ⟨k + 1, by rw [HPE.out]; go_num, by go_num, by omega, H6⟩
                case measure => simp [intOf]; omega
            · have hkk : k = j := by omega
              subst hkk
              have hbW5 : Below w5.heap.size w5 wr := HKB2.out
              have v2' := boxed_below HQ.out.2.1 hbW5
              have v3' := boxed_below HQ.out.2.2 hbW5
              have y2 := v2'.cell
              have y3 := v3'.cell
              have y4 := v2'.frozen
              have y5 := v3'.frozen
              have HV : Hid (Below w.heap.size w wr ∧ Boxed wr (w.heap.size + 1 + 1) 4 (.bool false) ∧ Boxed wr (w.heap.size + 1 + 1 + 1) 3 (.int .i64 0) ∧ Below W.heap.size W wr) := ⟨HQ.out.1.trans (hbW5.mono HQ.out.1.size), v2', v3', HB5.out.trans (hbW5.mono HB5.out.size)⟩
              clear hbW5 v2' v3' HKB2
              gi_wp2
              obtain ⟨u1, u2, u3, u4⟩ := two_set HV.out.2.1 HV.out.2.2.1 (1 + (rq + F.vals.pre k)) false HV.out.1
              exact ⟨(KeepsOthers.of_below HV.out.2.2.2).trans u3, ⟨rfl, pre, _, rfl, HI.out.1, by show (g ((i : Int), (k : Int))).1 = false; rw [HGX.out]; rfl, u1, by show Boxed _ _ _ (.int .i64 (g ((i : Int), (k : Int))).2); rw [HGX.out]; show Boxed _ _ _ (.int .i64 (1 + F.vals.pre k + rq)); rw [show 1 + F.vals.pre k + rq = 1 + (rq + F.vals.pre k) by omega]; exact u2⟩, u4⟩
        · gi_wp2
          refine region_round (S := fun W' => W'.cell? ⟨w.heap.size, 0, none⟩ = some (.pointer (some ⟨b, 0, none⟩)) ∧ W'.cell? ⟨b, 4, none⟩ = some (.slice (some ⟨g1, o1, none⟩) p.len cp) ∧ W'.cell? ⟨g1, o1 + i, none⟩ = some (.pointer (some ⟨b', 0, none⟩)) ∧ W'.cell? ⟨w.heap.size + 1, 0, none⟩ = some (.slice (some ⟨g2, o2, none⟩) F.len cf) ∧ W'.cell? ⟨g2, o2 + j * 2 + 1, none⟩ = some (.iface T y)) (by kernel_rfl) (by kernel_rfl) (HS8.out _ (Below.refl _ _).drew) (fun hHeld => ?_)
          refine tkH (i := 0) (v := ?_) rfl (by kernel_rfl) (by rfl) ?_ (by assumption) ?_
          rotate_left
          · intro w hSw; (try dsimp only at hSw); go_simp; try (with_reducible rfl)
          simp only [Act.put, lsA, lsB, lsC]
          refine tkH (i := 1) (v := ?_) rfl (by kernel_rfl) (by rfl) ?_ (by assumption) ?_
          rotate_left
          · intro w hSw; (try dsimp only at hSw); go_simp; try (with_reducible rfl)
          simp only [Act.put, lsA, lsB, lsC]
          refine tkH (i := 2) (v := ?_) rfl (by kernel_rfl) (by rfl) ?_ (by assumption) ?_
          rotate_left
          · intro w hSw; (try dsimp only at hSw); go_simp; try (with_reducible rfl)
          simp only [Act.put, lsA, lsB, lsC]
          refine tkH (i := 3) (v := ?_) rfl (by kernel_rfl) (by rfl) ?_ (by assumption) ?_
          rotate_left
          · intro w hSw; (try dsimp only at hSw); go_simp; try (with_reducible rfl)
          simp only [Act.put, lsA, lsB, lsC]
          refine tkH (i := 4) (v := ?_) rfl (by kernel_rfl) (by rfl) ?_ (by assumption) ?_
          rotate_left
          · intro w hSw; (try dsimp only at hSw); go_simp; try (with_reducible rfl)
          simp only [Act.put, lsA, lsB, lsC]
          refine tkH (i := 5) (v := ?_) rfl (by kernel_rfl) (by rfl) ?_ (by assumption) ?_
          rotate_left
          · intro w hSw; (try dsimp only at hSw); go_simp; try (with_reducible rfl)
          simp only [Act.put, lsA, lsB, lsC]
          refine tkH (i := 6) (v := ?_) rfl (by kernel_rfl) (by rfl) ?_ (by assumption) ?_
          rotate_left
          · intro w hSw; (try dsimp only at hSw); go_simp; try (with_reducible rfl)
          simp only [Act.put, lsA, lsB, lsC]
          refine tkH (i := 7) (v := ?_) rfl (by kernel_rfl) (by rfl) ?_ (by assumption) ?_
          rotate_left
          · intro w hSw; (try dsimp only at hSw); go_simp; try (with_reducible rfl)
          simp only [Act.put, lsA, lsB, lsC]
          refine tkH (i := 8) (v := ?_) rfl (by kernel_rfl) (by rfl) ?_ (by assumption) ?_
          rotate_left
          · intro w hSw; (try dsimp only at hSw); go_simp; try (with_reducible rfl)
          simp only [Act.put, lsA, lsB, lsC]
          refine tkH (i := 9) (v := ?_) rfl (by kernel_rfl) (by rfl) ?_ (by assumption) ?_
          rotate_left
          · intro w hSw; (try dsimp only at hSw); go_simp; try (with_reducible rfl)
          simp only [Act.put, lsA, lsB, lsC]
          refine tkH (i := 10) (v := ?_) rfl (by kernel_rfl) (by rfl) ?_ (by assumption) ?_
          rotate_left
          · intro w hSw; (try dsimp only at hSw); go_simp; try (with_reducible rfl)
          simp only [Act.put, lsA, lsB, lsC]
          refine tkH (i := 11) (v := ?_) rfl (by kernel_rfl) (by rfl) ?_ (by assumption) ?_
          rotate_left
          · intro w hSw; (try dsimp only at hSw); go_simp; try (with_reducible rfl)
          simp only [Act.put, lsA, lsB, lsC]
          refine wpAnyH_ready (rs := [12]) (by kernel_rfl) (by simp) ?_
          refine arC rfl (fun K hK => ?_) AllReadyH.nil
          go_simp
          (refine (HO.out _ (Below.refl _ _).drew).mono ?_; rintro e w5 ⟨rfl, hb5⟩; have HB5 : Hid (Below W.heap.size W w5) := below_to (Below.refl _ _).drew hb5; clear hb5)
          go_wp2_with fail
          refine hK.out _ _ ?_ (fun hHeld => ?_)
          · exact HS8.out _ HB5.out
          clear hK K
          refine tkH (i := 13) (v := ?_) rfl (by kernel_rfl) (by rfl) ?_ (by assumption) ?_
          rotate_left
          · intro w hSw; (try dsimp only at hSw); go_simp; try (with_reducible rfl)
          simp only [Act.put, lsA, lsB, lsC]
          refine tkH (i := 14) (v := ?_) rfl (by kernel_rfl) (by rfl) ?_ (by assumption) ?_
          rotate_left
          · intro w hSw; (try dsimp only at hSw); go_simp; try (with_reducible rfl)
          simp only [Act.put, lsA, lsB, lsC]
          refine tkH (i := 15) (v := ?_) rfl (by kernel_rfl) (by rfl) ?_ (by assumption) ?_
          rotate_left
          · intro w hSw; (try dsimp only at hSw); go_simp; try (with_reducible rfl)
          simp only [Act.put, lsA, lsB, lsC]
          refine tkH (i := 16) (v := ?_) rfl (by kernel_rfl) (by rfl) ?_ (by assumption) ?_
          rotate_left
          · intro w hSw; (try dsimp only at hSw); go_simp; try (with_reducible rfl)
          simp only [Act.put, lsA, lsB, lsC]
          refine tkH (i := 17) (v := ?_) rfl (by kernel_rfl) (by rfl) ?_ (by assumption) ?_
          rotate_left
          · intro w hSw; (try dsimp only at hSw); go_simp; try (with_reducible rfl)
          simp only [Act.put, lsA, lsB, lsC]
          refine wpAnyH_done (by kernel_rfl) ?_ _
          refine Tame.normal ?_
          obtain ⟨-, q1, q2, q3, q4, q5⟩ := HBL.out _ HB5.out
          have HQ : Hid (Below w.heap.size w w5 ∧ Boxed w5 (w.heap.size + 1 + 1) 4 (.bool false) ∧ Boxed w5 (w.heap.size + 1 + 1 + 1) 3 (.int .i64 0)) := ⟨q1, q2, q3⟩
          clear q1 q2 q3 q4
          gi_wp2
          gi_loopw [9, 71] (fun q x wi => ∃ k : Nat, q = .int .i64 (rq + F.vals.pre k) ∧ x = .int .i64 k ∧ k ≤ j ∧ Hid (Below w5.heap.size w5 wi)) (fun _ x _ => j - (intOf x).toNat)
          case atStart => exact ⟨0, by simp [TmL.pre], rfl, by omega, Below.refl _ _⟩
          case round =>
            obtain ⟨k, rfl, rfl, hkj, HKB2⟩ := hrel
            have hpk := hpp k
            by_cases hk : k < j
            · obtain ⟨v2, g3, o3, m2, x2, fv2, he, hg3, cm2, cx2, hvx2, hvg2⟩ := HFT.out k (by omega)
              injection he with he
              injection he with he3 he4
              subst he3
              subst he4
              have hbr : Below w.heap.size w wr := HQ.out.1.trans (HKB2.out.mono HQ.out.1.size)
              have y0 : wr.cell? ⟨g2, o2 + k * 2, none⟩ = some (.string m2) := by rw [hbr.cell (p := ⟨g2, o2 + k * 2, none⟩) hg3]; exact cm2
              have y1 : wr.cell? ⟨g2, o2 + k * 2 + 1, none⟩ = some x2 := by rw [hbr.cell (p := ⟨g2, o2 + k * 2 + 1, none⟩) hg3]; exact cx2
              have HZ2 : Hid (∀ W', Below wr.heap.size wr W' → Calls Tryz.prog 106 #[x2] W' fun e w' => e = .returned (.int .i64 v2.pn) ∧ Below W'.heap.size W' w') := fun W' h => HZ.out v2 x2 W' (hbr.trans (h.mono hbr.size)) hvg2 hvx2
              have hx2s := v2.V_shape x2 hvx2
              have hp2 := HPP.out k v2 fv2
              have hpk1 := hpp (k + 1)
              have hv2p := v2.pn_pos
              have hk0 : (0 : Int) ≤ (k : Int) := Int.natCast_nonneg _
              have hk1 : (k : Int) < (j : Int) := by omega
              have HPE : Hid (F.vals.pre (k + 1) = F.vals.pre k + v2.pn) := hp2
              have hs1 : F.vals.pre k + v2.pn ≤ F.pn := by omega
              clear fv2 cm2 cx2 hvx2 hvg2 hg3 hbr hp2 hpk1
              generalize v2.pn = vp at *
              rcases hx2s with rfl | ⟨T2, y2, rfl⟩
              all_goals
                gi_wp2
                refine ⟨trivial, ?_⟩
                refine CallsIn.inRound l (callsIn_wide.2 ((HZ2.out _ ((Below.refl _ _).alloc (Nat.le_refl _) _)).mono ?_))
                rintro e w6 ⟨rfl, hb6⟩
                have H6 : Hid (Below w5.heap.size w5 w6) := HKB2.out.trans ((((Below.refl _ wr).alloc (Nat.le_refl _) _).trans (hb6.mono (by simp))).mono HKB2.out.size)
                clear hb6
                gi_wp2
                go_roundw
                case rel => exact ⟨k + 1, by rw [HPE.out]; go_num, by go_num, by omega, H6⟩
                case measure => simp [intOf]; omega
            · have hkk : k = j := by omega
              subst hkk
              have hbW5 : Below w5.heap.size w5 wr := HKB2.out
              have v2' := boxed_below HQ.out.2.1 hbW5
              have v3' := boxed_below HQ.out.2.2 hbW5
              have y2 := v2'.cell
              have y3 := v3'.cell
              have y4 := v2'.frozen
              have y5 := v3'.frozen
              have HV : Hid (Below w.heap.size w wr ∧ Boxed wr (w.heap.size + 1 + 1) 4 (.bool false) ∧ Boxed wr (w.heap.size + 1 + 1 + 1) 3 (.int .i64 0) ∧ Below W.heap.size W wr) := ⟨HQ.out.1.trans (hbW5.mono HQ.out.1.size), v2', v3', HB5.out.trans (hbW5.mono HB5.out.size)⟩
              clear hbW5 v2' v3' HKB2
              gi_wp2
              obtain ⟨u1, u2, u3, u4⟩ := two_set HV.out.2.1 HV.out.2.2.1 (1 + (rq + F.vals.pre k)) false HV.out.1
              exact ⟨(KeepsOthers.of_below HV.out.2.2.2).trans u3, ⟨rfl, pre, _, rfl, HI.out.1, by show (g ((i : Int), (k : Int))).1 = false; rw [HGX.out]; rfl, u1, by show Boxed _ _ _ (.int .i64 (g ((i : Int), (k : Int))).2); rw [HGX.out]; show Boxed _ _ _ (.int .i64 (1 + F.vals.pre k + rq)); rw [show 1 + F.vals.pre k + rq = 1 + (rq + F.vals.pre k) by omega]; exact u2⟩, u4⟩
  case done =>
    rintro D ys W hD hS ⟨⟨hgd, d0, d1, bx2, bx3⟩, hBV⟩ hK
    have hBW := t1.trans (hBV.mono t1.size)
    have HF : Hid (Sp.firstBad g M = (true, 0)) := by
      show _ = _
      rw [← hS]
      exact Sp.firstBad_all g _ fun x hx => by obtain ⟨y, hy, rfl⟩ := List.mem_map.1 hx; exact hgd y hy
    have d2 := bx2.cell
    have d3 := bx3.cell
    have z2 := bx2.frozen
    have z3 := bx3.frozen
    clear hgd d0 d1 HSQ' HW0 HW4 t3 t4 t5 t6 t7 t8 t9
    obtain ⟨u1, u2, u3, u4⟩ := two_set bx2 bx3 0 true hBW
    have HU : Hid (Boxed ((W.setCell ⟨w.heap.size + 1 + 1, 0, none⟩ (.bool true)).setCell ⟨w.heap.size + 1 + 1 + 1, 0, none⟩ (.int .i64 0)) (w.heap.size + 1 + 1) 4 (.bool true) ∧ Boxed ((W.setCell ⟨w.heap.size + 1 + 1, 0, none⟩ (.bool true)).setCell ⟨w.heap.size + 1 + 1 + 1, 0, none⟩ (.int .i64 0)) (w.heap.size + 1 + 1 + 1) 3 (.int .i64 0) ∧ KeepsOthers W ((W.setCell ⟨w.heap.size + 1 + 1, 0, none⟩ (.bool true)).setCell ⟨w.heap.size + 1 + 1 + 1, 0, none⟩ (.int .i64 0)) ∧ Below w.heap.size w ((W.setCell ⟨w.heap.size + 1 + 1, 0, none⟩ (.bool true)).setCell ⟨w.heap.size + 1 + 1 + 1, 0, none⟩ (.int .i64 0))) := ⟨u1, u2, u3, u4⟩
    clear u1 u2 u3 u4
    gi_wp2
    have hK' := HU.out.2.2.1.same D _ hK rfl
    refine ⟨by simp, .inl ⟨_, _, rfl, run_takeDeferred hK', ?_⟩⟩
    have hc5 := cell_kept HU.out.1.cell (grownBy_putObj' _ D (.deferred none)) (fun r e => by cases e; exact ⟨_, hK', rfl⟩)
    have hc6 := cell_kept HU.out.2.1.cell (grownBy_putObj' _ D (.deferred none)) (fun r e => by cases e; exact ⟨_, hK', rfl⟩)
    refine ⟨.tuple #[.bool true, .int .i64 0], ?_, by rw [HF.out], HU.out.2.2.2.trans (belowK_b (w := w) (Nat.le_refl _) _ D _ _ (by have := t1.size; omega) hK' rfl rfl)⟩
    simp [results, Tryz.f85, go_sem, hc5, hc6]
  case stop =>
    rintro D c pre W hD ⟨rest, hrest⟩ ⟨⟨rfl, ini, last, rfl, e2, e3, bx2, bx3⟩, hB5⟩ hK
    have HF : Hid (Sp.firstBad g M = (false, (g last.1).2)) := by
      show _ = _
      rw [← hrest, List.map_append, List.append_assoc]
      exact Sp.firstBad_at g _ _ _ (fun x hx => by obtain ⟨y, hy, rfl⟩ := List.mem_map.1 hx; exact e2 y hy) e3
    clear HSQ' HW0 HW4 t3 t4 t5 t6 t7 t8 t9 hrest e2 e3
    gi_wp2
    refine ⟨by simp, .inl ⟨_, _, rfl, run_takeDeferred hK, ?_⟩⟩
    have hc5 := cell_kept bx2.cell (grownBy_putObj' _ D (.deferred none)) (fun r e => by cases e; exact ⟨_, hK, rfl⟩)
    have hc6 := cell_kept bx3.cell (grownBy_putObj' _ D (.deferred none)) (fun r e => by cases e; exact ⟨_, hK, rfl⟩)
    refine ⟨.tuple #[.bool false, .int .i64 (g last.1).2], ?_, by rw [HF.out], hB5.trans (belowK_b (w := w) (Nat.le_refl _) W D _ _ (by have := t1.size; omega) hK rfl rfl)⟩
    simp [results, Tryz.f85, go_sem, hc5, hc6]
end Go.Proofs.YtjdjpbdfchhcfaaGreat

