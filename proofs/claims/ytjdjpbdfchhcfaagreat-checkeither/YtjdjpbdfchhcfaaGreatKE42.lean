/- check.fieldsPlainlyOf: what it is asked and answers. -/
import Derived.Test.YtjdjpbdfchhcfaaGreatKE40
import Derived.Test.YtjdjpbdfchhcfaaGreatKE41
import Derived.Test.YtjdjpbdfchhcfaaGreatKE27
import Derived.Test.YtjdjpbdfchhcfaaGreatKE1
namespace Go.Proofs.YtjdjpbdfchhcfaaGreat
open Go.RowKit Go.Shelf

def Sp.stepS (aop bop : Bool) (A : Sp.Zs (Ty → Bool)) (B : Sp.Zs Ty) (x : Int × Int) : Bool :=
  if x.1 < 0 then (match B[x.2.toNat]? with | some z => z.2.1 && !aop | none => true)
  else if x.2 < 0 then bop
  else match A[x.1.toNat]?, B[x.2.toNat]? with
    | some y, some z => (z.2.1 || !y.2.1) && y.2.2 z.2.2
    | _, _ => true
theorem Sp.subD_mrg (aop bop : Bool) (A : Sp.Zs (Ty → Bool)) (B : Sp.Zs Ty) : (N : Nat) → ∀ (i j : Nat) (a : Sp.Zs (Ty → Bool)) (b : Sp.Zs Ty), (∀ k, A[i + k]? = a[k]?) → (∀ k, B[j + k]? = b[k]?) → Sp.subD aop bop N a b = (Sp.mrg N i j (Sp.nms a) (Sp.nms b)).all (Sp.stepS aop bop A B)
  | 0, i, j, a, b, _, _ => by cases a <;> cases b <;> simp [Sp.subD, Sp.mrg]
  | N + 1, i, j, [], [], _, _ => by simp [Sp.subD, Sp.mrg, Sp.nms]
  | N + 1, i, j, [], (m, k, q) :: b, hA, hB => by
    have e1 : Sp.stepS aop bop A B (-1, (j : Int)) = (k && !aop) := by
      have := hB 0
      simp at this
      simp [Sp.stepS, this]
    have ih := Sp.subD_mrg aop bop A B N i (j + 1) [] b hA (fun q => by rw [show j + 1 + q = j + (q + 1) by omega, hB]; rfl)
    simp only [Sp.subD, Sp.nms, List.map_cons, List.map_nil, Sp.mrg, List.all_cons, e1, ih]
  | N + 1, i, j, (n, k, f) :: a, [], hA, hB => by
    have e1 : Sp.stepS aop bop A B ((i : Int), -1) = bop := by
      have n1 : ¬ ((i : Int) < 0) := by omega
      simp only [Sp.stepS, if_neg n1]; rfl
    have ih := Sp.subD_mrg aop bop A B N (i + 1) j a [] (fun q => by rw [show i + 1 + q = i + (q + 1) by omega, hA]; rfl) hB
    simp only [Sp.subD, Sp.nms, List.map_cons, List.map_nil, Sp.mrg, List.all_cons, e1, ih]
  | N + 1, i, j, (n, k, f) :: a, (m, k2, q) :: b, hA, hB => by
    have n1 : ¬ ((i : Int) < 0) := by omega
    have n2 : ¬ ((j : Int) < 0) := by omega
    have e1 : Sp.stepS aop bop A B (-1, (j : Int)) = (k2 && !aop) := by
      have := hB 0
      simp at this
      simp [Sp.stepS, this]
    have e2 : Sp.stepS aop bop A B ((i : Int), -1) = bop := by simp only [Sp.stepS, if_neg n1]; rfl
    have e3 : Sp.stepS aop bop A B ((i : Int), (j : Int)) = ((k2 || !k) && f q) := by
      have q1 := hA 0
      have q2 := hB 0
      simp at q1 q2
      simp only [Sp.stepS, if_neg n1, if_neg n2, Int.toNat_natCast, q1, q2]
    have hA' : ∀ q, A[i + 1 + q]? = a[q]? := fun q => by rw [show i + 1 + q = i + (q + 1) by omega, hA]; rfl
    have hB' : ∀ q, B[j + 1 + q]? = b[q]? := fun q => by rw [show j + 1 + q = j + (q + 1) by omega, hB]; rfl
    simp only [Sp.subD, Sp.nms, List.map_cons, Sp.mrg]
    split
    · have ih := Sp.subD_mrg aop bop A B N (i + 1) j a ((m, k2, q) :: b) hA' hB
      simp only [Sp.nms, List.map_cons] at ih
      simp only [List.all_cons, e2, ih]
    · split
      · have ih := Sp.subD_mrg aop bop A B N i (j + 1) ((n, k, f) :: a) b hA hB'
        simp only [Sp.nms, List.map_cons] at ih
        simp only [List.all_cons, e1, ih]
      · have ih := Sp.subD_mrg aop bop A B N (i + 1) (j + 1) a b hA' hB'
        simp only [Sp.nms] at ih
        simp only [List.all_cons, e3, ih]
theorem Sp.z3_get {α : Type} : (ns : List ByteArray) → ∀ (ks : List Bool) (fs : List α) (i : Nat) (n : ByteArray) (k : Bool) (f : α), ns[i]? = some n → ks[i]? = some k → fs[i]? = some f → (Sp.z3 ns ks fs)[i]? = some (n, k, f)
  | [], _, _, i, _, _, _, h, _, _ => by simp at h
  | _ :: _, [], _, i, _, _, _, _, h, _ => by simp at h
  | _ :: _, _ :: _, [], i, _, _, _, _, _, h => by simp at h
  | a :: ns, b :: ks, c :: fs, 0, n, k, f, h1, h2, h3 => by simp at h1 h2 h3; subst h1 h2 h3; rfl
  | a :: ns, b :: ks, c :: fs, i + 1, n, k, f, h1, h2, h3 => by
    simp only [Sp.z3, List.getElem?_cons_succ]
    exact Sp.z3_get ns ks fs i n k f (by simpa using h1) (by simpa using h2) (by simpa using h3)
theorem TyL.get_toL : (l : TyL) → ∀ j t, l.get j = some t → l.toL[j]? = some t ∧ l.subFns[j]? = some t.sub
  | .nil, j, t, h => by simp [TyL.get] at h
  | .cons u l, 0, t, h => by simp [TyL.get] at h; subst h; exact ⟨rfl, rfl⟩
  | .cons u l, j + 1, t, h => by simp only [TyL.toL, TyL.subFns]; exact TyL.get_toL l j t h
theorem all_snocB {A B : Nat} {g : Int × Int → Bool} {pre : List (PQ A B)} {x : PQ A B} (h : ∀ y ∈ pre, g y.1 = true) (hx : g x.1 = true) : ∀ y ∈ pre ++ [x], g y.1 = true := fun y hy => by
  rcases List.mem_append.1 hy with hy | hy
  · exact h y hy
  · rw [List.mem_singleton.1 hy]; exact hx

structure DSh (w : World) (B b : Nat) (P : TyL) (NS : List ByteArray) (KS : List Bool) (op : Bool) (ap an ak : Option Addr) (cp cn ck : Nat) : Prop where
  hb : b < B
  c4 : w.cell? ⟨b, 4, none⟩ = some (.slice ap P.len cp)
  c5 : w.cell? ⟨b, 5, none⟩ = some (.slice an NS.length cn)
  c6 : w.cell? ⟨b, 6, none⟩ = some (.slice ak KS.length ck)
  c7 : w.cell? ⟨b, 7, none⟩ = some (.bool op)
  hNS : NamesAt w (Lo B) an NS
  hKS : BoolsAt w (Lo B) ak KS
  hp : P.Sh w (Lo B) ap 0
  hok : P.ok = true
  l1 : NS.length = P.len
  l2 : KS.length = NS.length
  l3 : NS.length ≤ 4096
def SubC (N : Nat) : Prop := ∀ (a b : Ty), a.sz + b.sz ≤ N → a.ok = true → b.ok = true → ∀ (ba bb B : Nat) (w : World), a.Sh w (Lo B) ba → b.Sh w (Lo B) bb → B ≤ w.heap.size →
  Calls Tryz.prog 24 #[.pointer (some ⟨ba, 0, none⟩), .pointer (some ⟨bb, 0, none⟩)] w fun e w' => e = .returned (.bool (a.sub b)) ∧ Below w.heap.size w w'
def Sp.fpl (P : TyL) (NA : List ByteArray) (KA : List Bool) (aop : Bool) (Q : TyL) (NB : List ByteArray) (KB : List Bool) (bop : Bool) : Bool := (!aop || bop) && (Sp.mrg (NA.length + NB.length) 0 0 NA NB).all (Sp.stepS aop bop (Sp.z3 NA KA P.subFns) (Sp.z3 NB KB Q.toL))
end Go.Proofs.YtjdjpbdfchhcfaaGreat

/- check.fieldsPlainlyOf: two dicts' types. -/
namespace Go.Proofs.YtjdjpbdfchhcfaaGreat
open Go.RowKit Go.Shelf

set_option maxRecDepth 100000 in
set_option maxHeartbeats 4000000 in
theorem subFields_any (N : Nat) (HC : SubC N) (P Q : TyL) (hN : P.sz + Q.sz ≤ N) (NA NB : List ByteArray) (KA KB : List Bool) (aop bop : Bool) (ba bb B : Nat) (ap an ak bp bn bk : Option Addr) (acp acn ack bcp bcn bck : Nat) (w : World) (hB : B ≤ w.heap.size)
    (DA : DSh w B ba P NA KA aop ap an ak acp acn ack) (DB : DSh w B bb Q NB KB bop bp bn bk bcp bcn bck) :
    Calls Tryz.prog 51 #[.pointer (some ⟨ba, 0, none⟩), .pointer (some ⟨bb, 0, none⟩)] w fun e w' => e = .returned (.bool (Sp.fpl P NA KA aop Q NB KB bop)) ∧ Below w.heap.size w w' := by
  have hSame : ∀ W, Below w.heap.size w W → Same (Lo B) w W := fun W hW k hk => hW.block k (Nat.lt_of_lt_of_le hk hB)
  have hbA : ba < w.heap.size := Nat.lt_of_lt_of_le DA.hb hB
  have hbB : bb < w.heap.size := Nat.lt_of_lt_of_le DB.hb hB
  have HX : Hid (∀ W, Below w.heap.size w W → W.cell? ⟨ba, 4, none⟩ = some (.slice ap P.len acp) ∧ W.cell? ⟨ba, 5, none⟩ = some (.slice an NA.length acn) ∧ W.cell? ⟨ba, 6, none⟩ = some (.slice ak KA.length ack) ∧ W.cell? ⟨ba, 7, none⟩ = some (.bool aop) ∧ W.cell? ⟨bb, 4, none⟩ = some (.slice bp Q.len bcp) ∧ W.cell? ⟨bb, 5, none⟩ = some (.slice bn NB.length bcn) ∧ W.cell? ⟨bb, 6, none⟩ = some (.slice bk KB.length bck) ∧ W.cell? ⟨bb, 7, none⟩ = some (.bool bop)) := fun W hW =>
    ⟨by rw [hW.cell (p := ⟨ba, 4, none⟩) hbA]; exact DA.c4, by rw [hW.cell (p := ⟨ba, 5, none⟩) hbA]; exact DA.c5, by rw [hW.cell (p := ⟨ba, 6, none⟩) hbA]; exact DA.c6, by rw [hW.cell (p := ⟨ba, 7, none⟩) hbA]; exact DA.c7, by rw [hW.cell (p := ⟨bb, 4, none⟩) hbB]; exact DB.c4, by rw [hW.cell (p := ⟨bb, 5, none⟩) hbB]; exact DB.c5, by rw [hW.cell (p := ⟨bb, 6, none⟩) hbB]; exact DB.c6, by rw [hW.cell (p := ⟨bb, 7, none⟩) hbB]; exact DB.c7⟩
  have HKA : Hid (∀ W i, Below w.heap.size w W → i < NA.length → ∃ s g o, KA[i]? = some s ∧ ak = some ⟨g, o, none⟩ ∧ W.cell? ⟨g, o + i, none⟩ = some (.bool s)) := fun W i hW hi => by
    obtain ⟨s, g, o, e1, e2, e3, e4⟩ := DA.hKS.at (i := i) (by rw [DA.l2]; exact hi)
    exact ⟨s, g, o, e1, e2, by rw [(hSame W hW).cell (p := ⟨g, o + i, none⟩) e3]; exact e4⟩
  have HKB : Hid (∀ W i, Below w.heap.size w W → i < NB.length → ∃ s g o, KB[i]? = some s ∧ bk = some ⟨g, o, none⟩ ∧ W.cell? ⟨g, o + i, none⟩ = some (.bool s)) := fun W i hW hi => by
    obtain ⟨s, g, o, e1, e2, e3, e4⟩ := DB.hKS.at (i := i) (by rw [DB.l2]; exact hi)
    exact ⟨s, g, o, e1, e2, by rw [(hSame W hW).cell (p := ⟨g, o + i, none⟩) e3]; exact e4⟩
  have HPT : Hid (∀ i j, i < NA.length → j < NB.length → ∃ (t u : Ty) (g o g' o' b1 b2 : Nat), P.subFns[i]? = some t.sub ∧ Q.toL[j]? = some u ∧ ap = some ⟨g, o, none⟩ ∧ bp = some ⟨g', o', none⟩ ∧ (g < w.heap.size ∧ w.cell? ⟨g, o + i, none⟩ = some (.pointer (some ⟨b1, 0, none⟩))) ∧ (g' < w.heap.size ∧ w.cell? ⟨g', o' + j, none⟩ = some (.pointer (some ⟨b2, 0, none⟩))) ∧ ∀ W, Below w.heap.size w W → Calls Tryz.prog 24 #[.pointer (some ⟨b1, 0, none⟩), .pointer (some ⟨b2, 0, none⟩)] W fun e w' => e = .returned (.bool (t.sub u)) ∧ Below W.heap.size W w') := fun i j hi hj => by
    obtain ⟨t, ht⟩ := TyL.get_some P i (by rw [← DA.l1]; exact hi)
    obtain ⟨u, hu⟩ := TyL.get_some Q j (by rw [← DB.l1]; exact hj)
    obtain ⟨g, o, b1, q1, q2, q3, q4, q5, q6⟩ := TyL.Sh_at P DA.hp DA.hok ht
    obtain ⟨g', o', b2, r1, r2, r3, r4, r5, r6⟩ := TyL.Sh_at Q DB.hp DB.hok hu
    rw [Nat.zero_add] at q3 r3
    exact ⟨t, u, g, o, g', o', b1, b2, (TyL.get_toL P i t ht).2, (TyL.get_toL Q j u hu).1, q1, r1, ⟨Nat.lt_of_lt_of_le q2 hB, q3⟩, ⟨Nat.lt_of_lt_of_le r2 hB, r3⟩, fun W hW => HC t u (by omega) q5 r5 b1 b2 B W (t.Sh_same (hSame W hW) (fun _ h => h) b1 q4) (u.Sh_same (hSame W hW) (fun _ h => h) b2 r4) (Nat.le_trans hB hW.size)⟩
  have HNM : Hid ((∀ i, i < NA.length → ∃ n, NA[i]? = some n) ∧ (∀ j, j < NB.length → ∃ n, NB[j]? = some n)) := ⟨fun i hi => ⟨_, List.getElem?_eq_getElem hi⟩, fun j hj => ⟨_, List.getElem?_eq_getElem hj⟩⟩
  have HTG : Hid (∀ W, Calls Tryz.prog 90 #[.slice an NA.length acn, .slice bn NB.length bcn, .func (.func 91) #[] #[]] W fun e w' =>
    e = .returned (.func (.func 112) #[] #[.pointer (some ⟨W.heap.size, 0, none⟩), .pointer (some ⟨W.heap.size + 1, 0, none⟩), .pointer (some ⟨W.heap.size + 1 + 1, 0, none⟩)]) ∧
      ((W.alloc (.cells #[.slice an NA.length acn] 31)).alloc (.cells #[.slice bn NB.length bcn] 31)).alloc (.cells #[.func (.func 91) #[] #[]] 120) = w') := fun W => togetherS_any an bn NA.length acn NB.length bcn W
  have HMEM : Hid (NamesAt w (Lo w.heap.size) an NA ∧ NamesAt w (Lo w.heap.size) bn NB) := ⟨DA.hNS.same (Same.refl _ _) (Lo.le hB), DB.hNS.same (Same.refl _ _) (Lo.le hB)⟩
  have hl3 := DA.l3
  have hl4 := DB.l3
  have HLN : Hid (NA.length = P.len ∧ KA.length = NA.length ∧ NB.length = Q.len ∧ KB.length = NB.length) := ⟨DA.l1, DA.l2, DB.l1, DB.l2⟩
  obtain ⟨g, HG⟩ : ∃ g, Hid (g = Sp.stepS aop bop (Sp.z3 NA KA P.subFns) (Sp.z3 NB KB Q.toL)) := ⟨_, show _ = _ from rfl⟩
  obtain ⟨M, HM⟩ : ∃ M, Hid (M = Sp.mrg (NA.length + NB.length) 0 0 NA NB) := ⟨_, show _ = _ from rfl⟩
  unfold Sp.fpl
  rw [← HM.out, ← HG.out]
  clear DA DB HC hSame hN
  obtain ⟨w4, hw4⟩ : ∃ w4, ((w.alloc (.cells #[.pointer (some ⟨ba, 0, none⟩)] 60)).alloc (.cells #[.pointer (some ⟨bb, 0, none⟩)] 60)).alloc (.cells #[.bool false] 4) = w4 := ⟨_, rfl⟩
  have HW4 : Hid (Below w.heap.size w w4 ∧ w4.heap.size = w.heap.size + 1 + 1 + 1 ∧ w4.cell? ⟨w.heap.size, 0, none⟩ = some (.pointer (some ⟨ba, 0, none⟩)) ∧ w4.cell? ⟨w.heap.size + 1, 0, none⟩ = some (.pointer (some ⟨bb, 0, none⟩)) ∧ Boxed w4 (w.heap.size + 1 + 1) 4 (.bool false)) := by
    rw [← hw4]
    have b0 := Boxed.new w 60 (.pointer (some ⟨ba, 0, none⟩))
    have b1 := Boxed.new (w.alloc (.cells #[.pointer (some ⟨ba, 0, none⟩)] 60)) 60 (.pointer (some ⟨bb, 0, none⟩))
    have b2 := Boxed.new ((w.alloc (.cells #[.pointer (some ⟨ba, 0, none⟩)] 60)).alloc (.cells #[.pointer (some ⟨bb, 0, none⟩)] 60)) 4 (.bool false)
    simp only [World.size_alloc] at b1 b2
    exact ⟨(((Below.refl _ w).alloc (Nat.le_refl _) _).alloc (by simp) _).alloc (by simp; omega) _, by simp only [World.size_alloc], ((b0.alloc _).alloc _).cell, (b1.alloc _).cell, b2⟩
  have q0 := HW4.out.2.2.1
  have q1 := HW4.out.2.2.2.1
  have q2 := HW4.out.2.2.2.2.cell
  have z2 := HW4.out.2.2.2.2.frozen
  obtain ⟨-, -, -, s7, -, -, -, s7b⟩ := HX.out w4 HW4.out.1
  refine (callsIn_wide (n := 3)).1 ?_
  refine callsIn_of_wp_marks Tryz.func51 rfl trivial ?_ rfl
  simp only [Tryz.ntmps51, List.size_toArray, List.length_cons, List.length_nil, Nat.reduceAdd, Nat.reduceSub, Array.replicate_succ, Array.replicate_zero, List.push_toArray, List.append_toArray, List.nil_append, List.cons_append]
  have hcs : (aop = true ∧ bop = false) ∨ aop = false ∨ (aop = true ∧ bop = true) := by cases aop <;> cases bop <;> simp
  rcases hcs with ⟨rfl, rfl⟩ | rfl | ⟨rfl, rfl⟩
  · have HU : Hid (Boxed (w4.setCell ⟨w.heap.size + 1 + 1, 0, none⟩ (.bool false)) (w.heap.size + 1 + 1) 4 (.bool false) ∧ Below w.heap.size w (w4.setCell ⟨w.heap.size + 1 + 1, 0, none⟩ (.bool false))) := ⟨HW4.out.2.2.2.2.set _, HW4.out.1.setCell (p := ⟨w.heap.size + 1 + 1, 0, none⟩) (by show _ ≤ w.heap.size + 1 + 1; omega) _⟩
    gi_wp2
    have f2 := HU.out.1.cell
    exact ⟨.bool false, by simp [results, Tryz.f51, go_sem, f2], by rfl, HU.out.2⟩
  · gi_wp2
    clear hw4
    refine wpIn_wide.2 ?_
    have HK1 : Hid (∀ W, Below w4.heap.size w4 W → W.cell? ⟨w.heap.size, 0, none⟩ = some (.pointer (some ⟨ba, 0, none⟩)) ∧ W.cell? ⟨w.heap.size + 1, 0, none⟩ = some (.pointer (some ⟨bb, 0, none⟩)) ∧ W.cell? ⟨ba, 5, none⟩ = some (.slice an NA.length acn) ∧ W.cell? ⟨bb, 5, none⟩ = some (.slice bn NB.length bcn)) := fun W h => by
      obtain ⟨p1, p2, p3, p4, -⟩ := HW4.out
      have hx := HX.out W (p1.trans (h.mono p1.size))
      exact ⟨cell_below p3 h, cell_below p4 h, hx.2.1, hx.2.2.2.2.2.1⟩
    go_region_held3 (fun W => W.cell? ⟨w.heap.size, 0, none⟩ = some (.pointer (some ⟨ba, 0, none⟩)) ∧ W.cell? ⟨w.heap.size + 1, 0, none⟩ = some (.pointer (some ⟨bb, 0, none⟩)) ∧ W.cell? ⟨ba, 5, none⟩ = some (.slice an NA.length acn) ∧ W.cell? ⟨bb, 5, none⟩ = some (.slice bn NB.length bcn))
      (first | with_reducible exact HK1.out _ HBT.out | with_reducible exact HK1.out _ (Below.refl _ _).drew)
      ((go_at_call 90; refine (HTG.out _).mono ?_; rintro e W0 ⟨rfl, hW0⟩; have HBT : Hid (Below w4.heap.size w4 W0) := by (rw [← hW0]; exact (((((Below.refl _ _).drew).alloc (Nat.le_refl _) _).alloc (by simp) _).alloc (by simp; omega) _))))
    have HW0 : Hid (Below w.heap.size w W0 ∧ W0.heap.size = w4.heap.size + 1 + 1 + 1 ∧ W0.cell? ⟨w4.heap.size, 0, none⟩ = some (.slice an NA.length acn) ∧ W0.cell? ⟨w4.heap.size + 1, 0, none⟩ = some (.slice bn NB.length bcn) ∧ W0.cell? ⟨w4.heap.size + 1 + 1, 0, none⟩ = some (.func (.func 91) #[] #[]) ∧
        W0.cell? ⟨w.heap.size, 0, none⟩ = some (.pointer (some ⟨ba, 0, none⟩)) ∧ W0.cell? ⟨w.heap.size + 1, 0, none⟩ = some (.pointer (some ⟨bb, 0, none⟩)) ∧ Boxed W0 (w.heap.size + 1 + 1) 4 (.bool false)) := by
      obtain ⟨p1, p2, p3, p4, p5⟩ := HW4.out
      have b0 := Boxed.new w4.drew 31 (.slice an NA.length acn)
      have b1 := Boxed.new (w4.drew.alloc (.cells #[.slice an NA.length acn] 31)) 31 (.slice bn NB.length bcn)
      have b2 := Boxed.new ((w4.drew.alloc (.cells #[.slice an NA.length acn] 31)).alloc (.cells #[.slice bn NB.length bcn] 31)) 120 (.func (.func 91) #[] #[])
      simp only [World.size_alloc] at b1 b2
      obtain ⟨r1, r2, -⟩ := HK1.out W0 HBT.out
      refine ⟨p1.trans (HBT.out.mono p1.size), by rw [← hW0]; simp only [World.size_alloc]; rfl, ?_, ?_, ?_, r1, r2, boxed_below p5 HBT.out⟩
      · rw [← hW0]; exact ((b0.alloc _).alloc _).cell
      · rw [← hW0]; exact (b1.alloc _).cell
      · rw [← hW0]; exact b2.cell
    clear hW0
    have HTS := HW0.out
    obtain ⟨t1, t2, t3, t4, t5, t6, t7, t8⟩ := HTS
    have hs0 : Same (Lo w.heap.size) w W0 := fun k hk => t1.block k hk
    have HSQ := togS_stops (3 - 1) w4.heap.size (w4.heap.size + 1) (w4.heap.size + 1 + 1) NA NB an bn acn bcn W0 (by omega) (by omega) (by omega) t3 t4 t5 (HMEM.out.1.same hs0 (Lo.le t1.size)) (HMEM.out.2.same hs0 (Lo.le t1.size)) hl3 hl4
    rw [← HM.out] at HSQ
    have HSQ' : Hid _ := HSQ
    clear HSQ hs0 HMEM HTG HBT HK1 q0 q1 q2 z2 s7 s7b
    gi_wp2
    refine' wpIn_rangeFunc_ownF rfl (by omega) (gf := 112) (lb := #[.pointer (some ⟨w4.heap.size, 0, none⟩), .pointer (some ⟨w4.heap.size + 1, 0, none⟩), .pointer (some ⟨w4.heap.size + 1 + 1, 0, none⟩)]) rfl trivial (enters_of Tryz.func112 (by kernel_rfl) rfl)
      HSQ'.out belowK_t (belowK_b (Nat.le_refl _)) (Below.refl _ _) (fun _ => rfl)
      (fun pre W => ((∀ x ∈ pre, g x.1 = true) ∧ W.cell? ⟨w.heap.size, 0, none⟩ = some (.pointer (some ⟨ba, 0, none⟩)) ∧ W.cell? ⟨w.heap.size + 1, 0, none⟩ = some (.pointer (some ⟨bb, 0, none⟩)) ∧ Boxed W (w.heap.size + 1 + 1) 4 (.bool false)) ∧ Below W0.heap.size W0 W)
      (fun c pre W => (c = .ret ∧ ∃ ini last, pre = ini ++ [last] ∧ (∀ x ∈ ini, g x.1 = true) ∧ g last.1 = false ∧ Boxed W (w.heap.size + 1 + 1) 4 (.bool false)) ∧ Below w.heap.size w W)
      (OwnFrom.and (Own.from (fun s A B row hs hg hr => ⟨hs.1, cell_kept hs.2.1 hg hr, cell_kept hs.2.2.1 hg hr, boxed_own (β := Unit) _ _ (fun _ => .bool false) () A B row hs.2.2.2 hg hr⟩) _) (ownFrom_below (Nat.le_refl _) (Nat.le_refl _)))
      (fun c => OwnFrom.and (Own.from (fun s A B row hs hg hr => by obtain ⟨hc, ini, last, e1, e2, e3, e4⟩ := hs; exact ⟨hc, ini, last, e1, e2, e3, boxed_own (β := Unit) _ _ (fun _ => .bool false) () A B row e4 hg hr⟩) _) (ownFrom_below (Nat.le_refl _) t1.size))
      ⟨⟨fun x hx => (by cases hx), t6, t7, t8⟩, Below.refl _ _⟩ _ ?assign ?body ?done ?stop
    case assign =>
      intro l x W K hK
      simp only [PQ.enc]
      gi_wp2
      exact hK
    case body =>
      rintro l pre ⟨⟨x1, x2⟩, hx⟩ W ⟨⟨hgd, d0, d1, bx2⟩, hBV⟩ -
      have hBW := t1.trans (hBV.mono t1.size)
      have HBV : Hid (Below W0.heap.size W0 W) := hBV
      obtain ⟨s4, s5, s6, s7, r4, r5, r6, r7⟩ := HX.out W hBW
      have d2 := bx2.cell
      have z2 := bx2.frozen
      have HI : Hid ((∀ y ∈ pre, g y.1 = true) ∧ W.cell? ⟨w.heap.size, 0, none⟩ = some (.pointer (some ⟨ba, 0, none⟩)) ∧ W.cell? ⟨w.heap.size + 1, 0, none⟩ = some (.pointer (some ⟨bb, 0, none⟩)) ∧ Boxed W (w.heap.size + 1 + 1) 4 (.bool false) ∧ Below w.heap.size w W) := ⟨hgd, d0, d1, bx2, hBW⟩
      have HBL : Hid (∀ W', Below W.heap.size W W' → Below w.heap.size w W' ∧ W'.cell? ⟨w.heap.size, 0, none⟩ = some (.pointer (some ⟨ba, 0, none⟩)) ∧ W'.cell? ⟨w.heap.size + 1, 0, none⟩ = some (.pointer (some ⟨bb, 0, none⟩)) ∧ Boxed W' (w.heap.size + 1 + 1) 4 (.bool false)) := fun W' h => ⟨hBW.trans (h.mono hBW.size), cell_below d0 h, cell_below d1 h, boxed_below bx2 h⟩
      clear hgd bx2 hBW hBV HSQ' HW0 HW4 t3 t4 t5 t6 t7 t8
      rcases hx with ⟨e1, e2, e3⟩ | ⟨e1, e2, e3⟩ | ⟨e1, e2, e3, e4⟩
      · have e1 : x1 = -1 := e1
        subst e1
        obtain ⟨j, rfl⟩ := Int.eq_ofNat_of_zero_le e2
        have hjN : j < NB.length := by have : (j : Int) < NB.length := e3; omega
        have hj0 : (0 : Int) ≤ (j : Int) := Int.natCast_nonneg _
        have hj1 : (j : Int) < (KB.length : Int) := by have := HLN.out.2.2.2; omega
        obtain ⟨kb, g4, o4, hk, rfl, ck⟩ := HKB.out W j HI.out.2.2.2.2 hjN
        have HGE : Hid (g (-1, (j : Int)) = (kb && !false)) := by
          show _ = _
          obtain ⟨nn, hnn⟩ := HNM.out.2 j hjN
          have hq : ∃ u, Q.toL[j]? = some u := ⟨_, List.getElem?_eq_getElem (by rw [TyL.toL_len]; have := HLN.out.2.2.1; omega)⟩
          obtain ⟨u, hu⟩ := hq
          rw [HG.out]; simp [Sp.stepS, Sp.z3_get NB KB Q.toL j nn kb u hnn hk hu]
        dsimp only
        clear hk
        cases kb with
        | true =>
          have HGX : Hid (g (-1, (j : Int)) = true) := by show _ = _; rw [HGE.out]; rfl
          gi_wp2
          exact ⟨KeepsOthers.refl _, Below.refl _ _, ⟨all_snocB HI.out.1 (by show g (-1, (j : Int)) = true; exact HGX.out), HI.out.2.1, HI.out.2.2.1, HI.out.2.2.2.1⟩, HBV.out⟩
        | false =>
          have HGX : Hid (g (-1, (j : Int)) = false) := by show _ = _; rw [HGE.out]; rfl
          gi_wp2
          exact ⟨KeepsOthers.setCell _ _ _, ⟨rfl, pre, _, rfl, HI.out.1, by show g (-1, (j : Int)) = false; exact HGX.out, HI.out.2.2.2.1.set _⟩, HI.out.2.2.2.2.setCell (p := ⟨w.heap.size + 1 + 1, 0, none⟩) (by show _ ≤ w.heap.size + 1 + 1; omega) _⟩
      · have e3 : x2 = -1 := e3
        subst e3
        obtain ⟨i, rfl⟩ := Int.eq_ofNat_of_zero_le e1
        have n1 : decide ((i : Int) < 0) = false := by simp
        have HGE : Hid (g ((i : Int), -1) = bop) := by show _ = _; rw [HG.out]; have q1 : ¬ ((i : Int) < 0) := (by omega); simp only [Sp.stepS, if_neg q1]; rfl
        dsimp only
        cases bop with
        | true =>
          have HGX : Hid (g ((i : Int), -1) = true) := by show _ = _; rw [HGE.out]
          gi_wp2
          exact ⟨KeepsOthers.refl _, Below.refl _ _, ⟨all_snocB HI.out.1 (by show g ((i : Int), -1) = true; exact HGX.out), HI.out.2.1, HI.out.2.2.1, HI.out.2.2.2.1⟩, HBV.out⟩
        | false =>
          have HGX : Hid (g ((i : Int), -1) = false) := by show _ = _; rw [HGE.out]
          gi_wp2
          exact ⟨KeepsOthers.setCell _ _ _, ⟨rfl, pre, _, rfl, HI.out.1, by show g ((i : Int), -1) = false; exact HGX.out, HI.out.2.2.2.1.set _⟩, HI.out.2.2.2.2.setCell (p := ⟨w.heap.size + 1 + 1, 0, none⟩) (by show _ ≤ w.heap.size + 1 + 1; omega) _⟩
      · obtain ⟨i, rfl⟩ := Int.eq_ofNat_of_zero_le e1
        obtain ⟨j, rfl⟩ := Int.eq_ofNat_of_zero_le e3
        have hiN : i < NA.length := by have : (i : Int) < NA.length := e2; omega
        have hjN : j < NB.length := by have : (j : Int) < NB.length := e4; omega
        have hi0 : (0 : Int) ≤ (i : Int) := Int.natCast_nonneg _
        have hj0 : (0 : Int) ≤ (j : Int) := Int.natCast_nonneg _
        have hi1 : (i : Int) < (P.len : Int) := by have := HLN.out.1; omega
        have hi2 : (i : Int) < (KA.length : Int) := by have := HLN.out.2.1; omega
        have hj1 : (j : Int) < (Q.len : Int) := by have := HLN.out.2.2.1; omega
        have hj2 : (j : Int) < (KB.length : Int) := by have := HLN.out.2.2.2; omega
        have n1 : decide ((i : Int) < 0) = false := by simp
        have n2 : decide ((j : Int) < 0) = false := by simp
        obtain ⟨t, u, g1, o1, g2, o2, b1, b2, ft, fu, rfl, rfl, ⟨hg1, cs1⟩, ⟨hg2, cs2⟩, HCT⟩ := HPT.out i j hiN hjN
        obtain ⟨ka, g3, o3, hka, rfl, cka⟩ := HKA.out W i HI.out.2.2.2.2 hiN
        obtain ⟨kb, g4, o4, hkb, rfl, ckb⟩ := HKB.out W j HI.out.2.2.2.2 hjN
        have HGE : Hid (g ((i : Int), (j : Int)) = ((kb || !ka) && t.sub u)) := by
          show _ = _
          obtain ⟨nn, hnn⟩ := HNM.out.1 i hiN
          obtain ⟨mm, hmm⟩ := HNM.out.2 j hjN
          have q1 : ¬ ((i : Int) < 0) := by omega
          have q2 : ¬ ((j : Int) < 0) := by omega
          rw [HG.out]; simp only [Sp.stepS, if_neg q1, if_neg q2, Int.toNat_natCast, Sp.z3_get NA KA P.subFns i nn ka t.sub hnn hka ft, Sp.z3_get NB KB Q.toL j mm kb u hmm hkb fu]
        have HO : Hid (∀ W', Below W.heap.size W W' → Calls Tryz.prog 24 #[.pointer (some ⟨b1, 0, none⟩), .pointer (some ⟨b2, 0, none⟩)] W' fun e w' => e = .returned (.bool (t.sub u)) ∧ Below W'.heap.size W' w') := fun W' h => HCT W' (HBL.out W' h).1
        have HS7 : Hid (∀ W', Below W.heap.size W W' → W'.cell? ⟨w.heap.size, 0, none⟩ = some (.pointer (some ⟨ba, 0, none⟩)) ∧ W'.cell? ⟨w.heap.size + 1, 0, none⟩ = some (.pointer (some ⟨bb, 0, none⟩)) ∧ W'.cell? ⟨ba, 4, none⟩ = some (.slice (some ⟨g1, o1, none⟩) P.len acp) ∧ W'.cell? ⟨bb, 4, none⟩ = some (.slice (some ⟨g2, o2, none⟩) Q.len bcp) ∧ W'.cell? ⟨ba, 6, none⟩ = some (.slice (some ⟨g3, o3, none⟩) KA.length ack) ∧ W'.cell? ⟨bb, 6, none⟩ = some (.slice (some ⟨g4, o4, none⟩) KB.length bck) ∧ W'.cell? ⟨g1, o1 + i, none⟩ = some (.pointer (some ⟨b1, 0, none⟩)) ∧ W'.cell? ⟨g2, o2 + j, none⟩ = some (.pointer (some ⟨b2, 0, none⟩)) ∧ W'.cell? ⟨g3, o3 + i, none⟩ = some (.bool ka) ∧ W'.cell? ⟨g4, o4 + j, none⟩ = some (.bool kb)) := fun W' h => ⟨cell_below d0 h, cell_below d1 h, cell_below s4 h, cell_below r4 h, cell_below s6 h, cell_below r6 h, cell_below (by rw [HI.out.2.2.2.2.cell (p := ⟨g1, o1 + i, none⟩) hg1]; exact cs1) h, cell_below (by rw [HI.out.2.2.2.2.cell (p := ⟨g2, o2 + j, none⟩) hg2]; exact cs2) h, cell_below cka h, cell_below ckb h⟩
        clear ft fu cs1 cs2 hka hkb HCT cka ckb
        dsimp only
        cases kb with
        | true =>
          cases ka with
          | true =>
            generalize hsb : t.sub u = sb at HO HGE
            cases sb with
            | true =>
              have HGX : Hid (g ((i : Int), (j : Int)) = true) := by show _ = _; rw [HGE.out]; rfl
              gi_wp2
              refine region_round (S := fun W' => W'.cell? ⟨w.heap.size, 0, none⟩ = some (.pointer (some ⟨ba, 0, none⟩)) ∧ W'.cell? ⟨w.heap.size + 1, 0, none⟩ = some (.pointer (some ⟨bb, 0, none⟩)) ∧ W'.cell? ⟨ba, 4, none⟩ = some (.slice (some ⟨g1, o1, none⟩) P.len acp) ∧ W'.cell? ⟨bb, 4, none⟩ = some (.slice (some ⟨g2, o2, none⟩) Q.len bcp) ∧ W'.cell? ⟨ba, 6, none⟩ = some (.slice (some ⟨g3, o3, none⟩) KA.length ack) ∧ W'.cell? ⟨bb, 6, none⟩ = some (.slice (some ⟨g4, o4, none⟩) KB.length bck) ∧ W'.cell? ⟨g1, o1 + i, none⟩ = some (.pointer (some ⟨b1, 0, none⟩)) ∧ W'.cell? ⟨g2, o2 + j, none⟩ = some (.pointer (some ⟨b2, 0, none⟩)) ∧ W'.cell? ⟨g3, o3 + i, none⟩ = some (.bool true) ∧ W'.cell? ⟨g4, o4 + j, none⟩ = some (.bool true)) (by kernel_rfl) (by kernel_rfl) (HS7.out _ (Below.refl _ _).drew) (fun hHeld => ?_)
              refine tkH (i := 0) (v := ?_) rfl (by kernel_rfl) (by rfl) ?_ (by assumption) ?_
              rotate_left
              · intro w hSw; (try dsimp only at hSw); go_simp; try (with_reducible rfl)
              simp only [Act.put, lsA, lsB, lsC]
              refine tkH (i := 1) (v := ?_) rfl (by kernel_rfl) (by rfl) ?_ (by assumption) ?_
              rotate_left
              · intro w hSw; (try dsimp only at hSw); go_simp; try (with_reducible rfl)
              simp only [Act.put, lsA, lsB, lsC]
              refine tkH (i := 2) (v := ?_) rfl (by kernel_rfl) (by rfl) ?_ (by assumption) ?_
              rotate_left
              · intro w hSw; (try dsimp only at hSw); go_simp; try (with_reducible rfl)
              simp only [Act.put, lsA, lsB, lsC]
              refine tkH (i := 3) (v := ?_) rfl (by kernel_rfl) (by rfl) ?_ (by assumption) ?_
              rotate_left
              · intro w hSw; (try dsimp only at hSw); go_simp; try (with_reducible rfl)
              simp only [Act.put, lsA, lsB, lsC]
              refine tkH (i := 4) (v := ?_) rfl (by kernel_rfl) (by rfl) ?_ (by assumption) ?_
              rotate_left
              · intro w hSw; (try dsimp only at hSw); go_simp; try (with_reducible rfl)
              simp only [Act.put, lsA, lsB, lsC]
              refine tkH (i := 5) (v := ?_) rfl (by kernel_rfl) (by rfl) ?_ (by assumption) ?_
              rotate_left
              · intro w hSw; (try dsimp only at hSw); go_simp; try (with_reducible rfl)
              simp only [Act.put, lsA, lsB, lsC]
              refine tkH (i := 6) (v := ?_) rfl (by kernel_rfl) (by rfl) ?_ (by assumption) ?_
              rotate_left
              · intro w hSw; (try dsimp only at hSw); go_simp; try (with_reducible rfl)
              simp only [Act.put, lsA, lsB, lsC]
              refine tkH (i := 7) (v := ?_) rfl (by kernel_rfl) (by rfl) ?_ (by assumption) ?_
              rotate_left
              · intro w hSw; (try dsimp only at hSw); go_simp; try (with_reducible rfl)
              simp only [Act.put, lsA, lsB, lsC]
              refine tkN (i := 8) rfl (by kernel_rfl) (by rfl) (by assumption) ?_
              simp only [Act.put, lsA, lsB, lsC]
              refine tkN (i := 9) rfl (by kernel_rfl) (by rfl) (by assumption) ?_
              simp only [Act.put, lsA, lsB, lsC]
              refine tkN (i := 10) rfl (by kernel_rfl) (by rfl) (by assumption) ?_
              simp only [Act.put, lsA, lsB, lsC]
              refine tkN (i := 11) rfl (by kernel_rfl) (by rfl) (by assumption) ?_
              simp only [Act.put, lsA, lsB, lsC]
              refine tkN (i := 12) rfl (by kernel_rfl) (by rfl) (by assumption) ?_
              simp only [Act.put, lsA, lsB, lsC]
              refine tkN (i := 13) rfl (by kernel_rfl) (by rfl) (by assumption) ?_
              simp only [Act.put, lsA, lsB, lsC]
              refine tkN (i := 14) rfl (by kernel_rfl) (by rfl) (by assumption) ?_
              simp only [Act.put, lsA, lsB, lsC]
              refine tkN (i := 15) rfl (by kernel_rfl) (by rfl) (by assumption) ?_
              simp only [Act.put, lsA, lsB, lsC]
              refine tkH (i := 16) (v := ?_) rfl (by kernel_rfl) (by rfl) ?_ (by assumption) ?_
              rotate_left
              · intro w hSw; (try dsimp only at hSw); go_simp; try (with_reducible rfl)
              simp only [Act.put, lsA, lsB, lsC]
              refine tkH (i := 17) (v := ?_) rfl (by kernel_rfl) (by rfl) ?_ (by assumption) ?_
              rotate_left
              · intro w hSw; (try dsimp only at hSw); go_simp; try (with_reducible rfl)
              simp only [Act.put, lsA, lsB, lsC]
              refine tkH (i := 18) (v := ?_) rfl (by kernel_rfl) (by rfl) ?_ (by assumption) ?_
              rotate_left
              · intro w hSw; (try dsimp only at hSw); go_simp; try (with_reducible rfl)
              simp only [Act.put, lsA, lsB, lsC]
              refine tkH (i := 19) (v := ?_) rfl (by kernel_rfl) (by rfl) ?_ (by assumption) ?_
              rotate_left
              · intro w hSw; (try dsimp only at hSw); go_simp; try (with_reducible rfl)
              simp only [Act.put, lsA, lsB, lsC]
              refine tkH (i := 20) (v := ?_) rfl (by kernel_rfl) (by rfl) ?_ (by assumption) ?_
              rotate_left
              · intro w hSw; (try dsimp only at hSw); go_simp; try (with_reducible rfl)
              simp only [Act.put, lsA, lsB, lsC]
              refine tkH (i := 21) (v := ?_) rfl (by kernel_rfl) (by rfl) ?_ (by assumption) ?_
              rotate_left
              · intro w hSw; (try dsimp only at hSw); go_simp; try (with_reducible rfl)
              simp only [Act.put, lsA, lsB, lsC]
              refine tkH (i := 22) (v := ?_) rfl (by kernel_rfl) (by rfl) ?_ (by assumption) ?_
              rotate_left
              · intro w hSw; (try dsimp only at hSw); go_simp; try (with_reducible rfl)
              simp only [Act.put, lsA, lsB, lsC]
              refine tkH (i := 23) (v := ?_) rfl (by kernel_rfl) (by rfl) ?_ (by assumption) ?_
              rotate_left
              · intro w hSw; (try dsimp only at hSw); go_simp; try (with_reducible rfl)
              simp only [Act.put, lsA, lsB, lsC]
              refine tkH (i := 24) (v := ?_) rfl (by kernel_rfl) (by rfl) ?_ (by assumption) ?_
              rotate_left
              · intro w hSw; (try dsimp only at hSw); go_simp; try (with_reducible rfl)
              simp only [Act.put, lsA, lsB, lsC]
              refine tkH (i := 25) (v := ?_) rfl (by kernel_rfl) (by rfl) ?_ (by assumption) ?_
              rotate_left
              · intro w hSw; (try dsimp only at hSw); go_simp; try (with_reducible rfl)
              simp only [Act.put, lsA, lsB, lsC]
              refine tkH (i := 26) (v := ?_) rfl (by kernel_rfl) (by rfl) ?_ (by assumption) ?_
              rotate_left
              · intro w hSw; (try dsimp only at hSw); go_simp; try (with_reducible rfl)
              simp only [Act.put, lsA, lsB, lsC]
              refine tkH (i := 27) (v := ?_) rfl (by kernel_rfl) (by rfl) ?_ (by assumption) ?_
              rotate_left
              · intro w hSw; (try dsimp only at hSw); go_simp; try (with_reducible rfl)
              simp only [Act.put, lsA, lsB, lsC]
              refine tkH (i := 28) (v := ?_) rfl (by kernel_rfl) (by rfl) ?_ (by assumption) ?_
              rotate_left
              · intro w hSw; (try dsimp only at hSw); go_simp; try (with_reducible rfl)
              simp only [Act.put, lsA, lsB, lsC]
              refine tkH (i := 29) (v := ?_) rfl (by kernel_rfl) (by rfl) ?_ (by assumption) ?_
              rotate_left
              · intro w hSw; (try dsimp only at hSw); go_simp; try (with_reducible rfl)
              simp only [Act.put, lsA, lsB, lsC]
              refine tkH (i := 30) (v := ?_) rfl (by kernel_rfl) (by rfl) ?_ (by assumption) ?_
              rotate_left
              · intro w hSw; (try dsimp only at hSw); go_simp; try (with_reducible rfl)
              simp only [Act.put, lsA, lsB, lsC]
              refine tkH (i := 31) (v := ?_) rfl (by kernel_rfl) (by rfl) ?_ (by assumption) ?_
              rotate_left
              · intro w hSw; (try dsimp only at hSw); go_simp; try (with_reducible rfl)
              simp only [Act.put, lsA, lsB, lsC]
              refine wpAnyH_ready (rs := [32]) (by kernel_rfl) (by simp) ?_
              refine AllReadyH.cons (o := ⟨some 62, .call { callee := Go.Callee.value (.func 24), args := #[.tmp 54, .tmp 61], argTypes := #[60, 60] }, 4, "sub.go:52", #[⟨24, .data⟩, ⟨31, .data⟩, ⟨17, .chain⟩, ⟨17, .guard⟩], some (17, true)⟩) rfl (fun K hK => ?_) AllReadyH.nil
              go_simp
              (refine (HO.out _ (Below.refl _ _).drew).mono ?_; rintro e w5 ⟨rfl, hb5⟩; have HB5 : Hid (Below W.heap.size W w5) := below_to (Below.refl _ _).drew hb5; clear hb5)
              go_wp2_with fail
              refine hK.out _ _ ?_ (fun hHeld => ?_)
              · exact HS7.out _ HB5.out
              clear hK K
              refine tkH (i := 33) (v := ?_) rfl (by kernel_rfl) (by rfl) ?_ (by assumption) ?_
              rotate_left
              · intro w hSw; (try dsimp only at hSw); go_simp; try (with_reducible rfl)
              simp only [Act.put, lsA, lsB, lsC]
              refine tkH (i := 34) (v := ?_) rfl (by kernel_rfl) (by rfl) ?_ (by assumption) ?_
              rotate_left
              · intro w hSw; (try dsimp only at hSw); go_simp; try (with_reducible rfl)
              simp only [Act.put, lsA, lsB, lsC]
              refine wpAnyH_done (by kernel_rfl) ?_ _
              refine Tame.normal ?_
              obtain ⟨y0, y1, y2, y3⟩ := HBL.out _ HB5.out
              gi_wp2
              exact ⟨KeepsOthers.of_below HB5.out, HB5.out.mono HBV.out.size, ⟨all_snocB HI.out.1 (by show g ((i : Int), (j : Int)) = true; exact HGX.out), y1, y2, y3⟩, HBV.out.trans (HB5.out.mono HBV.out.size)⟩
            | false =>
              have HGX : Hid (g ((i : Int), (j : Int)) = false) := by show _ = _; rw [HGE.out]; rfl
              gi_wp2
              refine region_round (S := fun W' => W'.cell? ⟨w.heap.size, 0, none⟩ = some (.pointer (some ⟨ba, 0, none⟩)) ∧ W'.cell? ⟨w.heap.size + 1, 0, none⟩ = some (.pointer (some ⟨bb, 0, none⟩)) ∧ W'.cell? ⟨ba, 4, none⟩ = some (.slice (some ⟨g1, o1, none⟩) P.len acp) ∧ W'.cell? ⟨bb, 4, none⟩ = some (.slice (some ⟨g2, o2, none⟩) Q.len bcp) ∧ W'.cell? ⟨ba, 6, none⟩ = some (.slice (some ⟨g3, o3, none⟩) KA.length ack) ∧ W'.cell? ⟨bb, 6, none⟩ = some (.slice (some ⟨g4, o4, none⟩) KB.length bck) ∧ W'.cell? ⟨g1, o1 + i, none⟩ = some (.pointer (some ⟨b1, 0, none⟩)) ∧ W'.cell? ⟨g2, o2 + j, none⟩ = some (.pointer (some ⟨b2, 0, none⟩)) ∧ W'.cell? ⟨g3, o3 + i, none⟩ = some (.bool true) ∧ W'.cell? ⟨g4, o4 + j, none⟩ = some (.bool true)) (by kernel_rfl) (by kernel_rfl) (HS7.out _ (Below.refl _ _).drew) (fun hHeld => ?_)
              refine tkH (i := 0) (v := ?_) rfl (by kernel_rfl) (by rfl) ?_ (by assumption) ?_
              rotate_left
              · intro w hSw; (try dsimp only at hSw); go_simp; try (with_reducible rfl)
              simp only [Act.put, lsA, lsB, lsC]
              refine tkH (i := 1) (v := ?_) rfl (by kernel_rfl) (by rfl) ?_ (by assumption) ?_
              rotate_left
              · intro w hSw; (try dsimp only at hSw); go_simp; try (with_reducible rfl)
              simp only [Act.put, lsA, lsB, lsC]
              refine tkH (i := 2) (v := ?_) rfl (by kernel_rfl) (by rfl) ?_ (by assumption) ?_
              rotate_left
              · intro w hSw; (try dsimp only at hSw); go_simp; try (with_reducible rfl)
              simp only [Act.put, lsA, lsB, lsC]
              refine tkH (i := 3) (v := ?_) rfl (by kernel_rfl) (by rfl) ?_ (by assumption) ?_
              rotate_left
              · intro w hSw; (try dsimp only at hSw); go_simp; try (with_reducible rfl)
              simp only [Act.put, lsA, lsB, lsC]
              refine tkH (i := 4) (v := ?_) rfl (by kernel_rfl) (by rfl) ?_ (by assumption) ?_
              rotate_left
              · intro w hSw; (try dsimp only at hSw); go_simp; try (with_reducible rfl)
              simp only [Act.put, lsA, lsB, lsC]
              refine tkH (i := 5) (v := ?_) rfl (by kernel_rfl) (by rfl) ?_ (by assumption) ?_
              rotate_left
              · intro w hSw; (try dsimp only at hSw); go_simp; try (with_reducible rfl)
              simp only [Act.put, lsA, lsB, lsC]
              refine tkH (i := 6) (v := ?_) rfl (by kernel_rfl) (by rfl) ?_ (by assumption) ?_
              rotate_left
              · intro w hSw; (try dsimp only at hSw); go_simp; try (with_reducible rfl)
              simp only [Act.put, lsA, lsB, lsC]
              refine tkH (i := 7) (v := ?_) rfl (by kernel_rfl) (by rfl) ?_ (by assumption) ?_
              rotate_left
              · intro w hSw; (try dsimp only at hSw); go_simp; try (with_reducible rfl)
              simp only [Act.put, lsA, lsB, lsC]
              refine tkN (i := 8) rfl (by kernel_rfl) (by rfl) (by assumption) ?_
              simp only [Act.put, lsA, lsB, lsC]
              refine tkN (i := 9) rfl (by kernel_rfl) (by rfl) (by assumption) ?_
              simp only [Act.put, lsA, lsB, lsC]
              refine tkN (i := 10) rfl (by kernel_rfl) (by rfl) (by assumption) ?_
              simp only [Act.put, lsA, lsB, lsC]
              refine tkN (i := 11) rfl (by kernel_rfl) (by rfl) (by assumption) ?_
              simp only [Act.put, lsA, lsB, lsC]
              refine tkN (i := 12) rfl (by kernel_rfl) (by rfl) (by assumption) ?_
              simp only [Act.put, lsA, lsB, lsC]
              refine tkN (i := 13) rfl (by kernel_rfl) (by rfl) (by assumption) ?_
              simp only [Act.put, lsA, lsB, lsC]
              refine tkN (i := 14) rfl (by kernel_rfl) (by rfl) (by assumption) ?_
              simp only [Act.put, lsA, lsB, lsC]
              refine tkN (i := 15) rfl (by kernel_rfl) (by rfl) (by assumption) ?_
              simp only [Act.put, lsA, lsB, lsC]
              refine tkH (i := 16) (v := ?_) rfl (by kernel_rfl) (by rfl) ?_ (by assumption) ?_
              rotate_left
              · intro w hSw; (try dsimp only at hSw); go_simp; try (with_reducible rfl)
              simp only [Act.put, lsA, lsB, lsC]
              refine tkH (i := 17) (v := ?_) rfl (by kernel_rfl) (by rfl) ?_ (by assumption) ?_
              rotate_left
              · intro w hSw; (try dsimp only at hSw); go_simp; try (with_reducible rfl)
              simp only [Act.put, lsA, lsB, lsC]
              refine tkH (i := 18) (v := ?_) rfl (by kernel_rfl) (by rfl) ?_ (by assumption) ?_
              rotate_left
              · intro w hSw; (try dsimp only at hSw); go_simp; try (with_reducible rfl)
              simp only [Act.put, lsA, lsB, lsC]
              refine tkH (i := 19) (v := ?_) rfl (by kernel_rfl) (by rfl) ?_ (by assumption) ?_
              rotate_left
              · intro w hSw; (try dsimp only at hSw); go_simp; try (with_reducible rfl)
              simp only [Act.put, lsA, lsB, lsC]
              refine tkH (i := 20) (v := ?_) rfl (by kernel_rfl) (by rfl) ?_ (by assumption) ?_
              rotate_left
              · intro w hSw; (try dsimp only at hSw); go_simp; try (with_reducible rfl)
              simp only [Act.put, lsA, lsB, lsC]
              refine tkH (i := 21) (v := ?_) rfl (by kernel_rfl) (by rfl) ?_ (by assumption) ?_
              rotate_left
              · intro w hSw; (try dsimp only at hSw); go_simp; try (with_reducible rfl)
              simp only [Act.put, lsA, lsB, lsC]
              refine tkH (i := 22) (v := ?_) rfl (by kernel_rfl) (by rfl) ?_ (by assumption) ?_
              rotate_left
              · intro w hSw; (try dsimp only at hSw); go_simp; try (with_reducible rfl)
              simp only [Act.put, lsA, lsB, lsC]
              refine tkH (i := 23) (v := ?_) rfl (by kernel_rfl) (by rfl) ?_ (by assumption) ?_
              rotate_left
              · intro w hSw; (try dsimp only at hSw); go_simp; try (with_reducible rfl)
              simp only [Act.put, lsA, lsB, lsC]
              refine tkH (i := 24) (v := ?_) rfl (by kernel_rfl) (by rfl) ?_ (by assumption) ?_
              rotate_left
              · intro w hSw; (try dsimp only at hSw); go_simp; try (with_reducible rfl)
              simp only [Act.put, lsA, lsB, lsC]
              refine tkH (i := 25) (v := ?_) rfl (by kernel_rfl) (by rfl) ?_ (by assumption) ?_
              rotate_left
              · intro w hSw; (try dsimp only at hSw); go_simp; try (with_reducible rfl)
              simp only [Act.put, lsA, lsB, lsC]
              refine tkH (i := 26) (v := ?_) rfl (by kernel_rfl) (by rfl) ?_ (by assumption) ?_
              rotate_left
              · intro w hSw; (try dsimp only at hSw); go_simp; try (with_reducible rfl)
              simp only [Act.put, lsA, lsB, lsC]
              refine tkH (i := 27) (v := ?_) rfl (by kernel_rfl) (by rfl) ?_ (by assumption) ?_
              rotate_left
              · intro w hSw; (try dsimp only at hSw); go_simp; try (with_reducible rfl)
              simp only [Act.put, lsA, lsB, lsC]
              refine tkH (i := 28) (v := ?_) rfl (by kernel_rfl) (by rfl) ?_ (by assumption) ?_
              rotate_left
              · intro w hSw; (try dsimp only at hSw); go_simp; try (with_reducible rfl)
              simp only [Act.put, lsA, lsB, lsC]
              refine tkH (i := 29) (v := ?_) rfl (by kernel_rfl) (by rfl) ?_ (by assumption) ?_
              rotate_left
              · intro w hSw; (try dsimp only at hSw); go_simp; try (with_reducible rfl)
              simp only [Act.put, lsA, lsB, lsC]
              refine tkH (i := 30) (v := ?_) rfl (by kernel_rfl) (by rfl) ?_ (by assumption) ?_
              rotate_left
              · intro w hSw; (try dsimp only at hSw); go_simp; try (with_reducible rfl)
              simp only [Act.put, lsA, lsB, lsC]
              refine tkH (i := 31) (v := ?_) rfl (by kernel_rfl) (by rfl) ?_ (by assumption) ?_
              rotate_left
              · intro w hSw; (try dsimp only at hSw); go_simp; try (with_reducible rfl)
              simp only [Act.put, lsA, lsB, lsC]
              refine wpAnyH_ready (rs := [32]) (by kernel_rfl) (by simp) ?_
              refine AllReadyH.cons (o := ⟨some 62, .call { callee := Go.Callee.value (.func 24), args := #[.tmp 54, .tmp 61], argTypes := #[60, 60] }, 4, "sub.go:52", #[⟨24, .data⟩, ⟨31, .data⟩, ⟨17, .chain⟩, ⟨17, .guard⟩], some (17, true)⟩) rfl (fun K hK => ?_) AllReadyH.nil
              go_simp
              (refine (HO.out _ (Below.refl _ _).drew).mono ?_; rintro e w5 ⟨rfl, hb5⟩; have HB5 : Hid (Below W.heap.size W w5) := below_to (Below.refl _ _).drew hb5; clear hb5)
              go_wp2_with fail
              refine hK.out _ _ ?_ (fun hHeld => ?_)
              · exact HS7.out _ HB5.out
              clear hK K
              refine tkH (i := 33) (v := ?_) rfl (by kernel_rfl) (by rfl) ?_ (by assumption) ?_
              rotate_left
              · intro w hSw; (try dsimp only at hSw); go_simp; try (with_reducible rfl)
              simp only [Act.put, lsA, lsB, lsC]
              refine tkH (i := 34) (v := ?_) rfl (by kernel_rfl) (by rfl) ?_ (by assumption) ?_
              rotate_left
              · intro w hSw; (try dsimp only at hSw); go_simp; try (with_reducible rfl)
              simp only [Act.put, lsA, lsB, lsC]
              refine wpAnyH_done (by kernel_rfl) ?_ _
              refine Tame.normal ?_
              obtain ⟨y0, y1, y2, y3⟩ := HBL.out _ HB5.out
              have y4 := y3.cell
              have y5 := y3.frozen
              gi_wp2
              exact ⟨(KeepsOthers.of_below HB5.out).trans (KeepsOthers.setCell _ _ _), ⟨rfl, pre, _, rfl, HI.out.1, by show g ((i : Int), (j : Int)) = false; exact HGX.out, y3.set _⟩, y0.setCell (p := ⟨w.heap.size + 1 + 1, 0, none⟩) (by show _ ≤ w.heap.size + 1 + 1; omega) _⟩
          | false =>
            generalize hsb : t.sub u = sb at HO HGE
            cases sb with
            | true =>
              have HGX : Hid (g ((i : Int), (j : Int)) = true) := by show _ = _; rw [HGE.out]; rfl
              gi_wp2
              refine region_round (S := fun W' => W'.cell? ⟨w.heap.size, 0, none⟩ = some (.pointer (some ⟨ba, 0, none⟩)) ∧ W'.cell? ⟨w.heap.size + 1, 0, none⟩ = some (.pointer (some ⟨bb, 0, none⟩)) ∧ W'.cell? ⟨ba, 4, none⟩ = some (.slice (some ⟨g1, o1, none⟩) P.len acp) ∧ W'.cell? ⟨bb, 4, none⟩ = some (.slice (some ⟨g2, o2, none⟩) Q.len bcp) ∧ W'.cell? ⟨ba, 6, none⟩ = some (.slice (some ⟨g3, o3, none⟩) KA.length ack) ∧ W'.cell? ⟨bb, 6, none⟩ = some (.slice (some ⟨g4, o4, none⟩) KB.length bck) ∧ W'.cell? ⟨g1, o1 + i, none⟩ = some (.pointer (some ⟨b1, 0, none⟩)) ∧ W'.cell? ⟨g2, o2 + j, none⟩ = some (.pointer (some ⟨b2, 0, none⟩)) ∧ W'.cell? ⟨g3, o3 + i, none⟩ = some (.bool false) ∧ W'.cell? ⟨g4, o4 + j, none⟩ = some (.bool true)) (by kernel_rfl) (by kernel_rfl) (HS7.out _ (Below.refl _ _).drew) (fun hHeld => ?_)
              refine tkH (i := 0) (v := ?_) rfl (by kernel_rfl) (by rfl) ?_ (by assumption) ?_
              rotate_left
              · intro w hSw; (try dsimp only at hSw); go_simp; try (with_reducible rfl)
              simp only [Act.put, lsA, lsB, lsC]
              refine tkH (i := 1) (v := ?_) rfl (by kernel_rfl) (by rfl) ?_ (by assumption) ?_
              rotate_left
              · intro w hSw; (try dsimp only at hSw); go_simp; try (with_reducible rfl)
              simp only [Act.put, lsA, lsB, lsC]
              refine tkH (i := 2) (v := ?_) rfl (by kernel_rfl) (by rfl) ?_ (by assumption) ?_
              rotate_left
              · intro w hSw; (try dsimp only at hSw); go_simp; try (with_reducible rfl)
              simp only [Act.put, lsA, lsB, lsC]
              refine tkH (i := 3) (v := ?_) rfl (by kernel_rfl) (by rfl) ?_ (by assumption) ?_
              rotate_left
              · intro w hSw; (try dsimp only at hSw); go_simp; try (with_reducible rfl)
              simp only [Act.put, lsA, lsB, lsC]
              refine tkH (i := 4) (v := ?_) rfl (by kernel_rfl) (by rfl) ?_ (by assumption) ?_
              rotate_left
              · intro w hSw; (try dsimp only at hSw); go_simp; try (with_reducible rfl)
              simp only [Act.put, lsA, lsB, lsC]
              refine tkH (i := 5) (v := ?_) rfl (by kernel_rfl) (by rfl) ?_ (by assumption) ?_
              rotate_left
              · intro w hSw; (try dsimp only at hSw); go_simp; try (with_reducible rfl)
              simp only [Act.put, lsA, lsB, lsC]
              refine tkH (i := 6) (v := ?_) rfl (by kernel_rfl) (by rfl) ?_ (by assumption) ?_
              rotate_left
              · intro w hSw; (try dsimp only at hSw); go_simp; try (with_reducible rfl)
              simp only [Act.put, lsA, lsB, lsC]
              refine tkH (i := 7) (v := ?_) rfl (by kernel_rfl) (by rfl) ?_ (by assumption) ?_
              rotate_left
              · intro w hSw; (try dsimp only at hSw); go_simp; try (with_reducible rfl)
              simp only [Act.put, lsA, lsB, lsC]
              refine tkN (i := 8) rfl (by kernel_rfl) (by rfl) (by assumption) ?_
              simp only [Act.put, lsA, lsB, lsC]
              refine tkN (i := 9) rfl (by kernel_rfl) (by rfl) (by assumption) ?_
              simp only [Act.put, lsA, lsB, lsC]
              refine tkN (i := 10) rfl (by kernel_rfl) (by rfl) (by assumption) ?_
              simp only [Act.put, lsA, lsB, lsC]
              refine tkN (i := 11) rfl (by kernel_rfl) (by rfl) (by assumption) ?_
              simp only [Act.put, lsA, lsB, lsC]
              refine tkN (i := 12) rfl (by kernel_rfl) (by rfl) (by assumption) ?_
              simp only [Act.put, lsA, lsB, lsC]
              refine tkN (i := 13) rfl (by kernel_rfl) (by rfl) (by assumption) ?_
              simp only [Act.put, lsA, lsB, lsC]
              refine tkN (i := 14) rfl (by kernel_rfl) (by rfl) (by assumption) ?_
              simp only [Act.put, lsA, lsB, lsC]
              refine tkN (i := 15) rfl (by kernel_rfl) (by rfl) (by assumption) ?_
              simp only [Act.put, lsA, lsB, lsC]
              refine tkH (i := 16) (v := ?_) rfl (by kernel_rfl) (by rfl) ?_ (by assumption) ?_
              rotate_left
              · intro w hSw; (try dsimp only at hSw); go_simp; try (with_reducible rfl)
              simp only [Act.put, lsA, lsB, lsC]
              refine tkH (i := 17) (v := ?_) rfl (by kernel_rfl) (by rfl) ?_ (by assumption) ?_
              rotate_left
              · intro w hSw; (try dsimp only at hSw); go_simp; try (with_reducible rfl)
              simp only [Act.put, lsA, lsB, lsC]
              refine tkH (i := 18) (v := ?_) rfl (by kernel_rfl) (by rfl) ?_ (by assumption) ?_
              rotate_left
              · intro w hSw; (try dsimp only at hSw); go_simp; try (with_reducible rfl)
              simp only [Act.put, lsA, lsB, lsC]
              refine tkH (i := 19) (v := ?_) rfl (by kernel_rfl) (by rfl) ?_ (by assumption) ?_
              rotate_left
              · intro w hSw; (try dsimp only at hSw); go_simp; try (with_reducible rfl)
              simp only [Act.put, lsA, lsB, lsC]
              refine tkH (i := 20) (v := ?_) rfl (by kernel_rfl) (by rfl) ?_ (by assumption) ?_
              rotate_left
              · intro w hSw; (try dsimp only at hSw); go_simp; try (with_reducible rfl)
              simp only [Act.put, lsA, lsB, lsC]
              refine tkH (i := 21) (v := ?_) rfl (by kernel_rfl) (by rfl) ?_ (by assumption) ?_
              rotate_left
              · intro w hSw; (try dsimp only at hSw); go_simp; try (with_reducible rfl)
              simp only [Act.put, lsA, lsB, lsC]
              refine tkH (i := 22) (v := ?_) rfl (by kernel_rfl) (by rfl) ?_ (by assumption) ?_
              rotate_left
              · intro w hSw; (try dsimp only at hSw); go_simp; try (with_reducible rfl)
              simp only [Act.put, lsA, lsB, lsC]
              refine tkH (i := 23) (v := ?_) rfl (by kernel_rfl) (by rfl) ?_ (by assumption) ?_
              rotate_left
              · intro w hSw; (try dsimp only at hSw); go_simp; try (with_reducible rfl)
              simp only [Act.put, lsA, lsB, lsC]
              refine tkH (i := 24) (v := ?_) rfl (by kernel_rfl) (by rfl) ?_ (by assumption) ?_
              rotate_left
              · intro w hSw; (try dsimp only at hSw); go_simp; try (with_reducible rfl)
              simp only [Act.put, lsA, lsB, lsC]
              refine tkH (i := 25) (v := ?_) rfl (by kernel_rfl) (by rfl) ?_ (by assumption) ?_
              rotate_left
              · intro w hSw; (try dsimp only at hSw); go_simp; try (with_reducible rfl)
              simp only [Act.put, lsA, lsB, lsC]
              refine tkH (i := 26) (v := ?_) rfl (by kernel_rfl) (by rfl) ?_ (by assumption) ?_
              rotate_left
              · intro w hSw; (try dsimp only at hSw); go_simp; try (with_reducible rfl)
              simp only [Act.put, lsA, lsB, lsC]
              refine tkH (i := 27) (v := ?_) rfl (by kernel_rfl) (by rfl) ?_ (by assumption) ?_
              rotate_left
              · intro w hSw; (try dsimp only at hSw); go_simp; try (with_reducible rfl)
              simp only [Act.put, lsA, lsB, lsC]
              refine tkH (i := 28) (v := ?_) rfl (by kernel_rfl) (by rfl) ?_ (by assumption) ?_
              rotate_left
              · intro w hSw; (try dsimp only at hSw); go_simp; try (with_reducible rfl)
              simp only [Act.put, lsA, lsB, lsC]
              refine tkH (i := 29) (v := ?_) rfl (by kernel_rfl) (by rfl) ?_ (by assumption) ?_
              rotate_left
              · intro w hSw; (try dsimp only at hSw); go_simp; try (with_reducible rfl)
              simp only [Act.put, lsA, lsB, lsC]
              refine tkH (i := 30) (v := ?_) rfl (by kernel_rfl) (by rfl) ?_ (by assumption) ?_
              rotate_left
              · intro w hSw; (try dsimp only at hSw); go_simp; try (with_reducible rfl)
              simp only [Act.put, lsA, lsB, lsC]
              refine tkH (i := 31) (v := ?_) rfl (by kernel_rfl) (by rfl) ?_ (by assumption) ?_
              rotate_left
              · intro w hSw; (try dsimp only at hSw); go_simp; try (with_reducible rfl)
              simp only [Act.put, lsA, lsB, lsC]
              refine wpAnyH_ready (rs := [32]) (by kernel_rfl) (by simp) ?_
              refine AllReadyH.cons (o := ⟨some 62, .call { callee := Go.Callee.value (.func 24), args := #[.tmp 54, .tmp 61], argTypes := #[60, 60] }, 4, "sub.go:52", #[⟨24, .data⟩, ⟨31, .data⟩, ⟨17, .chain⟩, ⟨17, .guard⟩], some (17, true)⟩) rfl (fun K hK => ?_) AllReadyH.nil
              go_simp
              (refine (HO.out _ (Below.refl _ _).drew).mono ?_; rintro e w5 ⟨rfl, hb5⟩; have HB5 : Hid (Below W.heap.size W w5) := below_to (Below.refl _ _).drew hb5; clear hb5)
              go_wp2_with fail
              refine hK.out _ _ ?_ (fun hHeld => ?_)
              · exact HS7.out _ HB5.out
              clear hK K
              refine tkH (i := 33) (v := ?_) rfl (by kernel_rfl) (by rfl) ?_ (by assumption) ?_
              rotate_left
              · intro w hSw; (try dsimp only at hSw); go_simp; try (with_reducible rfl)
              simp only [Act.put, lsA, lsB, lsC]
              refine tkH (i := 34) (v := ?_) rfl (by kernel_rfl) (by rfl) ?_ (by assumption) ?_
              rotate_left
              · intro w hSw; (try dsimp only at hSw); go_simp; try (with_reducible rfl)
              simp only [Act.put, lsA, lsB, lsC]
              refine wpAnyH_done (by kernel_rfl) ?_ _
              refine Tame.normal ?_
              obtain ⟨y0, y1, y2, y3⟩ := HBL.out _ HB5.out
              gi_wp2
              exact ⟨KeepsOthers.of_below HB5.out, HB5.out.mono HBV.out.size, ⟨all_snocB HI.out.1 (by show g ((i : Int), (j : Int)) = true; exact HGX.out), y1, y2, y3⟩, HBV.out.trans (HB5.out.mono HBV.out.size)⟩
            | false =>
              have HGX : Hid (g ((i : Int), (j : Int)) = false) := by show _ = _; rw [HGE.out]; rfl
              gi_wp2
              refine region_round (S := fun W' => W'.cell? ⟨w.heap.size, 0, none⟩ = some (.pointer (some ⟨ba, 0, none⟩)) ∧ W'.cell? ⟨w.heap.size + 1, 0, none⟩ = some (.pointer (some ⟨bb, 0, none⟩)) ∧ W'.cell? ⟨ba, 4, none⟩ = some (.slice (some ⟨g1, o1, none⟩) P.len acp) ∧ W'.cell? ⟨bb, 4, none⟩ = some (.slice (some ⟨g2, o2, none⟩) Q.len bcp) ∧ W'.cell? ⟨ba, 6, none⟩ = some (.slice (some ⟨g3, o3, none⟩) KA.length ack) ∧ W'.cell? ⟨bb, 6, none⟩ = some (.slice (some ⟨g4, o4, none⟩) KB.length bck) ∧ W'.cell? ⟨g1, o1 + i, none⟩ = some (.pointer (some ⟨b1, 0, none⟩)) ∧ W'.cell? ⟨g2, o2 + j, none⟩ = some (.pointer (some ⟨b2, 0, none⟩)) ∧ W'.cell? ⟨g3, o3 + i, none⟩ = some (.bool false) ∧ W'.cell? ⟨g4, o4 + j, none⟩ = some (.bool true)) (by kernel_rfl) (by kernel_rfl) (HS7.out _ (Below.refl _ _).drew) (fun hHeld => ?_)
              refine tkH (i := 0) (v := ?_) rfl (by kernel_rfl) (by rfl) ?_ (by assumption) ?_
              rotate_left
              · intro w hSw; (try dsimp only at hSw); go_simp; try (with_reducible rfl)
              simp only [Act.put, lsA, lsB, lsC]
              refine tkH (i := 1) (v := ?_) rfl (by kernel_rfl) (by rfl) ?_ (by assumption) ?_
              rotate_left
              · intro w hSw; (try dsimp only at hSw); go_simp; try (with_reducible rfl)
              simp only [Act.put, lsA, lsB, lsC]
              refine tkH (i := 2) (v := ?_) rfl (by kernel_rfl) (by rfl) ?_ (by assumption) ?_
              rotate_left
              · intro w hSw; (try dsimp only at hSw); go_simp; try (with_reducible rfl)
              simp only [Act.put, lsA, lsB, lsC]
              refine tkH (i := 3) (v := ?_) rfl (by kernel_rfl) (by rfl) ?_ (by assumption) ?_
              rotate_left
              · intro w hSw; (try dsimp only at hSw); go_simp; try (with_reducible rfl)
              simp only [Act.put, lsA, lsB, lsC]
              refine tkH (i := 4) (v := ?_) rfl (by kernel_rfl) (by rfl) ?_ (by assumption) ?_
              rotate_left
              · intro w hSw; (try dsimp only at hSw); go_simp; try (with_reducible rfl)
              simp only [Act.put, lsA, lsB, lsC]
              refine tkH (i := 5) (v := ?_) rfl (by kernel_rfl) (by rfl) ?_ (by assumption) ?_
              rotate_left
              · intro w hSw; (try dsimp only at hSw); go_simp; try (with_reducible rfl)
              simp only [Act.put, lsA, lsB, lsC]
              refine tkH (i := 6) (v := ?_) rfl (by kernel_rfl) (by rfl) ?_ (by assumption) ?_
              rotate_left
              · intro w hSw; (try dsimp only at hSw); go_simp; try (with_reducible rfl)
              simp only [Act.put, lsA, lsB, lsC]
              refine tkH (i := 7) (v := ?_) rfl (by kernel_rfl) (by rfl) ?_ (by assumption) ?_
              rotate_left
              · intro w hSw; (try dsimp only at hSw); go_simp; try (with_reducible rfl)
              simp only [Act.put, lsA, lsB, lsC]
              refine tkN (i := 8) rfl (by kernel_rfl) (by rfl) (by assumption) ?_
              simp only [Act.put, lsA, lsB, lsC]
              refine tkN (i := 9) rfl (by kernel_rfl) (by rfl) (by assumption) ?_
              simp only [Act.put, lsA, lsB, lsC]
              refine tkN (i := 10) rfl (by kernel_rfl) (by rfl) (by assumption) ?_
              simp only [Act.put, lsA, lsB, lsC]
              refine tkN (i := 11) rfl (by kernel_rfl) (by rfl) (by assumption) ?_
              simp only [Act.put, lsA, lsB, lsC]
              refine tkN (i := 12) rfl (by kernel_rfl) (by rfl) (by assumption) ?_
              simp only [Act.put, lsA, lsB, lsC]
              refine tkN (i := 13) rfl (by kernel_rfl) (by rfl) (by assumption) ?_
              simp only [Act.put, lsA, lsB, lsC]
              refine tkN (i := 14) rfl (by kernel_rfl) (by rfl) (by assumption) ?_
              simp only [Act.put, lsA, lsB, lsC]
              refine tkN (i := 15) rfl (by kernel_rfl) (by rfl) (by assumption) ?_
              simp only [Act.put, lsA, lsB, lsC]
              refine tkH (i := 16) (v := ?_) rfl (by kernel_rfl) (by rfl) ?_ (by assumption) ?_
              rotate_left
              · intro w hSw; (try dsimp only at hSw); go_simp; try (with_reducible rfl)
              simp only [Act.put, lsA, lsB, lsC]
              refine tkH (i := 17) (v := ?_) rfl (by kernel_rfl) (by rfl) ?_ (by assumption) ?_
              rotate_left
              · intro w hSw; (try dsimp only at hSw); go_simp; try (with_reducible rfl)
              simp only [Act.put, lsA, lsB, lsC]
              refine tkH (i := 18) (v := ?_) rfl (by kernel_rfl) (by rfl) ?_ (by assumption) ?_
              rotate_left
              · intro w hSw; (try dsimp only at hSw); go_simp; try (with_reducible rfl)
              simp only [Act.put, lsA, lsB, lsC]
              refine tkH (i := 19) (v := ?_) rfl (by kernel_rfl) (by rfl) ?_ (by assumption) ?_
              rotate_left
              · intro w hSw; (try dsimp only at hSw); go_simp; try (with_reducible rfl)
              simp only [Act.put, lsA, lsB, lsC]
              refine tkH (i := 20) (v := ?_) rfl (by kernel_rfl) (by rfl) ?_ (by assumption) ?_
              rotate_left
              · intro w hSw; (try dsimp only at hSw); go_simp; try (with_reducible rfl)
              simp only [Act.put, lsA, lsB, lsC]
              refine tkH (i := 21) (v := ?_) rfl (by kernel_rfl) (by rfl) ?_ (by assumption) ?_
              rotate_left
              · intro w hSw; (try dsimp only at hSw); go_simp; try (with_reducible rfl)
              simp only [Act.put, lsA, lsB, lsC]
              refine tkH (i := 22) (v := ?_) rfl (by kernel_rfl) (by rfl) ?_ (by assumption) ?_
              rotate_left
              · intro w hSw; (try dsimp only at hSw); go_simp; try (with_reducible rfl)
              simp only [Act.put, lsA, lsB, lsC]
              refine tkH (i := 23) (v := ?_) rfl (by kernel_rfl) (by rfl) ?_ (by assumption) ?_
              rotate_left
              · intro w hSw; (try dsimp only at hSw); go_simp; try (with_reducible rfl)
              simp only [Act.put, lsA, lsB, lsC]
              refine tkH (i := 24) (v := ?_) rfl (by kernel_rfl) (by rfl) ?_ (by assumption) ?_
              rotate_left
              · intro w hSw; (try dsimp only at hSw); go_simp; try (with_reducible rfl)
              simp only [Act.put, lsA, lsB, lsC]
              refine tkH (i := 25) (v := ?_) rfl (by kernel_rfl) (by rfl) ?_ (by assumption) ?_
              rotate_left
              · intro w hSw; (try dsimp only at hSw); go_simp; try (with_reducible rfl)
              simp only [Act.put, lsA, lsB, lsC]
              refine tkH (i := 26) (v := ?_) rfl (by kernel_rfl) (by rfl) ?_ (by assumption) ?_
              rotate_left
              · intro w hSw; (try dsimp only at hSw); go_simp; try (with_reducible rfl)
              simp only [Act.put, lsA, lsB, lsC]
              refine tkH (i := 27) (v := ?_) rfl (by kernel_rfl) (by rfl) ?_ (by assumption) ?_
              rotate_left
              · intro w hSw; (try dsimp only at hSw); go_simp; try (with_reducible rfl)
              simp only [Act.put, lsA, lsB, lsC]
              refine tkH (i := 28) (v := ?_) rfl (by kernel_rfl) (by rfl) ?_ (by assumption) ?_
              rotate_left
              · intro w hSw; (try dsimp only at hSw); go_simp; try (with_reducible rfl)
              simp only [Act.put, lsA, lsB, lsC]
              refine tkH (i := 29) (v := ?_) rfl (by kernel_rfl) (by rfl) ?_ (by assumption) ?_
              rotate_left
              · intro w hSw; (try dsimp only at hSw); go_simp; try (with_reducible rfl)
              simp only [Act.put, lsA, lsB, lsC]
              refine tkH (i := 30) (v := ?_) rfl (by kernel_rfl) (by rfl) ?_ (by assumption) ?_
              rotate_left
              · intro w hSw; (try dsimp only at hSw); go_simp; try (with_reducible rfl)
              simp only [Act.put, lsA, lsB, lsC]
              refine tkH (i := 31) (v := ?_) rfl (by kernel_rfl) (by rfl) ?_ (by assumption) ?_
              rotate_left
              · intro w hSw; (try dsimp only at hSw); go_simp; try (with_reducible rfl)
              simp only [Act.put, lsA, lsB, lsC]
              refine wpAnyH_ready (rs := [32]) (by kernel_rfl) (by simp) ?_
              refine AllReadyH.cons (o := ⟨some 62, .call { callee := Go.Callee.value (.func 24), args := #[.tmp 54, .tmp 61], argTypes := #[60, 60] }, 4, "sub.go:52", #[⟨24, .data⟩, ⟨31, .data⟩, ⟨17, .chain⟩, ⟨17, .guard⟩], some (17, true)⟩) rfl (fun K hK => ?_) AllReadyH.nil
              go_simp
              (refine (HO.out _ (Below.refl _ _).drew).mono ?_; rintro e w5 ⟨rfl, hb5⟩; have HB5 : Hid (Below W.heap.size W w5) := below_to (Below.refl _ _).drew hb5; clear hb5)
              go_wp2_with fail
              refine hK.out _ _ ?_ (fun hHeld => ?_)
              · exact HS7.out _ HB5.out
              clear hK K
              refine tkH (i := 33) (v := ?_) rfl (by kernel_rfl) (by rfl) ?_ (by assumption) ?_
              rotate_left
              · intro w hSw; (try dsimp only at hSw); go_simp; try (with_reducible rfl)
              simp only [Act.put, lsA, lsB, lsC]
              refine tkH (i := 34) (v := ?_) rfl (by kernel_rfl) (by rfl) ?_ (by assumption) ?_
              rotate_left
              · intro w hSw; (try dsimp only at hSw); go_simp; try (with_reducible rfl)
              simp only [Act.put, lsA, lsB, lsC]
              refine wpAnyH_done (by kernel_rfl) ?_ _
              refine Tame.normal ?_
              obtain ⟨y0, y1, y2, y3⟩ := HBL.out _ HB5.out
              have y4 := y3.cell
              have y5 := y3.frozen
              gi_wp2
              exact ⟨(KeepsOthers.of_below HB5.out).trans (KeepsOthers.setCell _ _ _), ⟨rfl, pre, _, rfl, HI.out.1, by show g ((i : Int), (j : Int)) = false; exact HGX.out, y3.set _⟩, y0.setCell (p := ⟨w.heap.size + 1 + 1, 0, none⟩) (by show _ ≤ w.heap.size + 1 + 1; omega) _⟩
        | false =>
          cases ka with
          | true =>
            have HGX : Hid (g ((i : Int), (j : Int)) = false) := by show _ = _; rw [HGE.out]; rfl
            gi_wp2
            refine region_round (S := fun W' => W'.cell? ⟨w.heap.size, 0, none⟩ = some (.pointer (some ⟨ba, 0, none⟩)) ∧ W'.cell? ⟨w.heap.size + 1, 0, none⟩ = some (.pointer (some ⟨bb, 0, none⟩)) ∧ W'.cell? ⟨ba, 4, none⟩ = some (.slice (some ⟨g1, o1, none⟩) P.len acp) ∧ W'.cell? ⟨bb, 4, none⟩ = some (.slice (some ⟨g2, o2, none⟩) Q.len bcp) ∧ W'.cell? ⟨ba, 6, none⟩ = some (.slice (some ⟨g3, o3, none⟩) KA.length ack) ∧ W'.cell? ⟨bb, 6, none⟩ = some (.slice (some ⟨g4, o4, none⟩) KB.length bck) ∧ W'.cell? ⟨g1, o1 + i, none⟩ = some (.pointer (some ⟨b1, 0, none⟩)) ∧ W'.cell? ⟨g2, o2 + j, none⟩ = some (.pointer (some ⟨b2, 0, none⟩)) ∧ W'.cell? ⟨g3, o3 + i, none⟩ = some (.bool true) ∧ W'.cell? ⟨g4, o4 + j, none⟩ = some (.bool false)) (by kernel_rfl) (by kernel_rfl) (HS7.out _ (Below.refl _ _).drew) (fun hHeld => ?_)
            refine tkH (i := 0) (v := ?_) rfl (by kernel_rfl) (by rfl) ?_ (by assumption) ?_
            rotate_left
            · intro w hSw; (try dsimp only at hSw); go_simp; try (with_reducible rfl)
            simp only [Act.put, lsA, lsB, lsC]
            refine tkH (i := 1) (v := ?_) rfl (by kernel_rfl) (by rfl) ?_ (by assumption) ?_
            rotate_left
            · intro w hSw; (try dsimp only at hSw); go_simp; try (with_reducible rfl)
            simp only [Act.put, lsA, lsB, lsC]
            refine tkH (i := 2) (v := ?_) rfl (by kernel_rfl) (by rfl) ?_ (by assumption) ?_
            rotate_left
            · intro w hSw; (try dsimp only at hSw); go_simp; try (with_reducible rfl)
            simp only [Act.put, lsA, lsB, lsC]
            refine tkH (i := 3) (v := ?_) rfl (by kernel_rfl) (by rfl) ?_ (by assumption) ?_
            rotate_left
            · intro w hSw; (try dsimp only at hSw); go_simp; try (with_reducible rfl)
            simp only [Act.put, lsA, lsB, lsC]
            refine tkH (i := 4) (v := ?_) rfl (by kernel_rfl) (by rfl) ?_ (by assumption) ?_
            rotate_left
            · intro w hSw; (try dsimp only at hSw); go_simp; try (with_reducible rfl)
            simp only [Act.put, lsA, lsB, lsC]
            refine tkH (i := 5) (v := ?_) rfl (by kernel_rfl) (by rfl) ?_ (by assumption) ?_
            rotate_left
            · intro w hSw; (try dsimp only at hSw); go_simp; try (with_reducible rfl)
            simp only [Act.put, lsA, lsB, lsC]
            refine tkH (i := 6) (v := ?_) rfl (by kernel_rfl) (by rfl) ?_ (by assumption) ?_
            rotate_left
            · intro w hSw; (try dsimp only at hSw); go_simp; try (with_reducible rfl)
            simp only [Act.put, lsA, lsB, lsC]
            refine tkH (i := 7) (v := ?_) rfl (by kernel_rfl) (by rfl) ?_ (by assumption) ?_
            rotate_left
            · intro w hSw; (try dsimp only at hSw); go_simp; try (with_reducible rfl)
            simp only [Act.put, lsA, lsB, lsC]
            refine tkH (i := 8) (v := ?_) rfl (by kernel_rfl) (by rfl) ?_ (by assumption) ?_
            rotate_left
            · intro w hSw; (try dsimp only at hSw); go_simp; try (with_reducible rfl)
            simp only [Act.put, lsA, lsB, lsC]
            refine tkH (i := 9) (v := ?_) rfl (by kernel_rfl) (by rfl) ?_ (by assumption) ?_
            rotate_left
            · intro w hSw; (try dsimp only at hSw); go_simp; try (with_reducible rfl)
            simp only [Act.put, lsA, lsB, lsC]
            refine tkH (i := 10) (v := ?_) rfl (by kernel_rfl) (by rfl) ?_ (by assumption) ?_
            rotate_left
            · intro w hSw; (try dsimp only at hSw); go_simp; try (with_reducible rfl)
            simp only [Act.put, lsA, lsB, lsC]
            refine tkH (i := 11) (v := ?_) rfl (by kernel_rfl) (by rfl) ?_ (by assumption) ?_
            rotate_left
            · intro w hSw; (try dsimp only at hSw); go_simp; try (with_reducible rfl)
            simp only [Act.put, lsA, lsB, lsC]
            refine tkH (i := 12) (v := ?_) rfl (by kernel_rfl) (by rfl) ?_ (by assumption) ?_
            rotate_left
            · intro w hSw; (try dsimp only at hSw); go_simp; try (with_reducible rfl)
            simp only [Act.put, lsA, lsB, lsC]
            refine tkH (i := 13) (v := ?_) rfl (by kernel_rfl) (by rfl) ?_ (by assumption) ?_
            rotate_left
            · intro w hSw; (try dsimp only at hSw); go_simp; try (with_reducible rfl)
            simp only [Act.put, lsA, lsB, lsC]
            refine tkH (i := 14) (v := ?_) rfl (by kernel_rfl) (by rfl) ?_ (by assumption) ?_
            rotate_left
            · intro w hSw; (try dsimp only at hSw); go_simp; try (with_reducible rfl)
            simp only [Act.put, lsA, lsB, lsC]
            refine tkH (i := 15) (v := ?_) rfl (by kernel_rfl) (by rfl) ?_ (by assumption) ?_
            rotate_left
            · intro w hSw; (try dsimp only at hSw); go_simp; try (with_reducible rfl)
            simp only [Act.put, lsA, lsB, lsC]
            refine tkH (i := 16) (v := ?_) rfl (by kernel_rfl) (by rfl) ?_ (by assumption) ?_
            rotate_left
            · intro w hSw; (try dsimp only at hSw); go_simp; try (with_reducible rfl)
            simp only [Act.put, lsA, lsB, lsC]
            refine tkH (i := 17) (v := ?_) rfl (by kernel_rfl) (by rfl) ?_ (by assumption) ?_
            rotate_left
            · intro w hSw; (try dsimp only at hSw); go_simp; try (with_reducible rfl)
            simp only [Act.put, lsA, lsB, lsC]
            refine tkN (i := 18) rfl (by kernel_rfl) (by rfl) (by assumption) ?_
            simp only [Act.put, lsA, lsB, lsC]
            refine tkN (i := 19) rfl (by kernel_rfl) (by rfl) (by assumption) ?_
            simp only [Act.put, lsA, lsB, lsC]
            refine tkN (i := 20) rfl (by kernel_rfl) (by rfl) (by assumption) ?_
            simp only [Act.put, lsA, lsB, lsC]
            refine tkN (i := 21) rfl (by kernel_rfl) (by rfl) (by assumption) ?_
            simp only [Act.put, lsA, lsB, lsC]
            refine tkN (i := 22) rfl (by kernel_rfl) (by rfl) (by assumption) ?_
            simp only [Act.put, lsA, lsB, lsC]
            refine tkN (i := 23) rfl (by kernel_rfl) (by rfl) (by assumption) ?_
            simp only [Act.put, lsA, lsB, lsC]
            refine tkN (i := 24) rfl (by kernel_rfl) (by rfl) (by assumption) ?_
            simp only [Act.put, lsA, lsB, lsC]
            refine tkN (i := 25) rfl (by kernel_rfl) (by rfl) (by assumption) ?_
            simp only [Act.put, lsA, lsB, lsC]
            refine tkN (i := 26) rfl (by kernel_rfl) (by rfl) (by assumption) ?_
            simp only [Act.put, lsA, lsB, lsC]
            refine tkN (i := 27) rfl (by kernel_rfl) (by rfl) (by assumption) ?_
            simp only [Act.put, lsA, lsB, lsC]
            refine tkN (i := 28) rfl (by kernel_rfl) (by rfl) (by assumption) ?_
            simp only [Act.put, lsA, lsB, lsC]
            refine tkN (i := 29) rfl (by kernel_rfl) (by rfl) (by assumption) ?_
            simp only [Act.put, lsA, lsB, lsC]
            refine tkN (i := 30) rfl (by kernel_rfl) (by rfl) (by assumption) ?_
            simp only [Act.put, lsA, lsB, lsC]
            refine tkN (i := 31) rfl (by kernel_rfl) (by rfl) (by assumption) ?_
            simp only [Act.put, lsA, lsB, lsC]
            refine tkN (i := 32) rfl (by kernel_rfl) (by rfl) (by assumption) ?_
            simp only [Act.put, lsA, lsB, lsC]
            refine tkH (i := 33) (v := ?_) rfl (by kernel_rfl) (by rfl) ?_ (by assumption) ?_
            rotate_left
            · intro w hSw; (try dsimp only at hSw); go_simp; try (with_reducible rfl)
            simp only [Act.put, lsA, lsB, lsC]
            refine tkH (i := 34) (v := ?_) rfl (by kernel_rfl) (by rfl) ?_ (by assumption) ?_
            rotate_left
            · intro w hSw; (try dsimp only at hSw); go_simp; try (with_reducible rfl)
            simp only [Act.put, lsA, lsB, lsC]
            refine wpAnyH_done (by kernel_rfl) ?_ _
            refine Tame.normal ?_
            have HB5 : Hid (Below W.heap.size W W.drew) := (Below.refl _ _).drew
            obtain ⟨y0, y1, y2, y3⟩ := HBL.out _ HB5.out
            have y4 := y3.cell
            have y5 := y3.frozen
            gi_wp2
            exact ⟨(KeepsOthers.of_below HB5.out).trans (KeepsOthers.setCell _ _ _), ⟨rfl, pre, _, rfl, HI.out.1, by show g ((i : Int), (j : Int)) = false; exact HGX.out, y3.set _⟩, y0.setCell (p := ⟨w.heap.size + 1 + 1, 0, none⟩) (by show _ ≤ w.heap.size + 1 + 1; omega) _⟩
          | false =>
            generalize hsb : t.sub u = sb at HO HGE
            cases sb with
            | true =>
              have HGX : Hid (g ((i : Int), (j : Int)) = true) := by show _ = _; rw [HGE.out]; rfl
              gi_wp2
              refine region_round (S := fun W' => W'.cell? ⟨w.heap.size, 0, none⟩ = some (.pointer (some ⟨ba, 0, none⟩)) ∧ W'.cell? ⟨w.heap.size + 1, 0, none⟩ = some (.pointer (some ⟨bb, 0, none⟩)) ∧ W'.cell? ⟨ba, 4, none⟩ = some (.slice (some ⟨g1, o1, none⟩) P.len acp) ∧ W'.cell? ⟨bb, 4, none⟩ = some (.slice (some ⟨g2, o2, none⟩) Q.len bcp) ∧ W'.cell? ⟨ba, 6, none⟩ = some (.slice (some ⟨g3, o3, none⟩) KA.length ack) ∧ W'.cell? ⟨bb, 6, none⟩ = some (.slice (some ⟨g4, o4, none⟩) KB.length bck) ∧ W'.cell? ⟨g1, o1 + i, none⟩ = some (.pointer (some ⟨b1, 0, none⟩)) ∧ W'.cell? ⟨g2, o2 + j, none⟩ = some (.pointer (some ⟨b2, 0, none⟩)) ∧ W'.cell? ⟨g3, o3 + i, none⟩ = some (.bool false) ∧ W'.cell? ⟨g4, o4 + j, none⟩ = some (.bool false)) (by kernel_rfl) (by kernel_rfl) (HS7.out _ (Below.refl _ _).drew) (fun hHeld => ?_)
              refine tkH (i := 0) (v := ?_) rfl (by kernel_rfl) (by rfl) ?_ (by assumption) ?_
              rotate_left
              · intro w hSw; (try dsimp only at hSw); go_simp; try (with_reducible rfl)
              simp only [Act.put, lsA, lsB, lsC]
              refine tkH (i := 1) (v := ?_) rfl (by kernel_rfl) (by rfl) ?_ (by assumption) ?_
              rotate_left
              · intro w hSw; (try dsimp only at hSw); go_simp; try (with_reducible rfl)
              simp only [Act.put, lsA, lsB, lsC]
              refine tkH (i := 2) (v := ?_) rfl (by kernel_rfl) (by rfl) ?_ (by assumption) ?_
              rotate_left
              · intro w hSw; (try dsimp only at hSw); go_simp; try (with_reducible rfl)
              simp only [Act.put, lsA, lsB, lsC]
              refine tkH (i := 3) (v := ?_) rfl (by kernel_rfl) (by rfl) ?_ (by assumption) ?_
              rotate_left
              · intro w hSw; (try dsimp only at hSw); go_simp; try (with_reducible rfl)
              simp only [Act.put, lsA, lsB, lsC]
              refine tkH (i := 4) (v := ?_) rfl (by kernel_rfl) (by rfl) ?_ (by assumption) ?_
              rotate_left
              · intro w hSw; (try dsimp only at hSw); go_simp; try (with_reducible rfl)
              simp only [Act.put, lsA, lsB, lsC]
              refine tkH (i := 5) (v := ?_) rfl (by kernel_rfl) (by rfl) ?_ (by assumption) ?_
              rotate_left
              · intro w hSw; (try dsimp only at hSw); go_simp; try (with_reducible rfl)
              simp only [Act.put, lsA, lsB, lsC]
              refine tkH (i := 6) (v := ?_) rfl (by kernel_rfl) (by rfl) ?_ (by assumption) ?_
              rotate_left
              · intro w hSw; (try dsimp only at hSw); go_simp; try (with_reducible rfl)
              simp only [Act.put, lsA, lsB, lsC]
              refine tkH (i := 7) (v := ?_) rfl (by kernel_rfl) (by rfl) ?_ (by assumption) ?_
              rotate_left
              · intro w hSw; (try dsimp only at hSw); go_simp; try (with_reducible rfl)
              simp only [Act.put, lsA, lsB, lsC]
              refine tkH (i := 8) (v := ?_) rfl (by kernel_rfl) (by rfl) ?_ (by assumption) ?_
              rotate_left
              · intro w hSw; (try dsimp only at hSw); go_simp; try (with_reducible rfl)
              simp only [Act.put, lsA, lsB, lsC]
              refine tkH (i := 9) (v := ?_) rfl (by kernel_rfl) (by rfl) ?_ (by assumption) ?_
              rotate_left
              · intro w hSw; (try dsimp only at hSw); go_simp; try (with_reducible rfl)
              simp only [Act.put, lsA, lsB, lsC]
              refine tkH (i := 10) (v := ?_) rfl (by kernel_rfl) (by rfl) ?_ (by assumption) ?_
              rotate_left
              · intro w hSw; (try dsimp only at hSw); go_simp; try (with_reducible rfl)
              simp only [Act.put, lsA, lsB, lsC]
              refine tkH (i := 11) (v := ?_) rfl (by kernel_rfl) (by rfl) ?_ (by assumption) ?_
              rotate_left
              · intro w hSw; (try dsimp only at hSw); go_simp; try (with_reducible rfl)
              simp only [Act.put, lsA, lsB, lsC]
              refine tkH (i := 12) (v := ?_) rfl (by kernel_rfl) (by rfl) ?_ (by assumption) ?_
              rotate_left
              · intro w hSw; (try dsimp only at hSw); go_simp; try (with_reducible rfl)
              simp only [Act.put, lsA, lsB, lsC]
              refine tkH (i := 13) (v := ?_) rfl (by kernel_rfl) (by rfl) ?_ (by assumption) ?_
              rotate_left
              · intro w hSw; (try dsimp only at hSw); go_simp; try (with_reducible rfl)
              simp only [Act.put, lsA, lsB, lsC]
              refine tkH (i := 14) (v := ?_) rfl (by kernel_rfl) (by rfl) ?_ (by assumption) ?_
              rotate_left
              · intro w hSw; (try dsimp only at hSw); go_simp; try (with_reducible rfl)
              simp only [Act.put, lsA, lsB, lsC]
              refine tkH (i := 15) (v := ?_) rfl (by kernel_rfl) (by rfl) ?_ (by assumption) ?_
              rotate_left
              · intro w hSw; (try dsimp only at hSw); go_simp; try (with_reducible rfl)
              simp only [Act.put, lsA, lsB, lsC]
              refine tkH (i := 16) (v := ?_) rfl (by kernel_rfl) (by rfl) ?_ (by assumption) ?_
              rotate_left
              · intro w hSw; (try dsimp only at hSw); go_simp; try (with_reducible rfl)
              simp only [Act.put, lsA, lsB, lsC]
              refine tkH (i := 17) (v := ?_) rfl (by kernel_rfl) (by rfl) ?_ (by assumption) ?_
              rotate_left
              · intro w hSw; (try dsimp only at hSw); go_simp; try (with_reducible rfl)
              simp only [Act.put, lsA, lsB, lsC]
              refine tkH (i := 18) (v := ?_) rfl (by kernel_rfl) (by rfl) ?_ (by assumption) ?_
              rotate_left
              · intro w hSw; (try dsimp only at hSw); go_simp; try (with_reducible rfl)
              simp only [Act.put, lsA, lsB, lsC]
              refine tkH (i := 19) (v := ?_) rfl (by kernel_rfl) (by rfl) ?_ (by assumption) ?_
              rotate_left
              · intro w hSw; (try dsimp only at hSw); go_simp; try (with_reducible rfl)
              simp only [Act.put, lsA, lsB, lsC]
              refine tkH (i := 20) (v := ?_) rfl (by kernel_rfl) (by rfl) ?_ (by assumption) ?_
              rotate_left
              · intro w hSw; (try dsimp only at hSw); go_simp; try (with_reducible rfl)
              simp only [Act.put, lsA, lsB, lsC]
              refine tkH (i := 21) (v := ?_) rfl (by kernel_rfl) (by rfl) ?_ (by assumption) ?_
              rotate_left
              · intro w hSw; (try dsimp only at hSw); go_simp; try (with_reducible rfl)
              simp only [Act.put, lsA, lsB, lsC]
              refine tkH (i := 22) (v := ?_) rfl (by kernel_rfl) (by rfl) ?_ (by assumption) ?_
              rotate_left
              · intro w hSw; (try dsimp only at hSw); go_simp; try (with_reducible rfl)
              simp only [Act.put, lsA, lsB, lsC]
              refine tkH (i := 23) (v := ?_) rfl (by kernel_rfl) (by rfl) ?_ (by assumption) ?_
              rotate_left
              · intro w hSw; (try dsimp only at hSw); go_simp; try (with_reducible rfl)
              simp only [Act.put, lsA, lsB, lsC]
              refine tkH (i := 24) (v := ?_) rfl (by kernel_rfl) (by rfl) ?_ (by assumption) ?_
              rotate_left
              · intro w hSw; (try dsimp only at hSw); go_simp; try (with_reducible rfl)
              simp only [Act.put, lsA, lsB, lsC]
              refine tkH (i := 25) (v := ?_) rfl (by kernel_rfl) (by rfl) ?_ (by assumption) ?_
              rotate_left
              · intro w hSw; (try dsimp only at hSw); go_simp; try (with_reducible rfl)
              simp only [Act.put, lsA, lsB, lsC]
              refine tkH (i := 26) (v := ?_) rfl (by kernel_rfl) (by rfl) ?_ (by assumption) ?_
              rotate_left
              · intro w hSw; (try dsimp only at hSw); go_simp; try (with_reducible rfl)
              simp only [Act.put, lsA, lsB, lsC]
              refine tkH (i := 27) (v := ?_) rfl (by kernel_rfl) (by rfl) ?_ (by assumption) ?_
              rotate_left
              · intro w hSw; (try dsimp only at hSw); go_simp; try (with_reducible rfl)
              simp only [Act.put, lsA, lsB, lsC]
              refine tkH (i := 28) (v := ?_) rfl (by kernel_rfl) (by rfl) ?_ (by assumption) ?_
              rotate_left
              · intro w hSw; (try dsimp only at hSw); go_simp; try (with_reducible rfl)
              simp only [Act.put, lsA, lsB, lsC]
              refine tkH (i := 29) (v := ?_) rfl (by kernel_rfl) (by rfl) ?_ (by assumption) ?_
              rotate_left
              · intro w hSw; (try dsimp only at hSw); go_simp; try (with_reducible rfl)
              simp only [Act.put, lsA, lsB, lsC]
              refine tkH (i := 30) (v := ?_) rfl (by kernel_rfl) (by rfl) ?_ (by assumption) ?_
              rotate_left
              · intro w hSw; (try dsimp only at hSw); go_simp; try (with_reducible rfl)
              simp only [Act.put, lsA, lsB, lsC]
              refine tkH (i := 31) (v := ?_) rfl (by kernel_rfl) (by rfl) ?_ (by assumption) ?_
              rotate_left
              · intro w hSw; (try dsimp only at hSw); go_simp; try (with_reducible rfl)
              simp only [Act.put, lsA, lsB, lsC]
              refine wpAnyH_ready (rs := [32]) (by kernel_rfl) (by simp) ?_
              refine AllReadyH.cons (o := ⟨some 62, .call { callee := Go.Callee.value (.func 24), args := #[.tmp 54, .tmp 61], argTypes := #[60, 60] }, 4, "sub.go:52", #[⟨24, .data⟩, ⟨31, .data⟩, ⟨17, .chain⟩, ⟨17, .guard⟩], some (17, true)⟩) rfl (fun K hK => ?_) AllReadyH.nil
              go_simp
              (refine (HO.out _ (Below.refl _ _).drew).mono ?_; rintro e w5 ⟨rfl, hb5⟩; have HB5 : Hid (Below W.heap.size W w5) := below_to (Below.refl _ _).drew hb5; clear hb5)
              go_wp2_with fail
              refine hK.out _ _ ?_ (fun hHeld => ?_)
              · exact HS7.out _ HB5.out
              clear hK K
              refine tkH (i := 33) (v := ?_) rfl (by kernel_rfl) (by rfl) ?_ (by assumption) ?_
              rotate_left
              · intro w hSw; (try dsimp only at hSw); go_simp; try (with_reducible rfl)
              simp only [Act.put, lsA, lsB, lsC]
              refine tkH (i := 34) (v := ?_) rfl (by kernel_rfl) (by rfl) ?_ (by assumption) ?_
              rotate_left
              · intro w hSw; (try dsimp only at hSw); go_simp; try (with_reducible rfl)
              simp only [Act.put, lsA, lsB, lsC]
              refine wpAnyH_done (by kernel_rfl) ?_ _
              refine Tame.normal ?_
              obtain ⟨y0, y1, y2, y3⟩ := HBL.out _ HB5.out
              gi_wp2
              exact ⟨KeepsOthers.of_below HB5.out, HB5.out.mono HBV.out.size, ⟨all_snocB HI.out.1 (by show g ((i : Int), (j : Int)) = true; exact HGX.out), y1, y2, y3⟩, HBV.out.trans (HB5.out.mono HBV.out.size)⟩
            | false =>
              have HGX : Hid (g ((i : Int), (j : Int)) = false) := by show _ = _; rw [HGE.out]; rfl
              gi_wp2
              refine region_round (S := fun W' => W'.cell? ⟨w.heap.size, 0, none⟩ = some (.pointer (some ⟨ba, 0, none⟩)) ∧ W'.cell? ⟨w.heap.size + 1, 0, none⟩ = some (.pointer (some ⟨bb, 0, none⟩)) ∧ W'.cell? ⟨ba, 4, none⟩ = some (.slice (some ⟨g1, o1, none⟩) P.len acp) ∧ W'.cell? ⟨bb, 4, none⟩ = some (.slice (some ⟨g2, o2, none⟩) Q.len bcp) ∧ W'.cell? ⟨ba, 6, none⟩ = some (.slice (some ⟨g3, o3, none⟩) KA.length ack) ∧ W'.cell? ⟨bb, 6, none⟩ = some (.slice (some ⟨g4, o4, none⟩) KB.length bck) ∧ W'.cell? ⟨g1, o1 + i, none⟩ = some (.pointer (some ⟨b1, 0, none⟩)) ∧ W'.cell? ⟨g2, o2 + j, none⟩ = some (.pointer (some ⟨b2, 0, none⟩)) ∧ W'.cell? ⟨g3, o3 + i, none⟩ = some (.bool false) ∧ W'.cell? ⟨g4, o4 + j, none⟩ = some (.bool false)) (by kernel_rfl) (by kernel_rfl) (HS7.out _ (Below.refl _ _).drew) (fun hHeld => ?_)
              refine tkH (i := 0) (v := ?_) rfl (by kernel_rfl) (by rfl) ?_ (by assumption) ?_
              rotate_left
              · intro w hSw; (try dsimp only at hSw); go_simp; try (with_reducible rfl)
              simp only [Act.put, lsA, lsB, lsC]
              refine tkH (i := 1) (v := ?_) rfl (by kernel_rfl) (by rfl) ?_ (by assumption) ?_
              rotate_left
              · intro w hSw; (try dsimp only at hSw); go_simp; try (with_reducible rfl)
              simp only [Act.put, lsA, lsB, lsC]
              refine tkH (i := 2) (v := ?_) rfl (by kernel_rfl) (by rfl) ?_ (by assumption) ?_
              rotate_left
              · intro w hSw; (try dsimp only at hSw); go_simp; try (with_reducible rfl)
              simp only [Act.put, lsA, lsB, lsC]
              refine tkH (i := 3) (v := ?_) rfl (by kernel_rfl) (by rfl) ?_ (by assumption) ?_
              rotate_left
              · intro w hSw; (try dsimp only at hSw); go_simp; try (with_reducible rfl)
              simp only [Act.put, lsA, lsB, lsC]
              refine tkH (i := 4) (v := ?_) rfl (by kernel_rfl) (by rfl) ?_ (by assumption) ?_
              rotate_left
              · intro w hSw; (try dsimp only at hSw); go_simp; try (with_reducible rfl)
              simp only [Act.put, lsA, lsB, lsC]
              refine tkH (i := 5) (v := ?_) rfl (by kernel_rfl) (by rfl) ?_ (by assumption) ?_
              rotate_left
              · intro w hSw; (try dsimp only at hSw); go_simp; try (with_reducible rfl)
              simp only [Act.put, lsA, lsB, lsC]
              refine tkH (i := 6) (v := ?_) rfl (by kernel_rfl) (by rfl) ?_ (by assumption) ?_
              rotate_left
              · intro w hSw; (try dsimp only at hSw); go_simp; try (with_reducible rfl)
              simp only [Act.put, lsA, lsB, lsC]
              refine tkH (i := 7) (v := ?_) rfl (by kernel_rfl) (by rfl) ?_ (by assumption) ?_
              rotate_left
              · intro w hSw; (try dsimp only at hSw); go_simp; try (with_reducible rfl)
              simp only [Act.put, lsA, lsB, lsC]
              refine tkH (i := 8) (v := ?_) rfl (by kernel_rfl) (by rfl) ?_ (by assumption) ?_
              rotate_left
              · intro w hSw; (try dsimp only at hSw); go_simp; try (with_reducible rfl)
              simp only [Act.put, lsA, lsB, lsC]
              refine tkH (i := 9) (v := ?_) rfl (by kernel_rfl) (by rfl) ?_ (by assumption) ?_
              rotate_left
              · intro w hSw; (try dsimp only at hSw); go_simp; try (with_reducible rfl)
              simp only [Act.put, lsA, lsB, lsC]
              refine tkH (i := 10) (v := ?_) rfl (by kernel_rfl) (by rfl) ?_ (by assumption) ?_
              rotate_left
              · intro w hSw; (try dsimp only at hSw); go_simp; try (with_reducible rfl)
              simp only [Act.put, lsA, lsB, lsC]
              refine tkH (i := 11) (v := ?_) rfl (by kernel_rfl) (by rfl) ?_ (by assumption) ?_
              rotate_left
              · intro w hSw; (try dsimp only at hSw); go_simp; try (with_reducible rfl)
              simp only [Act.put, lsA, lsB, lsC]
              refine tkH (i := 12) (v := ?_) rfl (by kernel_rfl) (by rfl) ?_ (by assumption) ?_
              rotate_left
              · intro w hSw; (try dsimp only at hSw); go_simp; try (with_reducible rfl)
              simp only [Act.put, lsA, lsB, lsC]
              refine tkH (i := 13) (v := ?_) rfl (by kernel_rfl) (by rfl) ?_ (by assumption) ?_
              rotate_left
              · intro w hSw; (try dsimp only at hSw); go_simp; try (with_reducible rfl)
              simp only [Act.put, lsA, lsB, lsC]
              refine tkH (i := 14) (v := ?_) rfl (by kernel_rfl) (by rfl) ?_ (by assumption) ?_
              rotate_left
              · intro w hSw; (try dsimp only at hSw); go_simp; try (with_reducible rfl)
              simp only [Act.put, lsA, lsB, lsC]
              refine tkH (i := 15) (v := ?_) rfl (by kernel_rfl) (by rfl) ?_ (by assumption) ?_
              rotate_left
              · intro w hSw; (try dsimp only at hSw); go_simp; try (with_reducible rfl)
              simp only [Act.put, lsA, lsB, lsC]
              refine tkH (i := 16) (v := ?_) rfl (by kernel_rfl) (by rfl) ?_ (by assumption) ?_
              rotate_left
              · intro w hSw; (try dsimp only at hSw); go_simp; try (with_reducible rfl)
              simp only [Act.put, lsA, lsB, lsC]
              refine tkH (i := 17) (v := ?_) rfl (by kernel_rfl) (by rfl) ?_ (by assumption) ?_
              rotate_left
              · intro w hSw; (try dsimp only at hSw); go_simp; try (with_reducible rfl)
              simp only [Act.put, lsA, lsB, lsC]
              refine tkH (i := 18) (v := ?_) rfl (by kernel_rfl) (by rfl) ?_ (by assumption) ?_
              rotate_left
              · intro w hSw; (try dsimp only at hSw); go_simp; try (with_reducible rfl)
              simp only [Act.put, lsA, lsB, lsC]
              refine tkH (i := 19) (v := ?_) rfl (by kernel_rfl) (by rfl) ?_ (by assumption) ?_
              rotate_left
              · intro w hSw; (try dsimp only at hSw); go_simp; try (with_reducible rfl)
              simp only [Act.put, lsA, lsB, lsC]
              refine tkH (i := 20) (v := ?_) rfl (by kernel_rfl) (by rfl) ?_ (by assumption) ?_
              rotate_left
              · intro w hSw; (try dsimp only at hSw); go_simp; try (with_reducible rfl)
              simp only [Act.put, lsA, lsB, lsC]
              refine tkH (i := 21) (v := ?_) rfl (by kernel_rfl) (by rfl) ?_ (by assumption) ?_
              rotate_left
              · intro w hSw; (try dsimp only at hSw); go_simp; try (with_reducible rfl)
              simp only [Act.put, lsA, lsB, lsC]
              refine tkH (i := 22) (v := ?_) rfl (by kernel_rfl) (by rfl) ?_ (by assumption) ?_
              rotate_left
              · intro w hSw; (try dsimp only at hSw); go_simp; try (with_reducible rfl)
              simp only [Act.put, lsA, lsB, lsC]
              refine tkH (i := 23) (v := ?_) rfl (by kernel_rfl) (by rfl) ?_ (by assumption) ?_
              rotate_left
              · intro w hSw; (try dsimp only at hSw); go_simp; try (with_reducible rfl)
              simp only [Act.put, lsA, lsB, lsC]
              refine tkH (i := 24) (v := ?_) rfl (by kernel_rfl) (by rfl) ?_ (by assumption) ?_
              rotate_left
              · intro w hSw; (try dsimp only at hSw); go_simp; try (with_reducible rfl)
              simp only [Act.put, lsA, lsB, lsC]
              refine tkH (i := 25) (v := ?_) rfl (by kernel_rfl) (by rfl) ?_ (by assumption) ?_
              rotate_left
              · intro w hSw; (try dsimp only at hSw); go_simp; try (with_reducible rfl)
              simp only [Act.put, lsA, lsB, lsC]
              refine tkH (i := 26) (v := ?_) rfl (by kernel_rfl) (by rfl) ?_ (by assumption) ?_
              rotate_left
              · intro w hSw; (try dsimp only at hSw); go_simp; try (with_reducible rfl)
              simp only [Act.put, lsA, lsB, lsC]
              refine tkH (i := 27) (v := ?_) rfl (by kernel_rfl) (by rfl) ?_ (by assumption) ?_
              rotate_left
              · intro w hSw; (try dsimp only at hSw); go_simp; try (with_reducible rfl)
              simp only [Act.put, lsA, lsB, lsC]
              refine tkH (i := 28) (v := ?_) rfl (by kernel_rfl) (by rfl) ?_ (by assumption) ?_
              rotate_left
              · intro w hSw; (try dsimp only at hSw); go_simp; try (with_reducible rfl)
              simp only [Act.put, lsA, lsB, lsC]
              refine tkH (i := 29) (v := ?_) rfl (by kernel_rfl) (by rfl) ?_ (by assumption) ?_
              rotate_left
              · intro w hSw; (try dsimp only at hSw); go_simp; try (with_reducible rfl)
              simp only [Act.put, lsA, lsB, lsC]
              refine tkH (i := 30) (v := ?_) rfl (by kernel_rfl) (by rfl) ?_ (by assumption) ?_
              rotate_left
              · intro w hSw; (try dsimp only at hSw); go_simp; try (with_reducible rfl)
              simp only [Act.put, lsA, lsB, lsC]
              refine tkH (i := 31) (v := ?_) rfl (by kernel_rfl) (by rfl) ?_ (by assumption) ?_
              rotate_left
              · intro w hSw; (try dsimp only at hSw); go_simp; try (with_reducible rfl)
              simp only [Act.put, lsA, lsB, lsC]
              refine wpAnyH_ready (rs := [32]) (by kernel_rfl) (by simp) ?_
              refine AllReadyH.cons (o := ⟨some 62, .call { callee := Go.Callee.value (.func 24), args := #[.tmp 54, .tmp 61], argTypes := #[60, 60] }, 4, "sub.go:52", #[⟨24, .data⟩, ⟨31, .data⟩, ⟨17, .chain⟩, ⟨17, .guard⟩], some (17, true)⟩) rfl (fun K hK => ?_) AllReadyH.nil
              go_simp
              (refine (HO.out _ (Below.refl _ _).drew).mono ?_; rintro e w5 ⟨rfl, hb5⟩; have HB5 : Hid (Below W.heap.size W w5) := below_to (Below.refl _ _).drew hb5; clear hb5)
              go_wp2_with fail
              refine hK.out _ _ ?_ (fun hHeld => ?_)
              · exact HS7.out _ HB5.out
              clear hK K
              refine tkH (i := 33) (v := ?_) rfl (by kernel_rfl) (by rfl) ?_ (by assumption) ?_
              rotate_left
              · intro w hSw; (try dsimp only at hSw); go_simp; try (with_reducible rfl)
              simp only [Act.put, lsA, lsB, lsC]
              refine tkH (i := 34) (v := ?_) rfl (by kernel_rfl) (by rfl) ?_ (by assumption) ?_
              rotate_left
              · intro w hSw; (try dsimp only at hSw); go_simp; try (with_reducible rfl)
              simp only [Act.put, lsA, lsB, lsC]
              refine wpAnyH_done (by kernel_rfl) ?_ _
              refine Tame.normal ?_
              obtain ⟨y0, y1, y2, y3⟩ := HBL.out _ HB5.out
              have y4 := y3.cell
              have y5 := y3.frozen
              gi_wp2
              exact ⟨(KeepsOthers.of_below HB5.out).trans (KeepsOthers.setCell _ _ _), ⟨rfl, pre, _, rfl, HI.out.1, by show g ((i : Int), (j : Int)) = false; exact HGX.out, y3.set _⟩, y0.setCell (p := ⟨w.heap.size + 1 + 1, 0, none⟩) (by show _ ≤ w.heap.size + 1 + 1; omega) _⟩
    case done =>
      rintro D ys W hD hS ⟨⟨hgd, d0, d1, bx2⟩, hBV⟩ hK
      have hBW := t1.trans (hBV.mono t1.size)
      have HF : Hid (M.all g = true) := by
        show _ = _
        rw [← hS, List.all_eq_true]
        exact fun x hx => by obtain ⟨y, hy, rfl⟩ := List.mem_map.1 hx; exact hgd y hy
      have d2 := bx2.cell
      have z2 := bx2.frozen
      have HU : Hid (Boxed (W.setCell ⟨w.heap.size + 1 + 1, 0, none⟩ (.bool true)) (w.heap.size + 1 + 1) 4 (.bool true) ∧ Below w.heap.size w (W.setCell ⟨w.heap.size + 1 + 1, 0, none⟩ (.bool true))) := ⟨bx2.set _, hBW.setCell (p := ⟨w.heap.size + 1 + 1, 0, none⟩) (by show _ ≤ w.heap.size + 1 + 1; omega) _⟩
      clear hgd d0 d1 HSQ' HW0 HW4 t3 t4 t5 t6 t7 t8
      gi_wp2
      have hK' := (KeepsOthers.setCell W ⟨w.heap.size + 1 + 1, 0, none⟩ (.bool true)).same D _ hK rfl
      refine ⟨by simp, .inl ⟨_, _, rfl, run_takeDeferred hK', ?_⟩⟩
      have hc5 := cell_kept HU.out.1.cell (grownBy_putObj' _ D (.deferred none)) (fun r e => by cases e; exact ⟨_, hK', rfl⟩)
      refine ⟨.bool true, ?_, by rw [HF.out]; simp, HU.out.2.trans (belowK_b (w := w) (Nat.le_refl _) _ D _ _ (by have := t1.size; omega) hK' rfl rfl)⟩
      simp [results, Tryz.f51, go_sem, hc5]
    case stop =>
      rintro D c pre W hD ⟨rest, hrest⟩ ⟨⟨rfl, ini, last, rfl, e2, e3, bx2⟩, hB5⟩ hK
      have HF : Hid (M.all g = false) := by
        show _ = _
        rw [← hrest]
        simp [e3]
      clear HSQ' HW0 HW4 t3 t4 t5 t6 t7 t8 hrest e2 e3
      gi_wp2
      refine ⟨by simp, .inl ⟨_, _, rfl, run_takeDeferred hK, ?_⟩⟩
      have hc5 := cell_kept bx2.cell (grownBy_putObj' _ D (.deferred none)) (fun r e => by cases e; exact ⟨_, hK, rfl⟩)
      refine ⟨.bool false, ?_, by rw [HF.out]; simp, hB5.trans (belowK_b (w := w) (Nat.le_refl _) W D _ _ (by have := t1.size; omega) hK rfl rfl)⟩
      simp [results, Tryz.f51, go_sem, hc5]
  · gi_wp2
    clear hw4
    refine wpIn_wide.2 ?_
    have HK1 : Hid (∀ W, Below w4.heap.size w4 W → W.cell? ⟨w.heap.size, 0, none⟩ = some (.pointer (some ⟨ba, 0, none⟩)) ∧ W.cell? ⟨w.heap.size + 1, 0, none⟩ = some (.pointer (some ⟨bb, 0, none⟩)) ∧ W.cell? ⟨ba, 5, none⟩ = some (.slice an NA.length acn) ∧ W.cell? ⟨bb, 5, none⟩ = some (.slice bn NB.length bcn)) := fun W h => by
      obtain ⟨p1, p2, p3, p4, -⟩ := HW4.out
      have hx := HX.out W (p1.trans (h.mono p1.size))
      exact ⟨cell_below p3 h, cell_below p4 h, hx.2.1, hx.2.2.2.2.2.1⟩
    go_region_held3 (fun W => W.cell? ⟨w.heap.size, 0, none⟩ = some (.pointer (some ⟨ba, 0, none⟩)) ∧ W.cell? ⟨w.heap.size + 1, 0, none⟩ = some (.pointer (some ⟨bb, 0, none⟩)) ∧ W.cell? ⟨ba, 5, none⟩ = some (.slice an NA.length acn) ∧ W.cell? ⟨bb, 5, none⟩ = some (.slice bn NB.length bcn))
      (first | with_reducible exact HK1.out _ HBT.out | with_reducible exact HK1.out _ (Below.refl _ _).drew)
      ((go_at_call 90; refine (HTG.out _).mono ?_; rintro e W0 ⟨rfl, hW0⟩; have HBT : Hid (Below w4.heap.size w4 W0) := by (rw [← hW0]; exact (((((Below.refl _ _).drew).alloc (Nat.le_refl _) _).alloc (by simp) _).alloc (by simp; omega) _))))
    have HW0 : Hid (Below w.heap.size w W0 ∧ W0.heap.size = w4.heap.size + 1 + 1 + 1 ∧ W0.cell? ⟨w4.heap.size, 0, none⟩ = some (.slice an NA.length acn) ∧ W0.cell? ⟨w4.heap.size + 1, 0, none⟩ = some (.slice bn NB.length bcn) ∧ W0.cell? ⟨w4.heap.size + 1 + 1, 0, none⟩ = some (.func (.func 91) #[] #[]) ∧
        W0.cell? ⟨w.heap.size, 0, none⟩ = some (.pointer (some ⟨ba, 0, none⟩)) ∧ W0.cell? ⟨w.heap.size + 1, 0, none⟩ = some (.pointer (some ⟨bb, 0, none⟩)) ∧ Boxed W0 (w.heap.size + 1 + 1) 4 (.bool false)) := by
      obtain ⟨p1, p2, p3, p4, p5⟩ := HW4.out
      have b0 := Boxed.new w4.drew 31 (.slice an NA.length acn)
      have b1 := Boxed.new (w4.drew.alloc (.cells #[.slice an NA.length acn] 31)) 31 (.slice bn NB.length bcn)
      have b2 := Boxed.new ((w4.drew.alloc (.cells #[.slice an NA.length acn] 31)).alloc (.cells #[.slice bn NB.length bcn] 31)) 120 (.func (.func 91) #[] #[])
      simp only [World.size_alloc] at b1 b2
      obtain ⟨r1, r2, -⟩ := HK1.out W0 HBT.out
      refine ⟨p1.trans (HBT.out.mono p1.size), by rw [← hW0]; simp only [World.size_alloc]; rfl, ?_, ?_, ?_, r1, r2, boxed_below p5 HBT.out⟩
      · rw [← hW0]; exact ((b0.alloc _).alloc _).cell
      · rw [← hW0]; exact (b1.alloc _).cell
      · rw [← hW0]; exact b2.cell
    clear hW0
    have HTS := HW0.out
    obtain ⟨t1, t2, t3, t4, t5, t6, t7, t8⟩ := HTS
    have hs0 : Same (Lo w.heap.size) w W0 := fun k hk => t1.block k hk
    have HSQ := togS_stops (3 - 1) w4.heap.size (w4.heap.size + 1) (w4.heap.size + 1 + 1) NA NB an bn acn bcn W0 (by omega) (by omega) (by omega) t3 t4 t5 (HMEM.out.1.same hs0 (Lo.le t1.size)) (HMEM.out.2.same hs0 (Lo.le t1.size)) hl3 hl4
    rw [← HM.out] at HSQ
    have HSQ' : Hid _ := HSQ
    clear HSQ hs0 HMEM HTG HBT HK1 q0 q1 q2 z2 s7 s7b
    gi_wp2
    refine' wpIn_rangeFunc_ownF rfl (by omega) (gf := 112) (lb := #[.pointer (some ⟨w4.heap.size, 0, none⟩), .pointer (some ⟨w4.heap.size + 1, 0, none⟩), .pointer (some ⟨w4.heap.size + 1 + 1, 0, none⟩)]) rfl trivial (enters_of Tryz.func112 (by kernel_rfl) rfl)
      HSQ'.out belowK_t (belowK_b (Nat.le_refl _)) (Below.refl _ _) (fun _ => rfl)
      (fun pre W => ((∀ x ∈ pre, g x.1 = true) ∧ W.cell? ⟨w.heap.size, 0, none⟩ = some (.pointer (some ⟨ba, 0, none⟩)) ∧ W.cell? ⟨w.heap.size + 1, 0, none⟩ = some (.pointer (some ⟨bb, 0, none⟩)) ∧ Boxed W (w.heap.size + 1 + 1) 4 (.bool false)) ∧ Below W0.heap.size W0 W)
      (fun c pre W => (c = .ret ∧ ∃ ini last, pre = ini ++ [last] ∧ (∀ x ∈ ini, g x.1 = true) ∧ g last.1 = false ∧ Boxed W (w.heap.size + 1 + 1) 4 (.bool false)) ∧ Below w.heap.size w W)
      (OwnFrom.and (Own.from (fun s A B row hs hg hr => ⟨hs.1, cell_kept hs.2.1 hg hr, cell_kept hs.2.2.1 hg hr, boxed_own (β := Unit) _ _ (fun _ => .bool false) () A B row hs.2.2.2 hg hr⟩) _) (ownFrom_below (Nat.le_refl _) (Nat.le_refl _)))
      (fun c => OwnFrom.and (Own.from (fun s A B row hs hg hr => by obtain ⟨hc, ini, last, e1, e2, e3, e4⟩ := hs; exact ⟨hc, ini, last, e1, e2, e3, boxed_own (β := Unit) _ _ (fun _ => .bool false) () A B row e4 hg hr⟩) _) (ownFrom_below (Nat.le_refl _) t1.size))
      ⟨⟨fun x hx => (by cases hx), t6, t7, t8⟩, Below.refl _ _⟩ _ ?assign ?body ?done ?stop
    case assign =>
      intro l x W K hK
      simp only [PQ.enc]
      gi_wp2
      exact hK
    case body =>
      rintro l pre ⟨⟨x1, x2⟩, hx⟩ W ⟨⟨hgd, d0, d1, bx2⟩, hBV⟩ -
      have hBW := t1.trans (hBV.mono t1.size)
      have HBV : Hid (Below W0.heap.size W0 W) := hBV
      obtain ⟨s4, s5, s6, s7, r4, r5, r6, r7⟩ := HX.out W hBW
      have d2 := bx2.cell
      have z2 := bx2.frozen
      have HI : Hid ((∀ y ∈ pre, g y.1 = true) ∧ W.cell? ⟨w.heap.size, 0, none⟩ = some (.pointer (some ⟨ba, 0, none⟩)) ∧ W.cell? ⟨w.heap.size + 1, 0, none⟩ = some (.pointer (some ⟨bb, 0, none⟩)) ∧ Boxed W (w.heap.size + 1 + 1) 4 (.bool false) ∧ Below w.heap.size w W) := ⟨hgd, d0, d1, bx2, hBW⟩
      have HBL : Hid (∀ W', Below W.heap.size W W' → Below w.heap.size w W' ∧ W'.cell? ⟨w.heap.size, 0, none⟩ = some (.pointer (some ⟨ba, 0, none⟩)) ∧ W'.cell? ⟨w.heap.size + 1, 0, none⟩ = some (.pointer (some ⟨bb, 0, none⟩)) ∧ Boxed W' (w.heap.size + 1 + 1) 4 (.bool false)) := fun W' h => ⟨hBW.trans (h.mono hBW.size), cell_below d0 h, cell_below d1 h, boxed_below bx2 h⟩
      clear hgd bx2 hBW hBV HSQ' HW0 HW4 t3 t4 t5 t6 t7 t8
      rcases hx with ⟨e1, e2, e3⟩ | ⟨e1, e2, e3⟩ | ⟨e1, e2, e3, e4⟩
      · have e1 : x1 = -1 := e1
        subst e1
        obtain ⟨j, rfl⟩ := Int.eq_ofNat_of_zero_le e2
        have hjN : j < NB.length := by have : (j : Int) < NB.length := e3; omega
        have hj0 : (0 : Int) ≤ (j : Int) := Int.natCast_nonneg _
        have hj1 : (j : Int) < (KB.length : Int) := by have := HLN.out.2.2.2; omega
        obtain ⟨kb, g4, o4, hk, rfl, ck⟩ := HKB.out W j HI.out.2.2.2.2 hjN
        have HGE : Hid (g (-1, (j : Int)) = (kb && !true)) := by
          show _ = _
          obtain ⟨nn, hnn⟩ := HNM.out.2 j hjN
          have hq : ∃ u, Q.toL[j]? = some u := ⟨_, List.getElem?_eq_getElem (by rw [TyL.toL_len]; have := HLN.out.2.2.1; omega)⟩
          obtain ⟨u, hu⟩ := hq
          rw [HG.out]; simp [Sp.stepS, Sp.z3_get NB KB Q.toL j nn kb u hnn hk hu]
        dsimp only
        clear hk
        have HGX : Hid (g (-1, (j : Int)) = false) := by show _ = _; rw [HGE.out]; cases kb <;> rfl
        cases kb with
        | true =>
          gi_wp2
          exact ⟨KeepsOthers.setCell _ _ _, ⟨rfl, pre, _, rfl, HI.out.1, by show g (-1, (j : Int)) = false; exact HGX.out, HI.out.2.2.2.1.set _⟩, HI.out.2.2.2.2.setCell (p := ⟨w.heap.size + 1 + 1, 0, none⟩) (by show _ ≤ w.heap.size + 1 + 1; omega) _⟩
        | false =>
          gi_wp2
          exact ⟨KeepsOthers.setCell _ _ _, ⟨rfl, pre, _, rfl, HI.out.1, by show g (-1, (j : Int)) = false; exact HGX.out, HI.out.2.2.2.1.set _⟩, HI.out.2.2.2.2.setCell (p := ⟨w.heap.size + 1 + 1, 0, none⟩) (by show _ ≤ w.heap.size + 1 + 1; omega) _⟩
      · have e3 : x2 = -1 := e3
        subst e3
        obtain ⟨i, rfl⟩ := Int.eq_ofNat_of_zero_le e1
        have n1 : decide ((i : Int) < 0) = false := by simp
        have HGE : Hid (g ((i : Int), -1) = true) := by show _ = _; rw [HG.out]; have q1 : ¬ ((i : Int) < 0) := (by omega); simp only [Sp.stepS, if_neg q1]; rfl
        dsimp only
        have HGX : Hid (g ((i : Int), -1) = true) := by show _ = _; rw [HGE.out]
        gi_wp2
        exact ⟨KeepsOthers.refl _, Below.refl _ _, ⟨all_snocB HI.out.1 (by show g ((i : Int), -1) = true; exact HGX.out), HI.out.2.1, HI.out.2.2.1, HI.out.2.2.2.1⟩, HBV.out⟩
      · obtain ⟨i, rfl⟩ := Int.eq_ofNat_of_zero_le e1
        obtain ⟨j, rfl⟩ := Int.eq_ofNat_of_zero_le e3
        have hiN : i < NA.length := by have : (i : Int) < NA.length := e2; omega
        have hjN : j < NB.length := by have : (j : Int) < NB.length := e4; omega
        have hi0 : (0 : Int) ≤ (i : Int) := Int.natCast_nonneg _
        have hj0 : (0 : Int) ≤ (j : Int) := Int.natCast_nonneg _
        have hi1 : (i : Int) < (P.len : Int) := by have := HLN.out.1; omega
        have hi2 : (i : Int) < (KA.length : Int) := by have := HLN.out.2.1; omega
        have hj1 : (j : Int) < (Q.len : Int) := by have := HLN.out.2.2.1; omega
        have hj2 : (j : Int) < (KB.length : Int) := by have := HLN.out.2.2.2; omega
        have n1 : decide ((i : Int) < 0) = false := by simp
        have n2 : decide ((j : Int) < 0) = false := by simp
        obtain ⟨t, u, g1, o1, g2, o2, b1, b2, ft, fu, rfl, rfl, ⟨hg1, cs1⟩, ⟨hg2, cs2⟩, HCT⟩ := HPT.out i j hiN hjN
        obtain ⟨ka, g3, o3, hka, rfl, cka⟩ := HKA.out W i HI.out.2.2.2.2 hiN
        obtain ⟨kb, g4, o4, hkb, rfl, ckb⟩ := HKB.out W j HI.out.2.2.2.2 hjN
        have HGE : Hid (g ((i : Int), (j : Int)) = ((kb || !ka) && t.sub u)) := by
          show _ = _
          obtain ⟨nn, hnn⟩ := HNM.out.1 i hiN
          obtain ⟨mm, hmm⟩ := HNM.out.2 j hjN
          have q1 : ¬ ((i : Int) < 0) := by omega
          have q2 : ¬ ((j : Int) < 0) := by omega
          rw [HG.out]; simp only [Sp.stepS, if_neg q1, if_neg q2, Int.toNat_natCast, Sp.z3_get NA KA P.subFns i nn ka t.sub hnn hka ft, Sp.z3_get NB KB Q.toL j mm kb u hmm hkb fu]
        have HO : Hid (∀ W', Below W.heap.size W W' → Calls Tryz.prog 24 #[.pointer (some ⟨b1, 0, none⟩), .pointer (some ⟨b2, 0, none⟩)] W' fun e w' => e = .returned (.bool (t.sub u)) ∧ Below W'.heap.size W' w') := fun W' h => HCT W' (HBL.out W' h).1
        have HS7 : Hid (∀ W', Below W.heap.size W W' → W'.cell? ⟨w.heap.size, 0, none⟩ = some (.pointer (some ⟨ba, 0, none⟩)) ∧ W'.cell? ⟨w.heap.size + 1, 0, none⟩ = some (.pointer (some ⟨bb, 0, none⟩)) ∧ W'.cell? ⟨ba, 4, none⟩ = some (.slice (some ⟨g1, o1, none⟩) P.len acp) ∧ W'.cell? ⟨bb, 4, none⟩ = some (.slice (some ⟨g2, o2, none⟩) Q.len bcp) ∧ W'.cell? ⟨ba, 6, none⟩ = some (.slice (some ⟨g3, o3, none⟩) KA.length ack) ∧ W'.cell? ⟨bb, 6, none⟩ = some (.slice (some ⟨g4, o4, none⟩) KB.length bck) ∧ W'.cell? ⟨g1, o1 + i, none⟩ = some (.pointer (some ⟨b1, 0, none⟩)) ∧ W'.cell? ⟨g2, o2 + j, none⟩ = some (.pointer (some ⟨b2, 0, none⟩)) ∧ W'.cell? ⟨g3, o3 + i, none⟩ = some (.bool ka) ∧ W'.cell? ⟨g4, o4 + j, none⟩ = some (.bool kb)) := fun W' h => ⟨cell_below d0 h, cell_below d1 h, cell_below s4 h, cell_below r4 h, cell_below s6 h, cell_below r6 h, cell_below (by rw [HI.out.2.2.2.2.cell (p := ⟨g1, o1 + i, none⟩) hg1]; exact cs1) h, cell_below (by rw [HI.out.2.2.2.2.cell (p := ⟨g2, o2 + j, none⟩) hg2]; exact cs2) h, cell_below cka h, cell_below ckb h⟩
        clear ft fu cs1 cs2 hka hkb HCT cka ckb
        dsimp only
        cases kb with
        | true =>
          cases ka with
          | true =>
            generalize hsb : t.sub u = sb at HO HGE
            cases sb with
            | true =>
              have HGX : Hid (g ((i : Int), (j : Int)) = true) := by show _ = _; rw [HGE.out]; rfl
              gi_wp2
              refine region_round (S := fun W' => W'.cell? ⟨w.heap.size, 0, none⟩ = some (.pointer (some ⟨ba, 0, none⟩)) ∧ W'.cell? ⟨w.heap.size + 1, 0, none⟩ = some (.pointer (some ⟨bb, 0, none⟩)) ∧ W'.cell? ⟨ba, 4, none⟩ = some (.slice (some ⟨g1, o1, none⟩) P.len acp) ∧ W'.cell? ⟨bb, 4, none⟩ = some (.slice (some ⟨g2, o2, none⟩) Q.len bcp) ∧ W'.cell? ⟨ba, 6, none⟩ = some (.slice (some ⟨g3, o3, none⟩) KA.length ack) ∧ W'.cell? ⟨bb, 6, none⟩ = some (.slice (some ⟨g4, o4, none⟩) KB.length bck) ∧ W'.cell? ⟨g1, o1 + i, none⟩ = some (.pointer (some ⟨b1, 0, none⟩)) ∧ W'.cell? ⟨g2, o2 + j, none⟩ = some (.pointer (some ⟨b2, 0, none⟩)) ∧ W'.cell? ⟨g3, o3 + i, none⟩ = some (.bool true) ∧ W'.cell? ⟨g4, o4 + j, none⟩ = some (.bool true)) (by kernel_rfl) (by kernel_rfl) (HS7.out _ (Below.refl _ _).drew) (fun hHeld => ?_)
              refine tkH (i := 0) (v := ?_) rfl (by kernel_rfl) (by rfl) ?_ (by assumption) ?_
              rotate_left
              · intro w hSw; (try dsimp only at hSw); go_simp; try (with_reducible rfl)
              simp only [Act.put, lsA, lsB, lsC]
              refine tkH (i := 1) (v := ?_) rfl (by kernel_rfl) (by rfl) ?_ (by assumption) ?_
              rotate_left
              · intro w hSw; (try dsimp only at hSw); go_simp; try (with_reducible rfl)
              simp only [Act.put, lsA, lsB, lsC]
              refine tkH (i := 2) (v := ?_) rfl (by kernel_rfl) (by rfl) ?_ (by assumption) ?_
              rotate_left
              · intro w hSw; (try dsimp only at hSw); go_simp; try (with_reducible rfl)
              simp only [Act.put, lsA, lsB, lsC]
              refine tkH (i := 3) (v := ?_) rfl (by kernel_rfl) (by rfl) ?_ (by assumption) ?_
              rotate_left
              · intro w hSw; (try dsimp only at hSw); go_simp; try (with_reducible rfl)
              simp only [Act.put, lsA, lsB, lsC]
              refine tkH (i := 4) (v := ?_) rfl (by kernel_rfl) (by rfl) ?_ (by assumption) ?_
              rotate_left
              · intro w hSw; (try dsimp only at hSw); go_simp; try (with_reducible rfl)
              simp only [Act.put, lsA, lsB, lsC]
              refine tkH (i := 5) (v := ?_) rfl (by kernel_rfl) (by rfl) ?_ (by assumption) ?_
              rotate_left
              · intro w hSw; (try dsimp only at hSw); go_simp; try (with_reducible rfl)
              simp only [Act.put, lsA, lsB, lsC]
              refine tkH (i := 6) (v := ?_) rfl (by kernel_rfl) (by rfl) ?_ (by assumption) ?_
              rotate_left
              · intro w hSw; (try dsimp only at hSw); go_simp; try (with_reducible rfl)
              simp only [Act.put, lsA, lsB, lsC]
              refine tkH (i := 7) (v := ?_) rfl (by kernel_rfl) (by rfl) ?_ (by assumption) ?_
              rotate_left
              · intro w hSw; (try dsimp only at hSw); go_simp; try (with_reducible rfl)
              simp only [Act.put, lsA, lsB, lsC]
              refine tkN (i := 8) rfl (by kernel_rfl) (by rfl) (by assumption) ?_
              simp only [Act.put, lsA, lsB, lsC]
              refine tkN (i := 9) rfl (by kernel_rfl) (by rfl) (by assumption) ?_
              simp only [Act.put, lsA, lsB, lsC]
              refine tkN (i := 10) rfl (by kernel_rfl) (by rfl) (by assumption) ?_
              simp only [Act.put, lsA, lsB, lsC]
              refine tkN (i := 11) rfl (by kernel_rfl) (by rfl) (by assumption) ?_
              simp only [Act.put, lsA, lsB, lsC]
              refine tkN (i := 12) rfl (by kernel_rfl) (by rfl) (by assumption) ?_
              simp only [Act.put, lsA, lsB, lsC]
              refine tkN (i := 13) rfl (by kernel_rfl) (by rfl) (by assumption) ?_
              simp only [Act.put, lsA, lsB, lsC]
              refine tkN (i := 14) rfl (by kernel_rfl) (by rfl) (by assumption) ?_
              simp only [Act.put, lsA, lsB, lsC]
              refine tkN (i := 15) rfl (by kernel_rfl) (by rfl) (by assumption) ?_
              simp only [Act.put, lsA, lsB, lsC]
              refine tkH (i := 16) (v := ?_) rfl (by kernel_rfl) (by rfl) ?_ (by assumption) ?_
              rotate_left
              · intro w hSw; (try dsimp only at hSw); go_simp; try (with_reducible rfl)
              simp only [Act.put, lsA, lsB, lsC]
              refine tkH (i := 17) (v := ?_) rfl (by kernel_rfl) (by rfl) ?_ (by assumption) ?_
              rotate_left
              · intro w hSw; (try dsimp only at hSw); go_simp; try (with_reducible rfl)
              simp only [Act.put, lsA, lsB, lsC]
              refine tkH (i := 18) (v := ?_) rfl (by kernel_rfl) (by rfl) ?_ (by assumption) ?_
              rotate_left
              · intro w hSw; (try dsimp only at hSw); go_simp; try (with_reducible rfl)
              simp only [Act.put, lsA, lsB, lsC]
              refine tkH (i := 19) (v := ?_) rfl (by kernel_rfl) (by rfl) ?_ (by assumption) ?_
              rotate_left
              · intro w hSw; (try dsimp only at hSw); go_simp; try (with_reducible rfl)
              simp only [Act.put, lsA, lsB, lsC]
              refine tkH (i := 20) (v := ?_) rfl (by kernel_rfl) (by rfl) ?_ (by assumption) ?_
              rotate_left
              · intro w hSw; (try dsimp only at hSw); go_simp; try (with_reducible rfl)
              simp only [Act.put, lsA, lsB, lsC]
              refine tkH (i := 21) (v := ?_) rfl (by kernel_rfl) (by rfl) ?_ (by assumption) ?_
              rotate_left
              · intro w hSw; (try dsimp only at hSw); go_simp; try (with_reducible rfl)
              simp only [Act.put, lsA, lsB, lsC]
              refine tkH (i := 22) (v := ?_) rfl (by kernel_rfl) (by rfl) ?_ (by assumption) ?_
              rotate_left
              · intro w hSw; (try dsimp only at hSw); go_simp; try (with_reducible rfl)
              simp only [Act.put, lsA, lsB, lsC]
              refine tkH (i := 23) (v := ?_) rfl (by kernel_rfl) (by rfl) ?_ (by assumption) ?_
              rotate_left
              · intro w hSw; (try dsimp only at hSw); go_simp; try (with_reducible rfl)
              simp only [Act.put, lsA, lsB, lsC]
              refine tkH (i := 24) (v := ?_) rfl (by kernel_rfl) (by rfl) ?_ (by assumption) ?_
              rotate_left
              · intro w hSw; (try dsimp only at hSw); go_simp; try (with_reducible rfl)
              simp only [Act.put, lsA, lsB, lsC]
              refine tkH (i := 25) (v := ?_) rfl (by kernel_rfl) (by rfl) ?_ (by assumption) ?_
              rotate_left
              · intro w hSw; (try dsimp only at hSw); go_simp; try (with_reducible rfl)
              simp only [Act.put, lsA, lsB, lsC]
              refine tkH (i := 26) (v := ?_) rfl (by kernel_rfl) (by rfl) ?_ (by assumption) ?_
              rotate_left
              · intro w hSw; (try dsimp only at hSw); go_simp; try (with_reducible rfl)
              simp only [Act.put, lsA, lsB, lsC]
              refine tkH (i := 27) (v := ?_) rfl (by kernel_rfl) (by rfl) ?_ (by assumption) ?_
              rotate_left
              · intro w hSw; (try dsimp only at hSw); go_simp; try (with_reducible rfl)
              simp only [Act.put, lsA, lsB, lsC]
              refine tkH (i := 28) (v := ?_) rfl (by kernel_rfl) (by rfl) ?_ (by assumption) ?_
              rotate_left
              · intro w hSw; (try dsimp only at hSw); go_simp; try (with_reducible rfl)
              simp only [Act.put, lsA, lsB, lsC]
              refine tkH (i := 29) (v := ?_) rfl (by kernel_rfl) (by rfl) ?_ (by assumption) ?_
              rotate_left
              · intro w hSw; (try dsimp only at hSw); go_simp; try (with_reducible rfl)
              simp only [Act.put, lsA, lsB, lsC]
              refine tkH (i := 30) (v := ?_) rfl (by kernel_rfl) (by rfl) ?_ (by assumption) ?_
              rotate_left
              · intro w hSw; (try dsimp only at hSw); go_simp; try (with_reducible rfl)
              simp only [Act.put, lsA, lsB, lsC]
              refine tkH (i := 31) (v := ?_) rfl (by kernel_rfl) (by rfl) ?_ (by assumption) ?_
              rotate_left
              · intro w hSw; (try dsimp only at hSw); go_simp; try (with_reducible rfl)
              simp only [Act.put, lsA, lsB, lsC]
              refine wpAnyH_ready (rs := [32]) (by kernel_rfl) (by simp) ?_
              refine AllReadyH.cons (o := ⟨some 62, .call { callee := Go.Callee.value (.func 24), args := #[.tmp 54, .tmp 61], argTypes := #[60, 60] }, 4, "sub.go:52", #[⟨24, .data⟩, ⟨31, .data⟩, ⟨17, .chain⟩, ⟨17, .guard⟩], some (17, true)⟩) rfl (fun K hK => ?_) AllReadyH.nil
              go_simp
              (refine (HO.out _ (Below.refl _ _).drew).mono ?_; rintro e w5 ⟨rfl, hb5⟩; have HB5 : Hid (Below W.heap.size W w5) := below_to (Below.refl _ _).drew hb5; clear hb5)
              go_wp2_with fail
              refine hK.out _ _ ?_ (fun hHeld => ?_)
              · exact HS7.out _ HB5.out
              clear hK K
              refine tkH (i := 33) (v := ?_) rfl (by kernel_rfl) (by rfl) ?_ (by assumption) ?_
              rotate_left
              · intro w hSw; (try dsimp only at hSw); go_simp; try (with_reducible rfl)
              simp only [Act.put, lsA, lsB, lsC]
              refine tkH (i := 34) (v := ?_) rfl (by kernel_rfl) (by rfl) ?_ (by assumption) ?_
              rotate_left
              · intro w hSw; (try dsimp only at hSw); go_simp; try (with_reducible rfl)
              simp only [Act.put, lsA, lsB, lsC]
              refine wpAnyH_done (by kernel_rfl) ?_ _
              refine Tame.normal ?_
              obtain ⟨y0, y1, y2, y3⟩ := HBL.out _ HB5.out
              gi_wp2
              exact ⟨KeepsOthers.of_below HB5.out, HB5.out.mono HBV.out.size, ⟨all_snocB HI.out.1 (by show g ((i : Int), (j : Int)) = true; exact HGX.out), y1, y2, y3⟩, HBV.out.trans (HB5.out.mono HBV.out.size)⟩
            | false =>
              have HGX : Hid (g ((i : Int), (j : Int)) = false) := by show _ = _; rw [HGE.out]; rfl
              gi_wp2
              refine region_round (S := fun W' => W'.cell? ⟨w.heap.size, 0, none⟩ = some (.pointer (some ⟨ba, 0, none⟩)) ∧ W'.cell? ⟨w.heap.size + 1, 0, none⟩ = some (.pointer (some ⟨bb, 0, none⟩)) ∧ W'.cell? ⟨ba, 4, none⟩ = some (.slice (some ⟨g1, o1, none⟩) P.len acp) ∧ W'.cell? ⟨bb, 4, none⟩ = some (.slice (some ⟨g2, o2, none⟩) Q.len bcp) ∧ W'.cell? ⟨ba, 6, none⟩ = some (.slice (some ⟨g3, o3, none⟩) KA.length ack) ∧ W'.cell? ⟨bb, 6, none⟩ = some (.slice (some ⟨g4, o4, none⟩) KB.length bck) ∧ W'.cell? ⟨g1, o1 + i, none⟩ = some (.pointer (some ⟨b1, 0, none⟩)) ∧ W'.cell? ⟨g2, o2 + j, none⟩ = some (.pointer (some ⟨b2, 0, none⟩)) ∧ W'.cell? ⟨g3, o3 + i, none⟩ = some (.bool true) ∧ W'.cell? ⟨g4, o4 + j, none⟩ = some (.bool true)) (by kernel_rfl) (by kernel_rfl) (HS7.out _ (Below.refl _ _).drew) (fun hHeld => ?_)
              refine tkH (i := 0) (v := ?_) rfl (by kernel_rfl) (by rfl) ?_ (by assumption) ?_
              rotate_left
              · intro w hSw; (try dsimp only at hSw); go_simp; try (with_reducible rfl)
              simp only [Act.put, lsA, lsB, lsC]
              refine tkH (i := 1) (v := ?_) rfl (by kernel_rfl) (by rfl) ?_ (by assumption) ?_
              rotate_left
              · intro w hSw; (try dsimp only at hSw); go_simp; try (with_reducible rfl)
              simp only [Act.put, lsA, lsB, lsC]
              refine tkH (i := 2) (v := ?_) rfl (by kernel_rfl) (by rfl) ?_ (by assumption) ?_
              rotate_left
              · intro w hSw; (try dsimp only at hSw); go_simp; try (with_reducible rfl)
              simp only [Act.put, lsA, lsB, lsC]
              refine tkH (i := 3) (v := ?_) rfl (by kernel_rfl) (by rfl) ?_ (by assumption) ?_
              rotate_left
              · intro w hSw; (try dsimp only at hSw); go_simp; try (with_reducible rfl)
              simp only [Act.put, lsA, lsB, lsC]
              refine tkH (i := 4) (v := ?_) rfl (by kernel_rfl) (by rfl) ?_ (by assumption) ?_
              rotate_left
              · intro w hSw; (try dsimp only at hSw); go_simp; try (with_reducible rfl)
              simp only [Act.put, lsA, lsB, lsC]
              refine tkH (i := 5) (v := ?_) rfl (by kernel_rfl) (by rfl) ?_ (by assumption) ?_
              rotate_left
              · intro w hSw; (try dsimp only at hSw); go_simp; try (with_reducible rfl)
              simp only [Act.put, lsA, lsB, lsC]
              refine tkH (i := 6) (v := ?_) rfl (by kernel_rfl) (by rfl) ?_ (by assumption) ?_
              rotate_left
              · intro w hSw; (try dsimp only at hSw); go_simp; try (with_reducible rfl)
              simp only [Act.put, lsA, lsB, lsC]
              refine tkH (i := 7) (v := ?_) rfl (by kernel_rfl) (by rfl) ?_ (by assumption) ?_
              rotate_left
              · intro w hSw; (try dsimp only at hSw); go_simp; try (with_reducible rfl)
              simp only [Act.put, lsA, lsB, lsC]
              refine tkN (i := 8) rfl (by kernel_rfl) (by rfl) (by assumption) ?_
              simp only [Act.put, lsA, lsB, lsC]
              refine tkN (i := 9) rfl (by kernel_rfl) (by rfl) (by assumption) ?_
              simp only [Act.put, lsA, lsB, lsC]
              refine tkN (i := 10) rfl (by kernel_rfl) (by rfl) (by assumption) ?_
              simp only [Act.put, lsA, lsB, lsC]
              refine tkN (i := 11) rfl (by kernel_rfl) (by rfl) (by assumption) ?_
              simp only [Act.put, lsA, lsB, lsC]
              refine tkN (i := 12) rfl (by kernel_rfl) (by rfl) (by assumption) ?_
              simp only [Act.put, lsA, lsB, lsC]
              refine tkN (i := 13) rfl (by kernel_rfl) (by rfl) (by assumption) ?_
              simp only [Act.put, lsA, lsB, lsC]
              refine tkN (i := 14) rfl (by kernel_rfl) (by rfl) (by assumption) ?_
              simp only [Act.put, lsA, lsB, lsC]
              refine tkN (i := 15) rfl (by kernel_rfl) (by rfl) (by assumption) ?_
              simp only [Act.put, lsA, lsB, lsC]
              refine tkH (i := 16) (v := ?_) rfl (by kernel_rfl) (by rfl) ?_ (by assumption) ?_
              rotate_left
              · intro w hSw; (try dsimp only at hSw); go_simp; try (with_reducible rfl)
              simp only [Act.put, lsA, lsB, lsC]
              refine tkH (i := 17) (v := ?_) rfl (by kernel_rfl) (by rfl) ?_ (by assumption) ?_
              rotate_left
              · intro w hSw; (try dsimp only at hSw); go_simp; try (with_reducible rfl)
              simp only [Act.put, lsA, lsB, lsC]
              refine tkH (i := 18) (v := ?_) rfl (by kernel_rfl) (by rfl) ?_ (by assumption) ?_
              rotate_left
              · intro w hSw; (try dsimp only at hSw); go_simp; try (with_reducible rfl)
              simp only [Act.put, lsA, lsB, lsC]
              refine tkH (i := 19) (v := ?_) rfl (by kernel_rfl) (by rfl) ?_ (by assumption) ?_
              rotate_left
              · intro w hSw; (try dsimp only at hSw); go_simp; try (with_reducible rfl)
              simp only [Act.put, lsA, lsB, lsC]
              refine tkH (i := 20) (v := ?_) rfl (by kernel_rfl) (by rfl) ?_ (by assumption) ?_
              rotate_left
              · intro w hSw; (try dsimp only at hSw); go_simp; try (with_reducible rfl)
              simp only [Act.put, lsA, lsB, lsC]
              refine tkH (i := 21) (v := ?_) rfl (by kernel_rfl) (by rfl) ?_ (by assumption) ?_
              rotate_left
              · intro w hSw; (try dsimp only at hSw); go_simp; try (with_reducible rfl)
              simp only [Act.put, lsA, lsB, lsC]
              refine tkH (i := 22) (v := ?_) rfl (by kernel_rfl) (by rfl) ?_ (by assumption) ?_
              rotate_left
              · intro w hSw; (try dsimp only at hSw); go_simp; try (with_reducible rfl)
              simp only [Act.put, lsA, lsB, lsC]
              refine tkH (i := 23) (v := ?_) rfl (by kernel_rfl) (by rfl) ?_ (by assumption) ?_
              rotate_left
              · intro w hSw; (try dsimp only at hSw); go_simp; try (with_reducible rfl)
              simp only [Act.put, lsA, lsB, lsC]
              refine tkH (i := 24) (v := ?_) rfl (by kernel_rfl) (by rfl) ?_ (by assumption) ?_
              rotate_left
              · intro w hSw; (try dsimp only at hSw); go_simp; try (with_reducible rfl)
              simp only [Act.put, lsA, lsB, lsC]
              refine tkH (i := 25) (v := ?_) rfl (by kernel_rfl) (by rfl) ?_ (by assumption) ?_
              rotate_left
              · intro w hSw; (try dsimp only at hSw); go_simp; try (with_reducible rfl)
              simp only [Act.put, lsA, lsB, lsC]
              refine tkH (i := 26) (v := ?_) rfl (by kernel_rfl) (by rfl) ?_ (by assumption) ?_
              rotate_left
              · intro w hSw; (try dsimp only at hSw); go_simp; try (with_reducible rfl)
              simp only [Act.put, lsA, lsB, lsC]
              refine tkH (i := 27) (v := ?_) rfl (by kernel_rfl) (by rfl) ?_ (by assumption) ?_
              rotate_left
              · intro w hSw; (try dsimp only at hSw); go_simp; try (with_reducible rfl)
              simp only [Act.put, lsA, lsB, lsC]
              refine tkH (i := 28) (v := ?_) rfl (by kernel_rfl) (by rfl) ?_ (by assumption) ?_
              rotate_left
              · intro w hSw; (try dsimp only at hSw); go_simp; try (with_reducible rfl)
              simp only [Act.put, lsA, lsB, lsC]
              refine tkH (i := 29) (v := ?_) rfl (by kernel_rfl) (by rfl) ?_ (by assumption) ?_
              rotate_left
              · intro w hSw; (try dsimp only at hSw); go_simp; try (with_reducible rfl)
              simp only [Act.put, lsA, lsB, lsC]
              refine tkH (i := 30) (v := ?_) rfl (by kernel_rfl) (by rfl) ?_ (by assumption) ?_
              rotate_left
              · intro w hSw; (try dsimp only at hSw); go_simp; try (with_reducible rfl)
              simp only [Act.put, lsA, lsB, lsC]
              refine tkH (i := 31) (v := ?_) rfl (by kernel_rfl) (by rfl) ?_ (by assumption) ?_
              rotate_left
              · intro w hSw; (try dsimp only at hSw); go_simp; try (with_reducible rfl)
              simp only [Act.put, lsA, lsB, lsC]
              refine wpAnyH_ready (rs := [32]) (by kernel_rfl) (by simp) ?_
              refine AllReadyH.cons (o := ⟨some 62, .call { callee := Go.Callee.value (.func 24), args := #[.tmp 54, .tmp 61], argTypes := #[60, 60] }, 4, "sub.go:52", #[⟨24, .data⟩, ⟨31, .data⟩, ⟨17, .chain⟩, ⟨17, .guard⟩], some (17, true)⟩) rfl (fun K hK => ?_) AllReadyH.nil
              go_simp
              (refine (HO.out _ (Below.refl _ _).drew).mono ?_; rintro e w5 ⟨rfl, hb5⟩; have HB5 : Hid (Below W.heap.size W w5) := below_to (Below.refl _ _).drew hb5; clear hb5)
              go_wp2_with fail
              refine hK.out _ _ ?_ (fun hHeld => ?_)
              · exact HS7.out _ HB5.out
              clear hK K
              refine tkH (i := 33) (v := ?_) rfl (by kernel_rfl) (by rfl) ?_ (by assumption) ?_
              rotate_left
              · intro w hSw; (try dsimp only at hSw); go_simp; try (with_reducible rfl)
              simp only [Act.put, lsA, lsB, lsC]
              refine tkH (i := 34) (v := ?_) rfl (by kernel_rfl) (by rfl) ?_ (by assumption) ?_
              rotate_left
              · intro w hSw; (try dsimp only at hSw); go_simp; try (with_reducible rfl)
              simp only [Act.put, lsA, lsB, lsC]
              refine wpAnyH_done (by kernel_rfl) ?_ _
              refine Tame.normal ?_
              obtain ⟨y0, y1, y2, y3⟩ := HBL.out _ HB5.out
              have y4 := y3.cell
              have y5 := y3.frozen
              gi_wp2
              exact ⟨(KeepsOthers.of_below HB5.out).trans (KeepsOthers.setCell _ _ _), ⟨rfl, pre, _, rfl, HI.out.1, by show g ((i : Int), (j : Int)) = false; exact HGX.out, y3.set _⟩, y0.setCell (p := ⟨w.heap.size + 1 + 1, 0, none⟩) (by show _ ≤ w.heap.size + 1 + 1; omega) _⟩
          | false =>
            generalize hsb : t.sub u = sb at HO HGE
            cases sb with
            | true =>
              have HGX : Hid (g ((i : Int), (j : Int)) = true) := by show _ = _; rw [HGE.out]; rfl
              gi_wp2
              refine region_round (S := fun W' => W'.cell? ⟨w.heap.size, 0, none⟩ = some (.pointer (some ⟨ba, 0, none⟩)) ∧ W'.cell? ⟨w.heap.size + 1, 0, none⟩ = some (.pointer (some ⟨bb, 0, none⟩)) ∧ W'.cell? ⟨ba, 4, none⟩ = some (.slice (some ⟨g1, o1, none⟩) P.len acp) ∧ W'.cell? ⟨bb, 4, none⟩ = some (.slice (some ⟨g2, o2, none⟩) Q.len bcp) ∧ W'.cell? ⟨ba, 6, none⟩ = some (.slice (some ⟨g3, o3, none⟩) KA.length ack) ∧ W'.cell? ⟨bb, 6, none⟩ = some (.slice (some ⟨g4, o4, none⟩) KB.length bck) ∧ W'.cell? ⟨g1, o1 + i, none⟩ = some (.pointer (some ⟨b1, 0, none⟩)) ∧ W'.cell? ⟨g2, o2 + j, none⟩ = some (.pointer (some ⟨b2, 0, none⟩)) ∧ W'.cell? ⟨g3, o3 + i, none⟩ = some (.bool false) ∧ W'.cell? ⟨g4, o4 + j, none⟩ = some (.bool true)) (by kernel_rfl) (by kernel_rfl) (HS7.out _ (Below.refl _ _).drew) (fun hHeld => ?_)
              refine tkH (i := 0) (v := ?_) rfl (by kernel_rfl) (by rfl) ?_ (by assumption) ?_
              rotate_left
              · intro w hSw; (try dsimp only at hSw); go_simp; try (with_reducible rfl)
              simp only [Act.put, lsA, lsB, lsC]
              refine tkH (i := 1) (v := ?_) rfl (by kernel_rfl) (by rfl) ?_ (by assumption) ?_
              rotate_left
              · intro w hSw; (try dsimp only at hSw); go_simp; try (with_reducible rfl)
              simp only [Act.put, lsA, lsB, lsC]
              refine tkH (i := 2) (v := ?_) rfl (by kernel_rfl) (by rfl) ?_ (by assumption) ?_
              rotate_left
              · intro w hSw; (try dsimp only at hSw); go_simp; try (with_reducible rfl)
              simp only [Act.put, lsA, lsB, lsC]
              refine tkH (i := 3) (v := ?_) rfl (by kernel_rfl) (by rfl) ?_ (by assumption) ?_
              rotate_left
              · intro w hSw; (try dsimp only at hSw); go_simp; try (with_reducible rfl)
              simp only [Act.put, lsA, lsB, lsC]
              refine tkH (i := 4) (v := ?_) rfl (by kernel_rfl) (by rfl) ?_ (by assumption) ?_
              rotate_left
              · intro w hSw; (try dsimp only at hSw); go_simp; try (with_reducible rfl)
              simp only [Act.put, lsA, lsB, lsC]
              refine tkH (i := 5) (v := ?_) rfl (by kernel_rfl) (by rfl) ?_ (by assumption) ?_
              rotate_left
              · intro w hSw; (try dsimp only at hSw); go_simp; try (with_reducible rfl)
              simp only [Act.put, lsA, lsB, lsC]
              refine tkH (i := 6) (v := ?_) rfl (by kernel_rfl) (by rfl) ?_ (by assumption) ?_
              rotate_left
              · intro w hSw; (try dsimp only at hSw); go_simp; try (with_reducible rfl)
              simp only [Act.put, lsA, lsB, lsC]
              refine tkH (i := 7) (v := ?_) rfl (by kernel_rfl) (by rfl) ?_ (by assumption) ?_
              rotate_left
              · intro w hSw; (try dsimp only at hSw); go_simp; try (with_reducible rfl)
              simp only [Act.put, lsA, lsB, lsC]
              refine tkN (i := 8) rfl (by kernel_rfl) (by rfl) (by assumption) ?_
              simp only [Act.put, lsA, lsB, lsC]
              refine tkN (i := 9) rfl (by kernel_rfl) (by rfl) (by assumption) ?_
              simp only [Act.put, lsA, lsB, lsC]
              refine tkN (i := 10) rfl (by kernel_rfl) (by rfl) (by assumption) ?_
              simp only [Act.put, lsA, lsB, lsC]
              refine tkN (i := 11) rfl (by kernel_rfl) (by rfl) (by assumption) ?_
              simp only [Act.put, lsA, lsB, lsC]
              refine tkN (i := 12) rfl (by kernel_rfl) (by rfl) (by assumption) ?_
              simp only [Act.put, lsA, lsB, lsC]
              refine tkN (i := 13) rfl (by kernel_rfl) (by rfl) (by assumption) ?_
              simp only [Act.put, lsA, lsB, lsC]
              refine tkN (i := 14) rfl (by kernel_rfl) (by rfl) (by assumption) ?_
              simp only [Act.put, lsA, lsB, lsC]
              refine tkN (i := 15) rfl (by kernel_rfl) (by rfl) (by assumption) ?_
              simp only [Act.put, lsA, lsB, lsC]
              refine tkH (i := 16) (v := ?_) rfl (by kernel_rfl) (by rfl) ?_ (by assumption) ?_
              rotate_left
              · intro w hSw; (try dsimp only at hSw); go_simp; try (with_reducible rfl)
              simp only [Act.put, lsA, lsB, lsC]
              refine tkH (i := 17) (v := ?_) rfl (by kernel_rfl) (by rfl) ?_ (by assumption) ?_
              rotate_left
              · intro w hSw; (try dsimp only at hSw); go_simp; try (with_reducible rfl)
              simp only [Act.put, lsA, lsB, lsC]
              refine tkH (i := 18) (v := ?_) rfl (by kernel_rfl) (by rfl) ?_ (by assumption) ?_
              rotate_left
              · intro w hSw; (try dsimp only at hSw); go_simp; try (with_reducible rfl)
              simp only [Act.put, lsA, lsB, lsC]
              refine tkH (i := 19) (v := ?_) rfl (by kernel_rfl) (by rfl) ?_ (by assumption) ?_
              rotate_left
              · intro w hSw; (try dsimp only at hSw); go_simp; try (with_reducible rfl)
              simp only [Act.put, lsA, lsB, lsC]
              refine tkH (i := 20) (v := ?_) rfl (by kernel_rfl) (by rfl) ?_ (by assumption) ?_
              rotate_left
              · intro w hSw; (try dsimp only at hSw); go_simp; try (with_reducible rfl)
              simp only [Act.put, lsA, lsB, lsC]
              refine tkH (i := 21) (v := ?_) rfl (by kernel_rfl) (by rfl) ?_ (by assumption) ?_
              rotate_left
              · intro w hSw; (try dsimp only at hSw); go_simp; try (with_reducible rfl)
              simp only [Act.put, lsA, lsB, lsC]
              refine tkH (i := 22) (v := ?_) rfl (by kernel_rfl) (by rfl) ?_ (by assumption) ?_
              rotate_left
              · intro w hSw; (try dsimp only at hSw); go_simp; try (with_reducible rfl)
              simp only [Act.put, lsA, lsB, lsC]
              refine tkH (i := 23) (v := ?_) rfl (by kernel_rfl) (by rfl) ?_ (by assumption) ?_
              rotate_left
              · intro w hSw; (try dsimp only at hSw); go_simp; try (with_reducible rfl)
              simp only [Act.put, lsA, lsB, lsC]
              refine tkH (i := 24) (v := ?_) rfl (by kernel_rfl) (by rfl) ?_ (by assumption) ?_
              rotate_left
              · intro w hSw; (try dsimp only at hSw); go_simp; try (with_reducible rfl)
              simp only [Act.put, lsA, lsB, lsC]
              refine tkH (i := 25) (v := ?_) rfl (by kernel_rfl) (by rfl) ?_ (by assumption) ?_
              rotate_left
              · intro w hSw; (try dsimp only at hSw); go_simp; try (with_reducible rfl)
              simp only [Act.put, lsA, lsB, lsC]
              refine tkH (i := 26) (v := ?_) rfl (by kernel_rfl) (by rfl) ?_ (by assumption) ?_
              rotate_left
              · intro w hSw; (try dsimp only at hSw); go_simp; try (with_reducible rfl)
              simp only [Act.put, lsA, lsB, lsC]
              refine tkH (i := 27) (v := ?_) rfl (by kernel_rfl) (by rfl) ?_ (by assumption) ?_
              rotate_left
              · intro w hSw; (try dsimp only at hSw); go_simp; try (with_reducible rfl)
              simp only [Act.put, lsA, lsB, lsC]
              refine tkH (i := 28) (v := ?_) rfl (by kernel_rfl) (by rfl) ?_ (by assumption) ?_
              rotate_left
              · intro w hSw; (try dsimp only at hSw); go_simp; try (with_reducible rfl)
              simp only [Act.put, lsA, lsB, lsC]
              refine tkH (i := 29) (v := ?_) rfl (by kernel_rfl) (by rfl) ?_ (by assumption) ?_
              rotate_left
              · intro w hSw; (try dsimp only at hSw); go_simp; try (with_reducible rfl)
              simp only [Act.put, lsA, lsB, lsC]
              refine tkH (i := 30) (v := ?_) rfl (by kernel_rfl) (by rfl) ?_ (by assumption) ?_
              rotate_left
              · intro w hSw; (try dsimp only at hSw); go_simp; try (with_reducible rfl)
              simp only [Act.put, lsA, lsB, lsC]
              refine tkH (i := 31) (v := ?_) rfl (by kernel_rfl) (by rfl) ?_ (by assumption) ?_
              rotate_left
              · intro w hSw; (try dsimp only at hSw); go_simp; try (with_reducible rfl)
              simp only [Act.put, lsA, lsB, lsC]
              refine wpAnyH_ready (rs := [32]) (by kernel_rfl) (by simp) ?_
              refine AllReadyH.cons (o := ⟨some 62, .call { callee := Go.Callee.value (.func 24), args := #[.tmp 54, .tmp 61], argTypes := #[60, 60] }, 4, "sub.go:52", #[⟨24, .data⟩, ⟨31, .data⟩, ⟨17, .chain⟩, ⟨17, .guard⟩], some (17, true)⟩) rfl (fun K hK => ?_) AllReadyH.nil
              go_simp
              (refine (HO.out _ (Below.refl _ _).drew).mono ?_; rintro e w5 ⟨rfl, hb5⟩; have HB5 : Hid (Below W.heap.size W w5) := below_to (Below.refl _ _).drew hb5; clear hb5)
              go_wp2_with fail
              refine hK.out _ _ ?_ (fun hHeld => ?_)
              · exact HS7.out _ HB5.out
              clear hK K
              refine tkH (i := 33) (v := ?_) rfl (by kernel_rfl) (by rfl) ?_ (by assumption) ?_
              rotate_left
              · intro w hSw; (try dsimp only at hSw); go_simp; try (with_reducible rfl)
              simp only [Act.put, lsA, lsB, lsC]
              refine tkH (i := 34) (v := ?_) rfl (by kernel_rfl) (by rfl) ?_ (by assumption) ?_
              rotate_left
              · intro w hSw; (try dsimp only at hSw); go_simp; try (with_reducible rfl)
              simp only [Act.put, lsA, lsB, lsC]
              refine wpAnyH_done (by kernel_rfl) ?_ _
              refine Tame.normal ?_
              obtain ⟨y0, y1, y2, y3⟩ := HBL.out _ HB5.out
              gi_wp2
              exact ⟨KeepsOthers.of_below HB5.out, HB5.out.mono HBV.out.size, ⟨all_snocB HI.out.1 (by show g ((i : Int), (j : Int)) = true; exact HGX.out), y1, y2, y3⟩, HBV.out.trans (HB5.out.mono HBV.out.size)⟩
            | false =>
              have HGX : Hid (g ((i : Int), (j : Int)) = false) := by show _ = _; rw [HGE.out]; rfl
              gi_wp2
              refine region_round (S := fun W' => W'.cell? ⟨w.heap.size, 0, none⟩ = some (.pointer (some ⟨ba, 0, none⟩)) ∧ W'.cell? ⟨w.heap.size + 1, 0, none⟩ = some (.pointer (some ⟨bb, 0, none⟩)) ∧ W'.cell? ⟨ba, 4, none⟩ = some (.slice (some ⟨g1, o1, none⟩) P.len acp) ∧ W'.cell? ⟨bb, 4, none⟩ = some (.slice (some ⟨g2, o2, none⟩) Q.len bcp) ∧ W'.cell? ⟨ba, 6, none⟩ = some (.slice (some ⟨g3, o3, none⟩) KA.length ack) ∧ W'.cell? ⟨bb, 6, none⟩ = some (.slice (some ⟨g4, o4, none⟩) KB.length bck) ∧ W'.cell? ⟨g1, o1 + i, none⟩ = some (.pointer (some ⟨b1, 0, none⟩)) ∧ W'.cell? ⟨g2, o2 + j, none⟩ = some (.pointer (some ⟨b2, 0, none⟩)) ∧ W'.cell? ⟨g3, o3 + i, none⟩ = some (.bool false) ∧ W'.cell? ⟨g4, o4 + j, none⟩ = some (.bool true)) (by kernel_rfl) (by kernel_rfl) (HS7.out _ (Below.refl _ _).drew) (fun hHeld => ?_)
              refine tkH (i := 0) (v := ?_) rfl (by kernel_rfl) (by rfl) ?_ (by assumption) ?_
              rotate_left
              · intro w hSw; (try dsimp only at hSw); go_simp; try (with_reducible rfl)
              simp only [Act.put, lsA, lsB, lsC]
              refine tkH (i := 1) (v := ?_) rfl (by kernel_rfl) (by rfl) ?_ (by assumption) ?_
              rotate_left
              · intro w hSw; (try dsimp only at hSw); go_simp; try (with_reducible rfl)
              simp only [Act.put, lsA, lsB, lsC]
              refine tkH (i := 2) (v := ?_) rfl (by kernel_rfl) (by rfl) ?_ (by assumption) ?_
              rotate_left
              · intro w hSw; (try dsimp only at hSw); go_simp; try (with_reducible rfl)
              simp only [Act.put, lsA, lsB, lsC]
              refine tkH (i := 3) (v := ?_) rfl (by kernel_rfl) (by rfl) ?_ (by assumption) ?_
              rotate_left
              · intro w hSw; (try dsimp only at hSw); go_simp; try (with_reducible rfl)
              simp only [Act.put, lsA, lsB, lsC]
              refine tkH (i := 4) (v := ?_) rfl (by kernel_rfl) (by rfl) ?_ (by assumption) ?_
              rotate_left
              · intro w hSw; (try dsimp only at hSw); go_simp; try (with_reducible rfl)
              simp only [Act.put, lsA, lsB, lsC]
              refine tkH (i := 5) (v := ?_) rfl (by kernel_rfl) (by rfl) ?_ (by assumption) ?_
              rotate_left
              · intro w hSw; (try dsimp only at hSw); go_simp; try (with_reducible rfl)
              simp only [Act.put, lsA, lsB, lsC]
              refine tkH (i := 6) (v := ?_) rfl (by kernel_rfl) (by rfl) ?_ (by assumption) ?_
              rotate_left
              · intro w hSw; (try dsimp only at hSw); go_simp; try (with_reducible rfl)
              simp only [Act.put, lsA, lsB, lsC]
              refine tkH (i := 7) (v := ?_) rfl (by kernel_rfl) (by rfl) ?_ (by assumption) ?_
              rotate_left
              · intro w hSw; (try dsimp only at hSw); go_simp; try (with_reducible rfl)
              simp only [Act.put, lsA, lsB, lsC]
              refine tkN (i := 8) rfl (by kernel_rfl) (by rfl) (by assumption) ?_
              simp only [Act.put, lsA, lsB, lsC]
              refine tkN (i := 9) rfl (by kernel_rfl) (by rfl) (by assumption) ?_
              simp only [Act.put, lsA, lsB, lsC]
              refine tkN (i := 10) rfl (by kernel_rfl) (by rfl) (by assumption) ?_
              simp only [Act.put, lsA, lsB, lsC]
              refine tkN (i := 11) rfl (by kernel_rfl) (by rfl) (by assumption) ?_
              simp only [Act.put, lsA, lsB, lsC]
              refine tkN (i := 12) rfl (by kernel_rfl) (by rfl) (by assumption) ?_
              simp only [Act.put, lsA, lsB, lsC]
              refine tkN (i := 13) rfl (by kernel_rfl) (by rfl) (by assumption) ?_
              simp only [Act.put, lsA, lsB, lsC]
              refine tkN (i := 14) rfl (by kernel_rfl) (by rfl) (by assumption) ?_
              simp only [Act.put, lsA, lsB, lsC]
              refine tkN (i := 15) rfl (by kernel_rfl) (by rfl) (by assumption) ?_
              simp only [Act.put, lsA, lsB, lsC]
              refine tkH (i := 16) (v := ?_) rfl (by kernel_rfl) (by rfl) ?_ (by assumption) ?_
              rotate_left
              · intro w hSw; (try dsimp only at hSw); go_simp; try (with_reducible rfl)
              simp only [Act.put, lsA, lsB, lsC]
              refine tkH (i := 17) (v := ?_) rfl (by kernel_rfl) (by rfl) ?_ (by assumption) ?_
              rotate_left
              · intro w hSw; (try dsimp only at hSw); go_simp; try (with_reducible rfl)
              simp only [Act.put, lsA, lsB, lsC]
              refine tkH (i := 18) (v := ?_) rfl (by kernel_rfl) (by rfl) ?_ (by assumption) ?_
              rotate_left
              · intro w hSw; (try dsimp only at hSw); go_simp; try (with_reducible rfl)
              simp only [Act.put, lsA, lsB, lsC]
              refine tkH (i := 19) (v := ?_) rfl (by kernel_rfl) (by rfl) ?_ (by assumption) ?_
              rotate_left
              · intro w hSw; (try dsimp only at hSw); go_simp; try (with_reducible rfl)
              simp only [Act.put, lsA, lsB, lsC]
              refine tkH (i := 20) (v := ?_) rfl (by kernel_rfl) (by rfl) ?_ (by assumption) ?_
              rotate_left
              · intro w hSw; (try dsimp only at hSw); go_simp; try (with_reducible rfl)
              simp only [Act.put, lsA, lsB, lsC]
              refine tkH (i := 21) (v := ?_) rfl (by kernel_rfl) (by rfl) ?_ (by assumption) ?_
              rotate_left
              · intro w hSw; (try dsimp only at hSw); go_simp; try (with_reducible rfl)
              simp only [Act.put, lsA, lsB, lsC]
              refine tkH (i := 22) (v := ?_) rfl (by kernel_rfl) (by rfl) ?_ (by assumption) ?_
              rotate_left
              · intro w hSw; (try dsimp only at hSw); go_simp; try (with_reducible rfl)
              simp only [Act.put, lsA, lsB, lsC]
              refine tkH (i := 23) (v := ?_) rfl (by kernel_rfl) (by rfl) ?_ (by assumption) ?_
              rotate_left
              · intro w hSw; (try dsimp only at hSw); go_simp; try (with_reducible rfl)
              simp only [Act.put, lsA, lsB, lsC]
              refine tkH (i := 24) (v := ?_) rfl (by kernel_rfl) (by rfl) ?_ (by assumption) ?_
              rotate_left
              · intro w hSw; (try dsimp only at hSw); go_simp; try (with_reducible rfl)
              simp only [Act.put, lsA, lsB, lsC]
              refine tkH (i := 25) (v := ?_) rfl (by kernel_rfl) (by rfl) ?_ (by assumption) ?_
              rotate_left
              · intro w hSw; (try dsimp only at hSw); go_simp; try (with_reducible rfl)
              simp only [Act.put, lsA, lsB, lsC]
              refine tkH (i := 26) (v := ?_) rfl (by kernel_rfl) (by rfl) ?_ (by assumption) ?_
              rotate_left
              · intro w hSw; (try dsimp only at hSw); go_simp; try (with_reducible rfl)
              simp only [Act.put, lsA, lsB, lsC]
              refine tkH (i := 27) (v := ?_) rfl (by kernel_rfl) (by rfl) ?_ (by assumption) ?_
              rotate_left
              · intro w hSw; (try dsimp only at hSw); go_simp; try (with_reducible rfl)
              simp only [Act.put, lsA, lsB, lsC]
              refine tkH (i := 28) (v := ?_) rfl (by kernel_rfl) (by rfl) ?_ (by assumption) ?_
              rotate_left
              · intro w hSw; (try dsimp only at hSw); go_simp; try (with_reducible rfl)
              simp only [Act.put, lsA, lsB, lsC]
              refine tkH (i := 29) (v := ?_) rfl (by kernel_rfl) (by rfl) ?_ (by assumption) ?_
              rotate_left
              · intro w hSw; (try dsimp only at hSw); go_simp; try (with_reducible rfl)
              simp only [Act.put, lsA, lsB, lsC]
              refine tkH (i := 30) (v := ?_) rfl (by kernel_rfl) (by rfl) ?_ (by assumption) ?_
              rotate_left
              · intro w hSw; (try dsimp only at hSw); go_simp; try (with_reducible rfl)
              simp only [Act.put, lsA, lsB, lsC]
              refine tkH (i := 31) (v := ?_) rfl (by kernel_rfl) (by rfl) ?_ (by assumption) ?_
              rotate_left
              · intro w hSw; (try dsimp only at hSw); go_simp; try (with_reducible rfl)
              simp only [Act.put, lsA, lsB, lsC]
              refine wpAnyH_ready (rs := [32]) (by kernel_rfl) (by simp) ?_
              refine AllReadyH.cons (o := ⟨some 62, .call { callee := Go.Callee.value (.func 24), args := #[.tmp 54, .tmp 61], argTypes := #[60, 60] }, 4, "sub.go:52", #[⟨24, .data⟩, ⟨31, .data⟩, ⟨17, .chain⟩, ⟨17, .guard⟩], some (17, true)⟩) rfl (fun K hK => ?_) AllReadyH.nil
              go_simp
              (refine (HO.out _ (Below.refl _ _).drew).mono ?_; rintro e w5 ⟨rfl, hb5⟩; have HB5 : Hid (Below W.heap.size W w5) := below_to (Below.refl _ _).drew hb5; clear hb5)
              go_wp2_with fail
              refine hK.out _ _ ?_ (fun hHeld => ?_)
              · exact HS7.out _ HB5.out
              clear hK K
              refine tkH (i := 33) (v := ?_) rfl (by kernel_rfl) (by rfl) ?_ (by assumption) ?_
              rotate_left
              · intro w hSw; (try dsimp only at hSw); go_simp; try (with_reducible rfl)
              simp only [Act.put, lsA, lsB, lsC]
              refine tkH (i := 34) (v := ?_) rfl (by kernel_rfl) (by rfl) ?_ (by assumption) ?_
              rotate_left
              · intro w hSw; (try dsimp only at hSw); go_simp; try (with_reducible rfl)
              simp only [Act.put, lsA, lsB, lsC]
              refine wpAnyH_done (by kernel_rfl) ?_ _
              refine Tame.normal ?_
              obtain ⟨y0, y1, y2, y3⟩ := HBL.out _ HB5.out
              have y4 := y3.cell
              have y5 := y3.frozen
              gi_wp2
              exact ⟨(KeepsOthers.of_below HB5.out).trans (KeepsOthers.setCell _ _ _), ⟨rfl, pre, _, rfl, HI.out.1, by show g ((i : Int), (j : Int)) = false; exact HGX.out, y3.set _⟩, y0.setCell (p := ⟨w.heap.size + 1 + 1, 0, none⟩) (by show _ ≤ w.heap.size + 1 + 1; omega) _⟩
        | false =>
          cases ka with
          | true =>
            have HGX : Hid (g ((i : Int), (j : Int)) = false) := by show _ = _; rw [HGE.out]; rfl
            gi_wp2
            refine region_round (S := fun W' => W'.cell? ⟨w.heap.size, 0, none⟩ = some (.pointer (some ⟨ba, 0, none⟩)) ∧ W'.cell? ⟨w.heap.size + 1, 0, none⟩ = some (.pointer (some ⟨bb, 0, none⟩)) ∧ W'.cell? ⟨ba, 4, none⟩ = some (.slice (some ⟨g1, o1, none⟩) P.len acp) ∧ W'.cell? ⟨bb, 4, none⟩ = some (.slice (some ⟨g2, o2, none⟩) Q.len bcp) ∧ W'.cell? ⟨ba, 6, none⟩ = some (.slice (some ⟨g3, o3, none⟩) KA.length ack) ∧ W'.cell? ⟨bb, 6, none⟩ = some (.slice (some ⟨g4, o4, none⟩) KB.length bck) ∧ W'.cell? ⟨g1, o1 + i, none⟩ = some (.pointer (some ⟨b1, 0, none⟩)) ∧ W'.cell? ⟨g2, o2 + j, none⟩ = some (.pointer (some ⟨b2, 0, none⟩)) ∧ W'.cell? ⟨g3, o3 + i, none⟩ = some (.bool true) ∧ W'.cell? ⟨g4, o4 + j, none⟩ = some (.bool false)) (by kernel_rfl) (by kernel_rfl) (HS7.out _ (Below.refl _ _).drew) (fun hHeld => ?_)
            refine tkH (i := 0) (v := ?_) rfl (by kernel_rfl) (by rfl) ?_ (by assumption) ?_
            rotate_left
            · intro w hSw; (try dsimp only at hSw); go_simp; try (with_reducible rfl)
            simp only [Act.put, lsA, lsB, lsC]
            refine tkH (i := 1) (v := ?_) rfl (by kernel_rfl) (by rfl) ?_ (by assumption) ?_
            rotate_left
            · intro w hSw; (try dsimp only at hSw); go_simp; try (with_reducible rfl)
            simp only [Act.put, lsA, lsB, lsC]
            refine tkH (i := 2) (v := ?_) rfl (by kernel_rfl) (by rfl) ?_ (by assumption) ?_
            rotate_left
            · intro w hSw; (try dsimp only at hSw); go_simp; try (with_reducible rfl)
            simp only [Act.put, lsA, lsB, lsC]
            refine tkH (i := 3) (v := ?_) rfl (by kernel_rfl) (by rfl) ?_ (by assumption) ?_
            rotate_left
            · intro w hSw; (try dsimp only at hSw); go_simp; try (with_reducible rfl)
            simp only [Act.put, lsA, lsB, lsC]
            refine tkH (i := 4) (v := ?_) rfl (by kernel_rfl) (by rfl) ?_ (by assumption) ?_
            rotate_left
            · intro w hSw; (try dsimp only at hSw); go_simp; try (with_reducible rfl)
            simp only [Act.put, lsA, lsB, lsC]
            refine tkH (i := 5) (v := ?_) rfl (by kernel_rfl) (by rfl) ?_ (by assumption) ?_
            rotate_left
            · intro w hSw; (try dsimp only at hSw); go_simp; try (with_reducible rfl)
            simp only [Act.put, lsA, lsB, lsC]
            refine tkH (i := 6) (v := ?_) rfl (by kernel_rfl) (by rfl) ?_ (by assumption) ?_
            rotate_left
            · intro w hSw; (try dsimp only at hSw); go_simp; try (with_reducible rfl)
            simp only [Act.put, lsA, lsB, lsC]
            refine tkH (i := 7) (v := ?_) rfl (by kernel_rfl) (by rfl) ?_ (by assumption) ?_
            rotate_left
            · intro w hSw; (try dsimp only at hSw); go_simp; try (with_reducible rfl)
            simp only [Act.put, lsA, lsB, lsC]
            refine tkH (i := 8) (v := ?_) rfl (by kernel_rfl) (by rfl) ?_ (by assumption) ?_
            rotate_left
            · intro w hSw; (try dsimp only at hSw); go_simp; try (with_reducible rfl)
            simp only [Act.put, lsA, lsB, lsC]
            refine tkH (i := 9) (v := ?_) rfl (by kernel_rfl) (by rfl) ?_ (by assumption) ?_
            rotate_left
            · intro w hSw; (try dsimp only at hSw); go_simp; try (with_reducible rfl)
            simp only [Act.put, lsA, lsB, lsC]
            refine tkH (i := 10) (v := ?_) rfl (by kernel_rfl) (by rfl) ?_ (by assumption) ?_
            rotate_left
            · intro w hSw; (try dsimp only at hSw); go_simp; try (with_reducible rfl)
            simp only [Act.put, lsA, lsB, lsC]
            refine tkH (i := 11) (v := ?_) rfl (by kernel_rfl) (by rfl) ?_ (by assumption) ?_
            rotate_left
            · intro w hSw; (try dsimp only at hSw); go_simp; try (with_reducible rfl)
            simp only [Act.put, lsA, lsB, lsC]
            refine tkH (i := 12) (v := ?_) rfl (by kernel_rfl) (by rfl) ?_ (by assumption) ?_
            rotate_left
            · intro w hSw; (try dsimp only at hSw); go_simp; try (with_reducible rfl)
            simp only [Act.put, lsA, lsB, lsC]
            refine tkH (i := 13) (v := ?_) rfl (by kernel_rfl) (by rfl) ?_ (by assumption) ?_
            rotate_left
            · intro w hSw; (try dsimp only at hSw); go_simp; try (with_reducible rfl)
            simp only [Act.put, lsA, lsB, lsC]
            refine tkH (i := 14) (v := ?_) rfl (by kernel_rfl) (by rfl) ?_ (by assumption) ?_
            rotate_left
            · intro w hSw; (try dsimp only at hSw); go_simp; try (with_reducible rfl)
            simp only [Act.put, lsA, lsB, lsC]
            refine tkH (i := 15) (v := ?_) rfl (by kernel_rfl) (by rfl) ?_ (by assumption) ?_
            rotate_left
            · intro w hSw; (try dsimp only at hSw); go_simp; try (with_reducible rfl)
            simp only [Act.put, lsA, lsB, lsC]
            refine tkH (i := 16) (v := ?_) rfl (by kernel_rfl) (by rfl) ?_ (by assumption) ?_
            rotate_left
            · intro w hSw; (try dsimp only at hSw); go_simp; try (with_reducible rfl)
            simp only [Act.put, lsA, lsB, lsC]
            refine tkH (i := 17) (v := ?_) rfl (by kernel_rfl) (by rfl) ?_ (by assumption) ?_
            rotate_left
            · intro w hSw; (try dsimp only at hSw); go_simp; try (with_reducible rfl)
            simp only [Act.put, lsA, lsB, lsC]
            refine tkN (i := 18) rfl (by kernel_rfl) (by rfl) (by assumption) ?_
            simp only [Act.put, lsA, lsB, lsC]
            refine tkN (i := 19) rfl (by kernel_rfl) (by rfl) (by assumption) ?_
            simp only [Act.put, lsA, lsB, lsC]
            refine tkN (i := 20) rfl (by kernel_rfl) (by rfl) (by assumption) ?_
            simp only [Act.put, lsA, lsB, lsC]
            refine tkN (i := 21) rfl (by kernel_rfl) (by rfl) (by assumption) ?_
            simp only [Act.put, lsA, lsB, lsC]
            refine tkN (i := 22) rfl (by kernel_rfl) (by rfl) (by assumption) ?_
            simp only [Act.put, lsA, lsB, lsC]
            refine tkN (i := 23) rfl (by kernel_rfl) (by rfl) (by assumption) ?_
            simp only [Act.put, lsA, lsB, lsC]
            refine tkN (i := 24) rfl (by kernel_rfl) (by rfl) (by assumption) ?_
            simp only [Act.put, lsA, lsB, lsC]
            refine tkN (i := 25) rfl (by kernel_rfl) (by rfl) (by assumption) ?_
            simp only [Act.put, lsA, lsB, lsC]
            refine tkN (i := 26) rfl (by kernel_rfl) (by rfl) (by assumption) ?_
            simp only [Act.put, lsA, lsB, lsC]
            refine tkN (i := 27) rfl (by kernel_rfl) (by rfl) (by assumption) ?_
            simp only [Act.put, lsA, lsB, lsC]
            refine tkN (i := 28) rfl (by kernel_rfl) (by rfl) (by assumption) ?_
            simp only [Act.put, lsA, lsB, lsC]
            refine tkN (i := 29) rfl (by kernel_rfl) (by rfl) (by assumption) ?_
            simp only [Act.put, lsA, lsB, lsC]
            refine tkN (i := 30) rfl (by kernel_rfl) (by rfl) (by assumption) ?_
            simp only [Act.put, lsA, lsB, lsC]
            refine tkN (i := 31) rfl (by kernel_rfl) (by rfl) (by assumption) ?_
            simp only [Act.put, lsA, lsB, lsC]
            refine tkN (i := 32) rfl (by kernel_rfl) (by rfl) (by assumption) ?_
            simp only [Act.put, lsA, lsB, lsC]
            refine tkH (i := 33) (v := ?_) rfl (by kernel_rfl) (by rfl) ?_ (by assumption) ?_
            rotate_left
            · intro w hSw; (try dsimp only at hSw); go_simp; try (with_reducible rfl)
            simp only [Act.put, lsA, lsB, lsC]
            refine tkH (i := 34) (v := ?_) rfl (by kernel_rfl) (by rfl) ?_ (by assumption) ?_
            rotate_left
            · intro w hSw; (try dsimp only at hSw); go_simp; try (with_reducible rfl)
            simp only [Act.put, lsA, lsB, lsC]
            refine wpAnyH_done (by kernel_rfl) ?_ _
            refine Tame.normal ?_
            have HB5 : Hid (Below W.heap.size W W.drew) := (Below.refl _ _).drew
            obtain ⟨y0, y1, y2, y3⟩ := HBL.out _ HB5.out
            have y4 := y3.cell
            have y5 := y3.frozen
            gi_wp2
            exact ⟨(KeepsOthers.of_below HB5.out).trans (KeepsOthers.setCell _ _ _), ⟨rfl, pre, _, rfl, HI.out.1, by show g ((i : Int), (j : Int)) = false; exact HGX.out, y3.set _⟩, y0.setCell (p := ⟨w.heap.size + 1 + 1, 0, none⟩) (by show _ ≤ w.heap.size + 1 + 1; omega) _⟩
          | false =>
            generalize hsb : t.sub u = sb at HO HGE
            cases sb with
            | true =>
              have HGX : Hid (g ((i : Int), (j : Int)) = true) := by show _ = _; rw [HGE.out]; rfl
              gi_wp2
              refine region_round (S := fun W' => W'.cell? ⟨w.heap.size, 0, none⟩ = some (.pointer (some ⟨ba, 0, none⟩)) ∧ W'.cell? ⟨w.heap.size + 1, 0, none⟩ = some (.pointer (some ⟨bb, 0, none⟩)) ∧ W'.cell? ⟨ba, 4, none⟩ = some (.slice (some ⟨g1, o1, none⟩) P.len acp) ∧ W'.cell? ⟨bb, 4, none⟩ = some (.slice (some ⟨g2, o2, none⟩) Q.len bcp) ∧ W'.cell? ⟨ba, 6, none⟩ = some (.slice (some ⟨g3, o3, none⟩) KA.length ack) ∧ W'.cell? ⟨bb, 6, none⟩ = some (.slice (some ⟨g4, o4, none⟩) KB.length bck) ∧ W'.cell? ⟨g1, o1 + i, none⟩ = some (.pointer (some ⟨b1, 0, none⟩)) ∧ W'.cell? ⟨g2, o2 + j, none⟩ = some (.pointer (some ⟨b2, 0, none⟩)) ∧ W'.cell? ⟨g3, o3 + i, none⟩ = some (.bool false) ∧ W'.cell? ⟨g4, o4 + j, none⟩ = some (.bool false)) (by kernel_rfl) (by kernel_rfl) (HS7.out _ (Below.refl _ _).drew) (fun hHeld => ?_)
              refine tkH (i := 0) (v := ?_) rfl (by kernel_rfl) (by rfl) ?_ (by assumption) ?_
              rotate_left
              · intro w hSw; (try dsimp only at hSw); go_simp; try (with_reducible rfl)
              simp only [Act.put, lsA, lsB, lsC]
              refine tkH (i := 1) (v := ?_) rfl (by kernel_rfl) (by rfl) ?_ (by assumption) ?_
              rotate_left
              · intro w hSw; (try dsimp only at hSw); go_simp; try (with_reducible rfl)
              simp only [Act.put, lsA, lsB, lsC]
              refine tkH (i := 2) (v := ?_) rfl (by kernel_rfl) (by rfl) ?_ (by assumption) ?_
              rotate_left
              · intro w hSw; (try dsimp only at hSw); go_simp; try (with_reducible rfl)
              simp only [Act.put, lsA, lsB, lsC]
              refine tkH (i := 3) (v := ?_) rfl (by kernel_rfl) (by rfl) ?_ (by assumption) ?_
              rotate_left
              · intro w hSw; (try dsimp only at hSw); go_simp; try (with_reducible rfl)
              simp only [Act.put, lsA, lsB, lsC]
              refine tkH (i := 4) (v := ?_) rfl (by kernel_rfl) (by rfl) ?_ (by assumption) ?_
              rotate_left
              · intro w hSw; (try dsimp only at hSw); go_simp; try (with_reducible rfl)
              simp only [Act.put, lsA, lsB, lsC]
              refine tkH (i := 5) (v := ?_) rfl (by kernel_rfl) (by rfl) ?_ (by assumption) ?_
              rotate_left
              · intro w hSw; (try dsimp only at hSw); go_simp; try (with_reducible rfl)
              simp only [Act.put, lsA, lsB, lsC]
              refine tkH (i := 6) (v := ?_) rfl (by kernel_rfl) (by rfl) ?_ (by assumption) ?_
              rotate_left
              · intro w hSw; (try dsimp only at hSw); go_simp; try (with_reducible rfl)
              simp only [Act.put, lsA, lsB, lsC]
              refine tkH (i := 7) (v := ?_) rfl (by kernel_rfl) (by rfl) ?_ (by assumption) ?_
              rotate_left
              · intro w hSw; (try dsimp only at hSw); go_simp; try (with_reducible rfl)
              simp only [Act.put, lsA, lsB, lsC]
              refine tkH (i := 8) (v := ?_) rfl (by kernel_rfl) (by rfl) ?_ (by assumption) ?_
              rotate_left
              · intro w hSw; (try dsimp only at hSw); go_simp; try (with_reducible rfl)
              simp only [Act.put, lsA, lsB, lsC]
              refine tkH (i := 9) (v := ?_) rfl (by kernel_rfl) (by rfl) ?_ (by assumption) ?_
              rotate_left
              · intro w hSw; (try dsimp only at hSw); go_simp; try (with_reducible rfl)
              simp only [Act.put, lsA, lsB, lsC]
              refine tkH (i := 10) (v := ?_) rfl (by kernel_rfl) (by rfl) ?_ (by assumption) ?_
              rotate_left
              · intro w hSw; (try dsimp only at hSw); go_simp; try (with_reducible rfl)
              simp only [Act.put, lsA, lsB, lsC]
              refine tkH (i := 11) (v := ?_) rfl (by kernel_rfl) (by rfl) ?_ (by assumption) ?_
              rotate_left
              · intro w hSw; (try dsimp only at hSw); go_simp; try (with_reducible rfl)
              simp only [Act.put, lsA, lsB, lsC]
              refine tkH (i := 12) (v := ?_) rfl (by kernel_rfl) (by rfl) ?_ (by assumption) ?_
              rotate_left
              · intro w hSw; (try dsimp only at hSw); go_simp; try (with_reducible rfl)
              simp only [Act.put, lsA, lsB, lsC]
              refine tkH (i := 13) (v := ?_) rfl (by kernel_rfl) (by rfl) ?_ (by assumption) ?_
              rotate_left
              · intro w hSw; (try dsimp only at hSw); go_simp; try (with_reducible rfl)
              simp only [Act.put, lsA, lsB, lsC]
              refine tkH (i := 14) (v := ?_) rfl (by kernel_rfl) (by rfl) ?_ (by assumption) ?_
              rotate_left
              · intro w hSw; (try dsimp only at hSw); go_simp; try (with_reducible rfl)
              simp only [Act.put, lsA, lsB, lsC]
              refine tkH (i := 15) (v := ?_) rfl (by kernel_rfl) (by rfl) ?_ (by assumption) ?_
              rotate_left
              · intro w hSw; (try dsimp only at hSw); go_simp; try (with_reducible rfl)
              simp only [Act.put, lsA, lsB, lsC]
              refine tkH (i := 16) (v := ?_) rfl (by kernel_rfl) (by rfl) ?_ (by assumption) ?_
              rotate_left
              · intro w hSw; (try dsimp only at hSw); go_simp; try (with_reducible rfl)
              simp only [Act.put, lsA, lsB, lsC]
              refine tkH (i := 17) (v := ?_) rfl (by kernel_rfl) (by rfl) ?_ (by assumption) ?_
              rotate_left
              · intro w hSw; (try dsimp only at hSw); go_simp; try (with_reducible rfl)
              simp only [Act.put, lsA, lsB, lsC]
              refine tkH (i := 18) (v := ?_) rfl (by kernel_rfl) (by rfl) ?_ (by assumption) ?_
              rotate_left
              · intro w hSw; (try dsimp only at hSw); go_simp; try (with_reducible rfl)
              simp only [Act.put, lsA, lsB, lsC]
              refine tkH (i := 19) (v := ?_) rfl (by kernel_rfl) (by rfl) ?_ (by assumption) ?_
              rotate_left
              · intro w hSw; (try dsimp only at hSw); go_simp; try (with_reducible rfl)
              simp only [Act.put, lsA, lsB, lsC]
              refine tkH (i := 20) (v := ?_) rfl (by kernel_rfl) (by rfl) ?_ (by assumption) ?_
              rotate_left
              · intro w hSw; (try dsimp only at hSw); go_simp; try (with_reducible rfl)
              simp only [Act.put, lsA, lsB, lsC]
              refine tkH (i := 21) (v := ?_) rfl (by kernel_rfl) (by rfl) ?_ (by assumption) ?_
              rotate_left
              · intro w hSw; (try dsimp only at hSw); go_simp; try (with_reducible rfl)
              simp only [Act.put, lsA, lsB, lsC]
              refine tkH (i := 22) (v := ?_) rfl (by kernel_rfl) (by rfl) ?_ (by assumption) ?_
              rotate_left
              · intro w hSw; (try dsimp only at hSw); go_simp; try (with_reducible rfl)
              simp only [Act.put, lsA, lsB, lsC]
              refine tkH (i := 23) (v := ?_) rfl (by kernel_rfl) (by rfl) ?_ (by assumption) ?_
              rotate_left
              · intro w hSw; (try dsimp only at hSw); go_simp; try (with_reducible rfl)
              simp only [Act.put, lsA, lsB, lsC]
              refine tkH (i := 24) (v := ?_) rfl (by kernel_rfl) (by rfl) ?_ (by assumption) ?_
              rotate_left
              · intro w hSw; (try dsimp only at hSw); go_simp; try (with_reducible rfl)
              simp only [Act.put, lsA, lsB, lsC]
              refine tkH (i := 25) (v := ?_) rfl (by kernel_rfl) (by rfl) ?_ (by assumption) ?_
              rotate_left
              · intro w hSw; (try dsimp only at hSw); go_simp; try (with_reducible rfl)
              simp only [Act.put, lsA, lsB, lsC]
              refine tkH (i := 26) (v := ?_) rfl (by kernel_rfl) (by rfl) ?_ (by assumption) ?_
              rotate_left
              · intro w hSw; (try dsimp only at hSw); go_simp; try (with_reducible rfl)
              simp only [Act.put, lsA, lsB, lsC]
              refine tkH (i := 27) (v := ?_) rfl (by kernel_rfl) (by rfl) ?_ (by assumption) ?_
              rotate_left
              · intro w hSw; (try dsimp only at hSw); go_simp; try (with_reducible rfl)
              simp only [Act.put, lsA, lsB, lsC]
              refine tkH (i := 28) (v := ?_) rfl (by kernel_rfl) (by rfl) ?_ (by assumption) ?_
              rotate_left
              · intro w hSw; (try dsimp only at hSw); go_simp; try (with_reducible rfl)
              simp only [Act.put, lsA, lsB, lsC]
              refine tkH (i := 29) (v := ?_) rfl (by kernel_rfl) (by rfl) ?_ (by assumption) ?_
              rotate_left
              · intro w hSw; (try dsimp only at hSw); go_simp; try (with_reducible rfl)
              simp only [Act.put, lsA, lsB, lsC]
              refine tkH (i := 30) (v := ?_) rfl (by kernel_rfl) (by rfl) ?_ (by assumption) ?_
              rotate_left
              · intro w hSw; (try dsimp only at hSw); go_simp; try (with_reducible rfl)
              simp only [Act.put, lsA, lsB, lsC]
              refine tkH (i := 31) (v := ?_) rfl (by kernel_rfl) (by rfl) ?_ (by assumption) ?_
              rotate_left
              · intro w hSw; (try dsimp only at hSw); go_simp; try (with_reducible rfl)
              simp only [Act.put, lsA, lsB, lsC]
              refine wpAnyH_ready (rs := [32]) (by kernel_rfl) (by simp) ?_
              refine AllReadyH.cons (o := ⟨some 62, .call { callee := Go.Callee.value (.func 24), args := #[.tmp 54, .tmp 61], argTypes := #[60, 60] }, 4, "sub.go:52", #[⟨24, .data⟩, ⟨31, .data⟩, ⟨17, .chain⟩, ⟨17, .guard⟩], some (17, true)⟩) rfl (fun K hK => ?_) AllReadyH.nil
              go_simp
              (refine (HO.out _ (Below.refl _ _).drew).mono ?_; rintro e w5 ⟨rfl, hb5⟩; have HB5 : Hid (Below W.heap.size W w5) := below_to (Below.refl _ _).drew hb5; clear hb5)
              go_wp2_with fail
              refine hK.out _ _ ?_ (fun hHeld => ?_)
              · exact HS7.out _ HB5.out
              clear hK K
              refine tkH (i := 33) (v := ?_) rfl (by kernel_rfl) (by rfl) ?_ (by assumption) ?_
              rotate_left
              · intro w hSw; (try dsimp only at hSw); go_simp; try (with_reducible rfl)
              simp only [Act.put, lsA, lsB, lsC]
              refine tkH (i := 34) (v := ?_) rfl (by kernel_rfl) (by rfl) ?_ (by assumption) ?_
              rotate_left
              · intro w hSw; (try dsimp only at hSw); go_simp; try (with_reducible rfl)
              simp only [Act.put, lsA, lsB, lsC]
              refine wpAnyH_done (by kernel_rfl) ?_ _
              refine Tame.normal ?_
              obtain ⟨y0, y1, y2, y3⟩ := HBL.out _ HB5.out
              gi_wp2
              exact ⟨KeepsOthers.of_below HB5.out, HB5.out.mono HBV.out.size, ⟨all_snocB HI.out.1 (by show g ((i : Int), (j : Int)) = true; exact HGX.out), y1, y2, y3⟩, HBV.out.trans (HB5.out.mono HBV.out.size)⟩
            | false =>
              have HGX : Hid (g ((i : Int), (j : Int)) = false) := by show _ = _; rw [HGE.out]; rfl
              gi_wp2
              refine region_round (S := fun W' => W'.cell? ⟨w.heap.size, 0, none⟩ = some (.pointer (some ⟨ba, 0, none⟩)) ∧ W'.cell? ⟨w.heap.size + 1, 0, none⟩ = some (.pointer (some ⟨bb, 0, none⟩)) ∧ W'.cell? ⟨ba, 4, none⟩ = some (.slice (some ⟨g1, o1, none⟩) P.len acp) ∧ W'.cell? ⟨bb, 4, none⟩ = some (.slice (some ⟨g2, o2, none⟩) Q.len bcp) ∧ W'.cell? ⟨ba, 6, none⟩ = some (.slice (some ⟨g3, o3, none⟩) KA.length ack) ∧ W'.cell? ⟨bb, 6, none⟩ = some (.slice (some ⟨g4, o4, none⟩) KB.length bck) ∧ W'.cell? ⟨g1, o1 + i, none⟩ = some (.pointer (some ⟨b1, 0, none⟩)) ∧ W'.cell? ⟨g2, o2 + j, none⟩ = some (.pointer (some ⟨b2, 0, none⟩)) ∧ W'.cell? ⟨g3, o3 + i, none⟩ = some (.bool false) ∧ W'.cell? ⟨g4, o4 + j, none⟩ = some (.bool false)) (by kernel_rfl) (by kernel_rfl) (HS7.out _ (Below.refl _ _).drew) (fun hHeld => ?_)
              refine tkH (i := 0) (v := ?_) rfl (by kernel_rfl) (by rfl) ?_ (by assumption) ?_
              rotate_left
              · intro w hSw; (try dsimp only at hSw); go_simp; try (with_reducible rfl)
              simp only [Act.put, lsA, lsB, lsC]
              refine tkH (i := 1) (v := ?_) rfl (by kernel_rfl) (by rfl) ?_ (by assumption) ?_
              rotate_left
              · intro w hSw; (try dsimp only at hSw); go_simp; try (with_reducible rfl)
              simp only [Act.put, lsA, lsB, lsC]
              refine tkH (i := 2) (v := ?_) rfl (by kernel_rfl) (by rfl) ?_ (by assumption) ?_
              rotate_left
              · intro w hSw; (try dsimp only at hSw); go_simp; try (with_reducible rfl)
              simp only [Act.put, lsA, lsB, lsC]
              refine tkH (i := 3) (v := ?_) rfl (by kernel_rfl) (by rfl) ?_ (by assumption) ?_
              rotate_left
              · intro w hSw; (try dsimp only at hSw); go_simp; try (with_reducible rfl)
              simp only [Act.put, lsA, lsB, lsC]
              refine tkH (i := 4) (v := ?_) rfl (by kernel_rfl) (by rfl) ?_ (by assumption) ?_
              rotate_left
              · intro w hSw; (try dsimp only at hSw); go_simp; try (with_reducible rfl)
              simp only [Act.put, lsA, lsB, lsC]
              refine tkH (i := 5) (v := ?_) rfl (by kernel_rfl) (by rfl) ?_ (by assumption) ?_
              rotate_left
              · intro w hSw; (try dsimp only at hSw); go_simp; try (with_reducible rfl)
              simp only [Act.put, lsA, lsB, lsC]
              refine tkH (i := 6) (v := ?_) rfl (by kernel_rfl) (by rfl) ?_ (by assumption) ?_
              rotate_left
              · intro w hSw; (try dsimp only at hSw); go_simp; try (with_reducible rfl)
              simp only [Act.put, lsA, lsB, lsC]
              refine tkH (i := 7) (v := ?_) rfl (by kernel_rfl) (by rfl) ?_ (by assumption) ?_
              rotate_left
              · intro w hSw; (try dsimp only at hSw); go_simp; try (with_reducible rfl)
              simp only [Act.put, lsA, lsB, lsC]
              refine tkH (i := 8) (v := ?_) rfl (by kernel_rfl) (by rfl) ?_ (by assumption) ?_
              rotate_left
              · intro w hSw; (try dsimp only at hSw); go_simp; try (with_reducible rfl)
              simp only [Act.put, lsA, lsB, lsC]
              refine tkH (i := 9) (v := ?_) rfl (by kernel_rfl) (by rfl) ?_ (by assumption) ?_
              rotate_left
              · intro w hSw; (try dsimp only at hSw); go_simp; try (with_reducible rfl)
              simp only [Act.put, lsA, lsB, lsC]
              refine tkH (i := 10) (v := ?_) rfl (by kernel_rfl) (by rfl) ?_ (by assumption) ?_
              rotate_left
              · intro w hSw; (try dsimp only at hSw); go_simp; try (with_reducible rfl)
              simp only [Act.put, lsA, lsB, lsC]
              refine tkH (i := 11) (v := ?_) rfl (by kernel_rfl) (by rfl) ?_ (by assumption) ?_
              rotate_left
              · intro w hSw; (try dsimp only at hSw); go_simp; try (with_reducible rfl)
              simp only [Act.put, lsA, lsB, lsC]
              refine tkH (i := 12) (v := ?_) rfl (by kernel_rfl) (by rfl) ?_ (by assumption) ?_
              rotate_left
              · intro w hSw; (try dsimp only at hSw); go_simp; try (with_reducible rfl)
              simp only [Act.put, lsA, lsB, lsC]
              refine tkH (i := 13) (v := ?_) rfl (by kernel_rfl) (by rfl) ?_ (by assumption) ?_
              rotate_left
              · intro w hSw; (try dsimp only at hSw); go_simp; try (with_reducible rfl)
              simp only [Act.put, lsA, lsB, lsC]
              refine tkH (i := 14) (v := ?_) rfl (by kernel_rfl) (by rfl) ?_ (by assumption) ?_
              rotate_left
              · intro w hSw; (try dsimp only at hSw); go_simp; try (with_reducible rfl)
              simp only [Act.put, lsA, lsB, lsC]
              refine tkH (i := 15) (v := ?_) rfl (by kernel_rfl) (by rfl) ?_ (by assumption) ?_
              rotate_left
              · intro w hSw; (try dsimp only at hSw); go_simp; try (with_reducible rfl)
              simp only [Act.put, lsA, lsB, lsC]
              refine tkH (i := 16) (v := ?_) rfl (by kernel_rfl) (by rfl) ?_ (by assumption) ?_
              rotate_left
              · intro w hSw; (try dsimp only at hSw); go_simp; try (with_reducible rfl)
              simp only [Act.put, lsA, lsB, lsC]
              refine tkH (i := 17) (v := ?_) rfl (by kernel_rfl) (by rfl) ?_ (by assumption) ?_
              rotate_left
              · intro w hSw; (try dsimp only at hSw); go_simp; try (with_reducible rfl)
              simp only [Act.put, lsA, lsB, lsC]
              refine tkH (i := 18) (v := ?_) rfl (by kernel_rfl) (by rfl) ?_ (by assumption) ?_
              rotate_left
              · intro w hSw; (try dsimp only at hSw); go_simp; try (with_reducible rfl)
              simp only [Act.put, lsA, lsB, lsC]
              refine tkH (i := 19) (v := ?_) rfl (by kernel_rfl) (by rfl) ?_ (by assumption) ?_
              rotate_left
              · intro w hSw; (try dsimp only at hSw); go_simp; try (with_reducible rfl)
              simp only [Act.put, lsA, lsB, lsC]
              refine tkH (i := 20) (v := ?_) rfl (by kernel_rfl) (by rfl) ?_ (by assumption) ?_
              rotate_left
              · intro w hSw; (try dsimp only at hSw); go_simp; try (with_reducible rfl)
              simp only [Act.put, lsA, lsB, lsC]
              refine tkH (i := 21) (v := ?_) rfl (by kernel_rfl) (by rfl) ?_ (by assumption) ?_
              rotate_left
              · intro w hSw; (try dsimp only at hSw); go_simp; try (with_reducible rfl)
              simp only [Act.put, lsA, lsB, lsC]
              refine tkH (i := 22) (v := ?_) rfl (by kernel_rfl) (by rfl) ?_ (by assumption) ?_
              rotate_left
              · intro w hSw; (try dsimp only at hSw); go_simp; try (with_reducible rfl)
              simp only [Act.put, lsA, lsB, lsC]
              refine tkH (i := 23) (v := ?_) rfl (by kernel_rfl) (by rfl) ?_ (by assumption) ?_
              rotate_left
              · intro w hSw; (try dsimp only at hSw); go_simp; try (with_reducible rfl)
              simp only [Act.put, lsA, lsB, lsC]
              refine tkH (i := 24) (v := ?_) rfl (by kernel_rfl) (by rfl) ?_ (by assumption) ?_
              rotate_left
              · intro w hSw; (try dsimp only at hSw); go_simp; try (with_reducible rfl)
              simp only [Act.put, lsA, lsB, lsC]
              refine tkH (i := 25) (v := ?_) rfl (by kernel_rfl) (by rfl) ?_ (by assumption) ?_
              rotate_left
              · intro w hSw; (try dsimp only at hSw); go_simp; try (with_reducible rfl)
              simp only [Act.put, lsA, lsB, lsC]
              refine tkH (i := 26) (v := ?_) rfl (by kernel_rfl) (by rfl) ?_ (by assumption) ?_
              rotate_left
              · intro w hSw; (try dsimp only at hSw); go_simp; try (with_reducible rfl)
              simp only [Act.put, lsA, lsB, lsC]
              refine tkH (i := 27) (v := ?_) rfl (by kernel_rfl) (by rfl) ?_ (by assumption) ?_
              rotate_left
              · intro w hSw; (try dsimp only at hSw); go_simp; try (with_reducible rfl)
              simp only [Act.put, lsA, lsB, lsC]
              refine tkH (i := 28) (v := ?_) rfl (by kernel_rfl) (by rfl) ?_ (by assumption) ?_
              rotate_left
              · intro w hSw; (try dsimp only at hSw); go_simp; try (with_reducible rfl)
              simp only [Act.put, lsA, lsB, lsC]
              refine tkH (i := 29) (v := ?_) rfl (by kernel_rfl) (by rfl) ?_ (by assumption) ?_
              rotate_left
              · intro w hSw; (try dsimp only at hSw); go_simp; try (with_reducible rfl)
              simp only [Act.put, lsA, lsB, lsC]
              refine tkH (i := 30) (v := ?_) rfl (by kernel_rfl) (by rfl) ?_ (by assumption) ?_
              rotate_left
              · intro w hSw; (try dsimp only at hSw); go_simp; try (with_reducible rfl)
              simp only [Act.put, lsA, lsB, lsC]
              refine tkH (i := 31) (v := ?_) rfl (by kernel_rfl) (by rfl) ?_ (by assumption) ?_
              rotate_left
              · intro w hSw; (try dsimp only at hSw); go_simp; try (with_reducible rfl)
              simp only [Act.put, lsA, lsB, lsC]
              refine wpAnyH_ready (rs := [32]) (by kernel_rfl) (by simp) ?_
              refine AllReadyH.cons (o := ⟨some 62, .call { callee := Go.Callee.value (.func 24), args := #[.tmp 54, .tmp 61], argTypes := #[60, 60] }, 4, "sub.go:52", #[⟨24, .data⟩, ⟨31, .data⟩, ⟨17, .chain⟩, ⟨17, .guard⟩], some (17, true)⟩) rfl (fun K hK => ?_) AllReadyH.nil
              go_simp
              (refine (HO.out _ (Below.refl _ _).drew).mono ?_; rintro e w5 ⟨rfl, hb5⟩; have HB5 : Hid (Below W.heap.size W w5) := below_to (Below.refl _ _).drew hb5; clear hb5)
              go_wp2_with fail
              refine hK.out _ _ ?_ (fun hHeld => ?_)
              · exact HS7.out _ HB5.out
              clear hK K
              refine tkH (i := 33) (v := ?_) rfl (by kernel_rfl) (by rfl) ?_ (by assumption) ?_
              rotate_left
              · intro w hSw; (try dsimp only at hSw); go_simp; try (with_reducible rfl)
              simp only [Act.put, lsA, lsB, lsC]
              refine tkH (i := 34) (v := ?_) rfl (by kernel_rfl) (by rfl) ?_ (by assumption) ?_
              rotate_left
              · intro w hSw; (try dsimp only at hSw); go_simp; try (with_reducible rfl)
              simp only [Act.put, lsA, lsB, lsC]
              refine wpAnyH_done (by kernel_rfl) ?_ _
              refine Tame.normal ?_
              obtain ⟨y0, y1, y2, y3⟩ := HBL.out _ HB5.out
              have y4 := y3.cell
              have y5 := y3.frozen
              gi_wp2
              exact ⟨(KeepsOthers.of_below HB5.out).trans (KeepsOthers.setCell _ _ _), ⟨rfl, pre, _, rfl, HI.out.1, by show g ((i : Int), (j : Int)) = false; exact HGX.out, y3.set _⟩, y0.setCell (p := ⟨w.heap.size + 1 + 1, 0, none⟩) (by show _ ≤ w.heap.size + 1 + 1; omega) _⟩
    case done =>
      rintro D ys W hD hS ⟨⟨hgd, d0, d1, bx2⟩, hBV⟩ hK
      have hBW := t1.trans (hBV.mono t1.size)
      have HF : Hid (M.all g = true) := by
        show _ = _
        rw [← hS, List.all_eq_true]
        exact fun x hx => by obtain ⟨y, hy, rfl⟩ := List.mem_map.1 hx; exact hgd y hy
      have d2 := bx2.cell
      have z2 := bx2.frozen
      have HU : Hid (Boxed (W.setCell ⟨w.heap.size + 1 + 1, 0, none⟩ (.bool true)) (w.heap.size + 1 + 1) 4 (.bool true) ∧ Below w.heap.size w (W.setCell ⟨w.heap.size + 1 + 1, 0, none⟩ (.bool true))) := ⟨bx2.set _, hBW.setCell (p := ⟨w.heap.size + 1 + 1, 0, none⟩) (by show _ ≤ w.heap.size + 1 + 1; omega) _⟩
      clear hgd d0 d1 HSQ' HW0 HW4 t3 t4 t5 t6 t7 t8
      gi_wp2
      have hK' := (KeepsOthers.setCell W ⟨w.heap.size + 1 + 1, 0, none⟩ (.bool true)).same D _ hK rfl
      refine ⟨by simp, .inl ⟨_, _, rfl, run_takeDeferred hK', ?_⟩⟩
      have hc5 := cell_kept HU.out.1.cell (grownBy_putObj' _ D (.deferred none)) (fun r e => by cases e; exact ⟨_, hK', rfl⟩)
      refine ⟨.bool true, ?_, by rw [HF.out]; rfl, HU.out.2.trans (belowK_b (w := w) (Nat.le_refl _) _ D _ _ (by have := t1.size; omega) hK' rfl rfl)⟩
      simp [results, Tryz.f51, go_sem, hc5]
    case stop =>
      rintro D c pre W hD ⟨rest, hrest⟩ ⟨⟨rfl, ini, last, rfl, e2, e3, bx2⟩, hB5⟩ hK
      have HF : Hid (M.all g = false) := by
        show _ = _
        rw [← hrest]
        simp [e3]
      clear HSQ' HW0 HW4 t3 t4 t5 t6 t7 t8 hrest e2 e3
      gi_wp2
      refine ⟨by simp, .inl ⟨_, _, rfl, run_takeDeferred hK, ?_⟩⟩
      have hc5 := cell_kept bx2.cell (grownBy_putObj' _ D (.deferred none)) (fun r e => by cases e; exact ⟨_, hK, rfl⟩)
      refine ⟨.bool false, ?_, by rw [HF.out]; simp, hB5.trans (belowK_b (w := w) (Nat.le_refl _) W D _ _ (by have := t1.size; omega) hK rfl rfl)⟩
      simp [results, Tryz.f51, go_sem, hc5]
end Go.Proofs.YtjdjpbdfchhcfaaGreat

