/- check.Narrow at a list of a text and a number, against lists of numbers: the number is left. -/
import Derived.Test.YtcfcnijldnbbnaaR45
import Derived.Test.YtcfcnijldnbbnaaR46
import Derived.Great.BuildSlice
import Derived.Test.YtcfcnijldnbbnaaR21
namespace Go.Proofs.Ytcfcnijldnbbnaa
open Go.RowKit

theorem nbs_row {P : Program} {ops : Array Oper} {rest : List Oper} {Q : Exit → Act → World → Prop} {a : Act} {w w' : World} {d : Option Tmp} {ty T : TypeId} {n : Nat} {parts : Array (Nat × Operand)} {vs : Array (Nat × Value)} {ps : String} {af : Array Edge} {gd : Option (Nat × Bool)} {v : Value}
    (hw : Region.wanted (Oper.mk d (.buildSlice ty n parts) T ps af gd) (yielded ops a.tmps) = true) (hx : (parts.toList.map fun x => (x.1, a.eval x.2)) = vs.toList) (hl : (Instr.buildSlice ty n vs).run P w = .ok v w')
    (h : wpList P ops Q rest (a.put d v) w') : wpList P ops Q (Oper.mk d (.buildSlice ty n parts) T ps af gd :: rest) a w := by
  rw [wpList, if_pos hw]
  refine .inl ?_
  have hy : (parts.map fun (i, x) => (i, a.eval x)) = vs := Array.ext' (by rw [Array.toList_map]; exact hx)
  unfold Oper.wp execOp
  simp only [hy, Sem.run_bind, Result.andThen_ok, hl]
  exact h
theorem nyzero : (Try.prog.info? 34).map (fun i => (i.size, i.zero.map (fun z => z.cells.size))) = some (18, some 18) := by kernel_rfl
abbrev nkcells (k : Int) (vp vn vk : Value) (op : Bool) : Array Value := #[.int .i64 k, .int .i64 0, .int .i64 0, .bool false, .int .i64 0, .float .f64 0, .string { data := #[] }, .slice none 0 0, .int .u64 0, .slice none 0 0, .slice none 0 0, .string { data := #[] }, .int .i64 0, vp, vn, vk, .bool op, .string { data := #[] }]
theorem nkcells_in (k : Int) (p : TyL) (n : List ByteArray) (l : List Bool) (op : Bool) (w : World) (B : Nat → Prop) (ap an ak : Option Addr) (cp cn ck : Nat) (hk : -9223372036854775808 ≤ k ∧ k ≤ 9223372036854775807) (hp : p.len ≤ 70368744177664) (hn : n.length ≤ 70368744177664) (hl : l.length ≤ 140737488355328)
    (h1 : p.In w B ap 0) (h2 : NamesAt w B an n) (h3 : BoolsAt w B ak l) : (Ty.mk k 0 tm0 p n l op ⟨#[]⟩).In w B (nkcells k (.slice ap p.len cp) (.slice an n.length cn) (.slice ak l.length ck) op) := by
  simp only [tm0, Ty.In, nkcells]
  refine ⟨0, false, 0, 0, ⟨#[]⟩, none, 0, 0, 0, none, 0, 0, none, 0, 0, ⟨#[]⟩, 0, ap, cp, an, cn, ak, ck, rfl, ?_, hk, by decide, ⟨hp, hn, hl, by decide⟩, h1, h2, h3⟩
  simp only [Tm.In]
  refine ⟨none, 0, none, 0, none, 0, rfl, ?_, fun j hj => ?_, by simp [TmL.In], by simp [TmF.In]⟩
  · constructor <;> first | decide | simp [TmL.len, TmF.len]
  · simp at hj
theorem nnames_none {w : World} {B : Nat → Prop} {a : Option Addr} : NamesAt w B a [] := fun j s h => by simp at h
theorem nbools_none {w : World} {B : Nat → Prop} {a : Option Addr} : BoolsAt w B a [] := fun j s h => by simp at h

theorem nybs1 (w : World) {ca : Array Value} (ha : ca.size = 18) : (Instr.buildSlice 30 1 #[(0, .agg ca)]).run Try.prog w = .ok (.slice (some ⟨w.heap.size, 0, none⟩) 1 1) (w.alloc (.cells ca 34)) := by
  have h := nyzero
  cases hie : Try.prog.info? 34 with
  | none => rw [hie] at h; simp at h
  | some ie =>
    rw [hie] at h
    simp only [Option.map_some, Option.some.injEq, Prod.mk.injEq] at h
    obtain ⟨h1, h2⟩ := h
    cases hz : ie.zero with
    | none => rw [hz] at h2; simp at h2
    | some z =>
      rw [hz] at h2
      simp only [Option.map_some, Option.some.injEq] at h2
      refine run_buildSlice w _ 34 1 _ ca ie z Try.underlying30 hie hz (by rw [h1]; decide) (by rw [h1]; decide) ?_
      rw [h1]
      have := Go.Great.fill_whole (s := 18) (by decide) [.agg ca] ((Array.range (1 * 18)).map (z.cells[· % z.cells.size]!)) (by simp [Value.cells, ha]) (by simp)
      simpa [Value.cells] using this

theorem none_in {w : World} {B : Nat → Prop} {g : Nat} {a : Ty} {ca : Array Value} {T : TypeId} {fr : Nat × Nat} (hg : B g) (h : w.heap[g]? = some (.cells ca T fr)) (ha : a.In w B ca) : (TyL.cons a .nil).In w B (some ⟨g, 0, none⟩) 0 := by
  simp only [TyL.In]
  exact ⟨g, 0, ca, rfl, hg, fun x _ => by rw [show 0 + 0 * 18 + x = x by omega]; exact cell_of_row _ _ _ _ _ _ h, ha, trivial⟩

def tyInt : Ty := .mk 3 3 (.mk 0 false 0 0 ⟨#[]⟩ ByteArray.empty 0 .nil .nil ⟨#[]⟩ 0) .nil [] [] false ⟨#[]⟩
abbrev icells : Array Value := #[.int .i64 3, .int .i64 3, .int .i64 0, .bool false, .int .i64 0, .float .f64 0, .string { data := #[] }, .slice none 0 0, .int .u64 0, .slice none 0 0, .slice none 0 0, .string { data := #[] }, .int .i64 0, .slice none 0 0, .slice none 0 0, .slice none 0 0, .bool false, .string { data := #[] }]
theorem tyInt_in (w : World) (B : Nat → Prop) : tyInt.In w B icells := by
  simp only [tyInt, Ty.In, icells]
  refine ⟨0, false, 0, 0, ⟨#[]⟩, none, 0, 0, 0, none, 0, 0, none, 0, 0, ⟨#[]⟩, 0, none, 0, none, 0, none, 0, rfl, ?_, by decide, by decide, ⟨by simp [TyL.len], by simp, by simp, by decide⟩, by simp [TyL.In], fun j s h => by simp at h, fun j s h => by simp at h⟩
  simp only [Tm.In]
  refine ⟨none, 0, none, 0, none, 0, rfl, ?_, fun j hj => ?_, by simp [TmL.In], by simp [TmF.In]⟩
  · constructor <;> first | decide | simp [TmL.len, TmF.len]
  · simp at hj
def tmA : Tm := .mk 5 false 0 0 ⟨#[97]⟩ ByteArray.empty 0 .nil .nil ⟨#[]⟩ 0
def tmO : Tm := .mk 3 false 1 0 ⟨#[]⟩ ByteArray.empty 0 .nil .nil ⟨#[]⟩ 0
def lsA : TmL := .cons tmA (.cons tmO .nil)
theorem narA_fixed : Sp.narA (mkL lsA) (tyLs tyInt) = (some (mkL (.cons tmO .nil), false), 0) := by
  have h1 : (mkL lsA).all.e = 0 := by decide +kernel
  have h2 : (tyLs tyInt).can = true := by decide +kernel
  unfold Sp.narA
  rw [if_neg (by rw [h1]; decide), if_neg (by rw [h2]; decide)]
  rfl
abbrev Wn (W : World) : World := (W.alloc (.cells #[.iface 9 (.string { data := #[97] }), .iface 2 (.int .i64 1)] 20)).alloc (.cells icells 34)
theorem nar_fixed (W : World) : Calls Try.prog 13 #[.iface 49 (.slice (some ⟨W.heap.size, 0, none⟩) 2 2), .agg (nkcells 5 (.slice (some ⟨W.heap.size + 1, 0, none⟩) 1 1) (.slice none 0 0) (.slice none 0 0) false)] (Wn W) fun e w' =>
    (∃ a cap, e = .returned (.tuple #[.iface 49 (.slice a 1 cap), .bool true, .int .i64 0])) ∧ Below (Wn W).heap.size (Wn W) w' := by
  have hr0 : (Wn W).heap[W.heap.size]? = some (.cells #[.iface 9 (.string { data := #[97] }), .iface 2 (.int .i64 1)] 20 (0, 0)) := laid (heap_alloc_new W _) _
  have hr1 : (Wn W).heap[W.heap.size + 1]? = some (.cells icells 34 (0, 0)) := laid_at _ _ _ (by simp)
  have hz : (Wn W).heap.size = W.heap.size + 1 + 1 := by simp [Wn]
  have b0 : Lo (Wn W).heap.size W.heap.size := by show _ < _; omega
  have b1 : Lo (Wn W).heap.size (W.heap.size + 1) := by show _ < _; omega
  have hin := nkcells_in 5 (.cons tyInt .nil) [] [] false (Wn W) (Lo (Wn W).heap.size) (some ⟨W.heap.size + 1, 0, none⟩) none none 1 0 0 (by decide) (by simp [TyL.len]) (by simp) (by simp) (none_in b1 hr1 (tyInt_in _ _)) nnames_none nbools_none
  have hlv : lsA.LV (Wn W) (Lo (Wn W).heap.size) (some ⟨W.heap.size, 0, none⟩) 2 := by
    refine ⟨Ln.row ⟨_, hr0, rfl⟩ (by simp [lsA, TmL.len, maxLen]) b0, ?_⟩
    simp only [lsA, TmL.V]
    refine ⟨_, _, _, rfl, b0, by rw [cell_of_row _ _ _ _ _ _ hr0]; rfl, ?_, _, _, _, rfl, b0, by rw [cell_of_row _ _ _ _ _ _ hr0]; rfl, ?_, trivial⟩
    · simp only [tmA, Tm.V]
      simp; decide
    · simp only [tmO, Tm.V]
      simp
  refine (Narrow_any (mkL lsA) _ (tyLs tyInt) _ (Wn W).heap.size _ (Nat.le_refl _) (Tm.V_of8 hlv) hin).mono ?_
  rw [narA_fixed]
  rintro e w' ⟨hb, x, ok, rfl, ⟨q, -, -⟩ | ⟨y, wh, q1, rfl, q3⟩⟩
  · cases q
  · injection q1 with q1
    injection q1 with q1 q2
    subst q1
    simp only [mkL, Tm.V] at q3
    obtain ⟨a, cap, rfl, -, -⟩ := q3.2.2.2.2.2.2.2.1 trivial
    exact ⟨⟨a, cap, rfl⟩, hb⟩
end Go.Proofs.Ytcfcnijldnbbnaa

/- The Go function tenonlaw07.CheckNarrow returns true. -/
namespace Go.Proofs.Ytcfcnijldnbbnaa
open Go.RowKit

mutual
theorem Tm.clean_both : (t : Tm) → t.Ok → t.clean.eqv t.clean
  | .mk k b i f tx by' rf l fs c v, h => by
    obtain ⟨p1, p2, p3, p4⟩ := h.parts
    rw [Tm.clean]
    simp only [Tm.eqv]
    refine ⟨trivial, ⟨p1, p2⟩, fun _ => trivial, fun _ => trivial, fun _ => trivial, fun _ => trivial, fun _ => trivial, fun _ => trivial, fun e => ?_, fun e => ?_, fun _ => ⟨trivial, trivial⟩⟩
    · rw [if_pos e]; exact TmL.clean_both l (p3 e)
    · rw [if_pos e]; exact TmF.clean_both fs (p4 e)
theorem TmL.clean_both : (l : TmL) → l.Ok → l.clean.eqv l.clean
  | .nil, _ => trivial
  | .cons t l, h => ⟨Tm.clean_both t h.head.1, TmL.clean_both l h.head.2⟩
theorem TmF.clean_both : (l : TmF) → l.Ok → l.clean.eqv l.clean
  | .nil, _ => trivial
  | .cons _ t l, h => ⟨rfl, Tm.clean_both t h.head.1, TmF.clean_both l h.head.2⟩
end
/-- what the law asks, in plain mathematics -/
theorem Sp.narA_facts (v : Tm) (t : Ty) (hb : v.Bdd) : (Sp.narA v t).2 = (Sp.isA v t).2.2 ∧ ((Sp.isA v t).1 = true → ∃ wh, (Sp.narA v t).1 = some (v, wh) ∧ v.all.e = 0) ∧
    ∀ y wh, (Sp.narA v t).1 = some (y, wh) → y.all.e = 0 ∧ y.Bdd ∧ (Sp.narA v t).2 = 0 ∧ Sp.narA y t = (some (y, true), 0) ∧ (Sp.isA y t).1 = true ∧ (Sp.isA y t).2.2 = 0 := by
  unfold Sp.narA Sp.isA
  by_cases he : v.all.e ≠ 0
  · rw [if_pos he, if_pos he]
    exact ⟨rfl, fun h => (by cases h), fun y wh h => (by cases h)⟩
  · rw [if_neg he, if_neg he]
    have he0 := Decidable.not_not.1 he
    cases hc : t.can with
    | false =>
      rw [if_pos rfl, if_pos rfl]
      exact ⟨rfl, fun h => (by cases h), fun y wh h => (by cases h)⟩
    | true =>
      rw [if_neg (by decide), if_neg (by decide)]
      have hok := (Ty.can_ok hc).1
      have hw := t.nar_wh hok
      have ho := t.nar_of hok
      refine ⟨rfl, fun h => ⟨true, (hw v he0).1 h, he0⟩, fun y wh h => ?_⟩
      obtain ⟨h1, h2⟩ := ho v he0 y wh h
      have hy := h2.good he0
      refine ⟨hy, t.nar_bd v y wh h hb, rfl, ?_, ?_, ?_⟩
      · rw [if_neg (by rw [hy]; decide), if_neg (by decide), (hw y hy).1 h1]
      · rw [if_neg (by rw [hy]; decide), if_neg (by decide)]; exact h1
      · rw [if_neg (by rw [hy]; decide), if_neg (by decide)]

set_option maxRecDepth 100000 in
set_option maxHeartbeats 4000000 in
theorem CheckNarrow_any (v : Tm) (t : Ty) (ct cs : Array Value) (w : World) (hv : v.In w (Lo w.heap.size) ct) (ht : t.In w (Lo w.heap.size) cs) :
    Calls Try.prog 5 #[.agg ct, .agg cs] w fun e w' => e = .returned (.bool true) ∧ Below w.heap.size w w' := by
  obtain ⟨hsz, -⟩ := Ty.In_cells ht
  have hst := Tm.In_size hv
  have hbd := Tm.In_bdd v ct hv
  obtain ⟨f1, f2, f3⟩ := Sp.narA_facts v t hbd
  obtain ⟨W2, hW2⟩ : ∃ W2, (w.alloc (.cells ct 29)).alloc (.cells cs 34) = W2 := ⟨_, rfl⟩
  have hr0 : W2.heap[w.heap.size]? = some (.cells ct 29 (0, 0)) := hW2 ▸ laid (heap_alloc_new w _) _
  have hr1 : W2.heap[w.heap.size + 1]? = some (.cells cs 34 (0, 0)) := hW2 ▸ laid_at _ _ _ (by simp)
  have hb2 : Below w.heap.size w W2 := hW2 ▸ (((Below.refl _ _).alloc (Nat.le_refl _) _).alloc (by simp) _)
  have hz2 : W2.heap.size = w.heap.size + 1 + 1 := by rw [← hW2]; simp
  have HL : Hid (∀ W, Below W2.heap.size W2 W → (loadVar 29 ⟨w.heap.size, 0, none⟩).run Try.prog W = .ok (.agg ct) W ∧ (loadVar 34 ⟨w.heap.size + 1, 0, none⟩).run Try.prog W = .ok (.agg cs) W ∧ Below w.heap.size w W) := fun W hW =>
    ⟨yldT hst (fun x hx => by rw [Nat.zero_add, cell_of_row _ _ _ _ _ _ ((hW.block _ (by omega)).trans hr0)]), yld hsz ((hW.block _ (by omega)).trans hr1), below_to hb2 hW⟩
  have hs : ∀ W, Below w.heap.size w W → Same (Lo w.heap.size) w W := fun W hW k hk => hW.block k hk
  have HBu : Hid (∀ W, Below W2.heap.size W2 W → Calls Try.prog 7 #[.agg ct] W fun e w' => ∃ x, e = .returned x ∧ Below W.heap.size W w' ∧ v.V w' (Fr W w') x) := fun W hW =>
    built_any v.sz v (Nat.le_refl _) _ (Lo w.heap.size) W (v.In_same (hs W (HL.out W hW).2.2) (fun _ h => h) ct hv) (Sub.lo (HL.out W hW).2.2.size)
  have htW : ∀ W, Below W2.heap.size W2 W → t.In W (Lo W.heap.size) cs := fun W hW => t.In_same (hs W (HL.out W hW).2.2) (fun k hk => Nat.lt_of_lt_of_le hk (HL.out W hW).2.2.size) cs ht
  have HNr : Hid (∀ (u : Tm) (x : Value) W, Below W2.heap.size W2 W → u.V W (Lo W.heap.size) x → Calls Try.prog 13 #[x, .agg cs] W (NarAE (Sp.narA u t) W)) := fun u x W hW hu => Narrow_any u x t cs W.heap.size W (Nat.le_refl _) hu (htW W hW)
  have HIs : Hid (∀ (u : Tm) (x : Value) W, Below W2.heap.size W2 W → u.V W (Lo W.heap.size) x → Calls Try.prog 8 #[x, .agg cs] W fun e w' => e = .returned (.tuple #[.bool (Sp.isA u t).1, .int .i64 (Sp.isA u t).2.1, .int .i64 (Sp.isA u t).2.2]) ∧ Below W.heap.size W w') := fun u x W hW hu => Is_all u x t cs W.heap.size W (Nat.le_refl _) hu (htW W hW)
  have HII : Hid (∀ (x : Value) W, Below W2.heap.size W2 W → v.V W (Lo W.heap.size) x → v.all.e = 0 → Calls Try.prog 14 #[x, .agg ct] W fun e w' => e = .returned (.bool true) ∧ Below W.heap.size W w') := fun x W hW hx he =>
    Is_any v x ct W (Lo W.heap.size) hx (v.In_same (hs W (HL.out W hW).2.2) (fun k hk => Nat.lt_of_lt_of_le hk (HL.out W hW).2.2.size) ct hv) (Sub.lo (Nat.le_refl _)) he
  have HPl : Hid (∀ (u : Tm) (x : Value) W, u.V W (Lo W.heap.size) x → u.all.e = 0 → u.Bdd → Calls Try.prog 16 #[x] W fun e w' => ∃ k b i f tx ab nb cb rf al nl cl af nf cf c vr, e = .returned (.agg (tcells k b i f tx (.slice ab nb cb) rf (.slice al nl cl) (.slice af nf cf) c vr)) ∧ Below W.heap.size W w' ∧ u.clean.In w' (Fr W w') (tcells k b i f tx (.slice ab nb cb) rf (.slice al nl cl) (.slice af nf cf) c vr)) := fun u x W hx he hb => mPlain_any u x W (Lo W.heap.size) hx (Sub.lo (Nat.le_refl _)) he hb
  have HSm : Hid (∀ (u : Tm) (c1 c2 : Array Value) W, u.all.e = 0 → u.clean.In W (Lo W.heap.size) c1 → u.clean.In W (Lo W.heap.size) c2 → Calls Try.prog 15 #[.agg c1, .agg c2] W fun e w' => e = .returned (.bool true) ∧ Below W.heap.size W w') := fun u c1 c2 W he h1 h2 =>
    msame_any u.clean.sz u.clean u.clean (Nat.le_refl _) (Tm.clean_both u (Tm.ok_all he)) c1 c2 (Lo W.heap.size) W h1 h2 (Sub.lo (Nat.le_refl _))
  have HFX : Hid (∀ W : World, Calls Try.prog 13 #[.iface 49 (.slice (some ⟨W.heap.size, 0, none⟩) 2 2), .agg (nkcells 5 (.slice (some ⟨W.heap.size + 1, 0, none⟩) 1 1) (.slice none 0 0) (.slice none 0 0) false)] (Wn W) fun e w' =>
    (∃ a cap, e = .returned (.tuple #[.iface 49 (.slice a 1 cap), .bool true, .int .i64 0])) ∧ Below (Wn W).heap.size (Wn W) w') := fun W => nar_fixed W
  have HF : Hid ((Sp.narA v t).2 = (Sp.isA v t).2.2 ∧ ((Sp.isA v t).1 = true → ∃ wh, (Sp.narA v t).1 = some (v, wh) ∧ v.all.e = 0) ∧
    ∀ y wh, (Sp.narA v t).1 = some (y, wh) → y.all.e = 0 ∧ y.Bdd ∧ (Sp.narA v t).2 = 0 ∧ Sp.narA y t = (some (y, true), 0) ∧ (Sp.isA y t).1 = true ∧ (Sp.isA y t).2.2 = 0) := ⟨f1, f2, f3⟩
  have H0 : Hid ((loadVar 29 ⟨w.heap.size, 0, none⟩).run Try.prog W2 = .ok (.agg ct) W2) := (HL.out W2 (Below.refl _ _)).1
  clear hv ht hs htW f1 f2 f3 hr0 hr1 hb2 hbd hst
  unfold tcells at HPl
  go_enter Try.func5, Try.ntmps5
  go_wp2_with ((with_reducible refine ld_row ?_ ?_ H0.out ?_); rfl; rfl)
  refine (HBu.out W2 (Below.refl _ _)).mono ?_
  rintro e w1 ⟨x, rfl, hb1, hvx⟩
  have HB1 : Hid (Below W2.heap.size W2 w1) := hb1
  have HV1 : Hid (v.V w1 (Lo w1.heap.size) x) := v.V_same (Same.refl _ _) (fun k hk => hk.2) x hvx
  have H1 : Hid ((loadVar 34 ⟨w.heap.size + 1, 0, none⟩).run Try.prog w1 = .ok (.agg cs) w1) := (HL.out w1 hb1).2.1
  clear hb1 hvx H0 HBu
  go_wp2_with ((with_reducible refine ld_row ?_ ?_ H1.out ?_); rfl; rfl)
  refine (HNr.out v x w1 HB1.out HV1.out).mono ?_
  rintro e w2 ⟨hb2, n, ok, rfl, hfin⟩
  have HB2 : Hid (Below W2.heap.size W2 w2 ∧ Below w1.heap.size w1 w2) := ⟨below_to HB1.out hb2, hb2⟩
  have HV2 : Hid (v.V w2 (Lo w2.heap.size) x) := v.V_same (fun k hk => hb2.block k hk) (fun k hk => Nat.lt_of_lt_of_le hk hb2.size) x HV1.out
  have H2 : Hid ((loadVar 34 ⟨w.heap.size + 1, 0, none⟩).run Try.prog w2 = .ok (.agg cs) w2) := (HL.out w2 HB2.out.1).2.1
  have HFN : Hid (NarFin (Sp.narA v t).1 ok n w2) := hfin
  clear hb2 hfin
  go_wp2_with ((with_reducible refine ld_row ?_ ?_ H2.out ?_); rfl; rfl)
  refine (HIs.out v x w2 HB2.out.1 HV2.out).mono ?_
  rintro e w3 ⟨rfl, hb3⟩
  have HB3 : Hid (Below W2.heap.size W2 w3 ∧ Below w2.heap.size w2 w3) := ⟨below_to HB2.out.1 hb3, hb3⟩
  clear hb3
  rcases HFN.out with ⟨hr, rfl, rfl⟩ | ⟨y, wh, hr, rfl, hy⟩
  · have hib : (Sp.isA v t).1 = false := by
      cases hi : (Sp.isA v t).1 with
      | false => rfl
      | true => obtain ⟨wh, e, -⟩ := HF.out.2.1 hi; rw [hr] at e; cases e
    have hee := HF.out.1
    rw [hib, hee]
    have HY : Hid (∀ W : World, (Instr.buildSlice 30 1 #[(0, .agg icells)]).run Try.prog W = .ok (.slice (some ⟨W.heap.size, 0, none⟩) 1 1) (W.alloc (.cells icells 34))) := fun W => nybs1 W rfl
    clear hib hee hr HFN
    generalize (Sp.isA v t).2.2 = q at *
    generalize (Sp.isA v t).2.1 = q1 at *
    clear HF
    go_wp2_with ((with_reducible refine nbs_row ?_ ?_ (HY.out _) ?_); rfl; rfl)
    refine (show Calls _ _ _ _ _ from HFX.out w3).mono ?_
    rintro e w4 ⟨⟨a, cap, rfl⟩, hb4⟩
    have HE : Hid (Below w.heap.size w w4) := (HL.out w4 (below_to HB3.out.1 (below_to (((Below.refl _ _).alloc (Nat.le_refl _) _).alloc (by simp) _) hb4))).2.2
    clear hb4
    go_wp2_with fail
    go_ret
    exact ⟨rfl, HE.out⟩
  · have HY : Hid (y.all.e = 0 ∧ y.Bdd ∧ (Sp.narA v t).2 = 0 ∧ Sp.narA y t = (some (y, true), 0) ∧ (Sp.isA y t).1 = true ∧ (Sp.isA y t).2.2 = 0) := HF.out.2.2 y wh hr
    have HVn : Hid (y.V w3 (Lo w3.heap.size) n) := y.V_same (fun k hk => HB3.out.2.block k hk) (fun k hk => Nat.lt_of_lt_of_le hk HB3.out.2.size) n hy
    have hz : (Sp.narA v t).2 = 0 := HY.out.2.2.1
    have hie : (Sp.isA v t).2.2 = 0 := HF.out.1 ▸ hz
    have HB3a : Hid (Below W2.heap.size W2 w3) := HB3.out.1
    rw [hz, hie]
    cases hi : (Sp.isA v t).1 with
    | true =>
      obtain ⟨wh', e, hve⟩ := HF.out.2.1 hi
      have hyv : y = v := by rw [hr] at e; injection e with e; injection e
      have HIA : Hid (Calls Try.prog 14 #[n, .agg ct] w3 fun e w' => e = .returned (.bool true) ∧ Below w3.heap.size w3 w') := HII.out n w3 HB3.out.1 (hyv ▸ HVn.out) hve
      have HL3 : Hid ((loadVar 29 ⟨w.heap.size, 0, none⟩).run Try.prog w3 = .ok (.agg ct) w3) := (HL.out w3 HB3.out.1).1
      clear hz hie hi e hve hyv hr hy HFN HF
      generalize (Sp.isA v t).2.1 = q1 at *
      go_wp2_with ((with_reducible refine ld_row ?_ ?_ HL3.out ?_); rfl; rfl)
      refine HIA.out.mono ?_
      rintro e w4 ⟨rfl, hb4⟩
      have HB4 : Hid (Below W2.heap.size W2 w4) := below_to HB3a.out hb4
      have HV4 : Hid (y.V w4 (Lo w4.heap.size) n) := y.V_same (fun k hk => hb4.block k hk) (fun k hk => Nat.lt_of_lt_of_le hk hb4.size) n HVn.out
      clear hb4
      have HLk : Hid ((loadVar 34 ⟨w.heap.size + 1, 0, none⟩).run Try.prog w4 = .ok (.agg cs) w4) := (HL.out w4 HB4.out).2.1
      go_wp2_with ((with_reducible refine ld_row ?_ ?_ HLk.out ?_); rfl; rfl)
      refine (HNr.out y n w4 HB4.out HV4.out).mono ?_
      rintro e w5 ⟨hb5, n2, ok2, rfl, hf2⟩
      rw [HY.out.2.2.2.1] at hf2 ⊢
      obtain ⟨rfl, hv5⟩ : ok2 = true ∧ y.V w5 (Lo w5.heap.size) n2 := by
        rcases hf2 with ⟨q, -⟩ | ⟨y', wh', q, q2, q3⟩
        · cases q
        · injection q with q; injection q with q q'; subst q; exact ⟨q2, q3⟩
      have HB5 : Hid (Below W2.heap.size W2 w5 ∧ y.V w5 (Lo w5.heap.size) n2 ∧ y.V w5 (Lo w5.heap.size) n) := ⟨below_to HB4.out hb5, hv5, y.V_same (fun k hk => hb5.block k hk) (fun k hk => Nat.lt_of_lt_of_le hk hb5.size) n HV4.out⟩
      have HL5 : Hid ((loadVar 34 ⟨w.heap.size + 1, 0, none⟩).run Try.prog w5 = .ok (.agg cs) w5) := (HL.out w5 HB5.out.1).2.1
      clear hb5 hf2 hv5
      go_wp2_with ((with_reducible refine ld_row ?_ ?_ HL5.out ?_); rfl; rfl)
      refine (HIs.out y n w5 HB5.out.1 HB5.out.2.2).mono ?_
      rintro e w6 ⟨rfl, hb6⟩
      rw [HY.out.2.2.2.2.1, HY.out.2.2.2.2.2]
      have HB6 : Hid (Below W2.heap.size W2 w6 ∧ y.V w6 (Lo w6.heap.size) n2 ∧ y.V w6 (Lo w6.heap.size) n) := ⟨below_to HB5.out.1 hb6, y.V_same (fun k hk => hb6.block k hk) (fun k hk => Nat.lt_of_lt_of_le hk hb6.size) n2 HB5.out.2.1, y.V_same (fun k hk => hb6.block k hk) (fun k hk => Nat.lt_of_lt_of_le hk hb6.size) n HB5.out.2.2⟩
      clear hb6
      generalize (Sp.isA y t).2.1 = q5 at *
      go_wp2_with fail
      refine (HPl.out y n2 w6 HB6.out.2.1 HY.out.1 HY.out.2.1).mono ?_
      rintro e w7 ⟨k1, b1, i1, g1, tx1, ab1, nb1, cb1, rf1, al1, nl1, cl1, af1, nf1, cf1, cc1, vr1, rfl, hb7, hc7⟩
      have HB7 : Hid (Below W2.heap.size W2 w7 ∧ y.V w7 (Lo w7.heap.size) n) := ⟨below_to HB6.out.1 hb7, y.V_same (fun k hk => hb7.block k hk) (fun k hk => Nat.lt_of_lt_of_le hk hb7.size) n HB6.out.2.2⟩
      have HC7 := y.clean.In_same (Same.refl _ _) (fun k hk => hk.2 : ∀ k, Fr w6 w7 k → Lo w7.heap.size k) _ hc7
      have HC7 : Hid _ := HC7
      clear hb7 hc7
      go_wp2_with fail
      refine (HPl.out y n w7 HB7.out.2 HY.out.1 HY.out.2.1).mono ?_
      rintro e w8 ⟨k2, b2, i2, g2, tx2, ab2, nb2, cb2, rf2, al2, nl2, cl2, af2, nf2, cf2, cc2, vr2, rfl, hb8, hc8⟩
      have HB8 : Hid (Below W2.heap.size W2 w8) := below_to HB7.out.1 hb8
      have HSA := HSm.out y _ _ w8 HY.out.1 (y.clean.In_same (fun k hk => hb8.block k hk) (fun k hk => Nat.lt_of_lt_of_le hk hb8.size) _ HC7.out) (y.clean.In_same (Same.refl _ _) (fun k hk => hk.2 : ∀ k, Fr w7 w8 k → Lo w8.heap.size k) _ hc8)
      have HSA : Hid _ := HSA
      clear hb8 hc8
      go_wp2_with fail
      refine (show Calls _ _ _ _ _ from HSA.out).mono ?_
      rintro e w9 ⟨rfl, hb9⟩
      have HE : Hid (Below w.heap.size w w9) := (HL.out w9 (below_to HB8.out hb9)).2.2
      clear hb9
      go_wp2_with fail
      go_ret
      exact ⟨rfl, HE.out⟩
    | false =>
      clear hz hie hi hr hy HFN HF
      generalize (Sp.isA v t).2.1 = q1 at *
      have HLk : Hid ((loadVar 34 ⟨w.heap.size + 1, 0, none⟩).run Try.prog w3 = .ok (.agg cs) w3) := (HL.out w3 HB3a.out).2.1
      go_wp2_with ((with_reducible refine ld_row ?_ ?_ HLk.out ?_); rfl; rfl)
      refine (HNr.out y n w3 HB3a.out HVn.out).mono ?_
      rintro e w5 ⟨hb5, n2, ok2, rfl, hf2⟩
      rw [HY.out.2.2.2.1] at hf2 ⊢
      obtain ⟨rfl, hv5⟩ : ok2 = true ∧ y.V w5 (Lo w5.heap.size) n2 := by
        rcases hf2 with ⟨q, -⟩ | ⟨y', wh', q, q2, q3⟩
        · cases q
        · injection q with q; injection q with q q'; subst q; exact ⟨q2, q3⟩
      have HB5 : Hid (Below W2.heap.size W2 w5 ∧ y.V w5 (Lo w5.heap.size) n2 ∧ y.V w5 (Lo w5.heap.size) n) := ⟨below_to HB3a.out hb5, hv5, y.V_same (fun k hk => hb5.block k hk) (fun k hk => Nat.lt_of_lt_of_le hk hb5.size) n HVn.out⟩
      have HL5 : Hid ((loadVar 34 ⟨w.heap.size + 1, 0, none⟩).run Try.prog w5 = .ok (.agg cs) w5) := (HL.out w5 HB5.out.1).2.1
      clear hb5 hf2 hv5
      go_wp2_with ((with_reducible refine ld_row ?_ ?_ HL5.out ?_); rfl; rfl)
      refine (HIs.out y n w5 HB5.out.1 HB5.out.2.2).mono ?_
      rintro e w6 ⟨rfl, hb6⟩
      rw [HY.out.2.2.2.2.1, HY.out.2.2.2.2.2]
      have HB6 : Hid (Below W2.heap.size W2 w6 ∧ y.V w6 (Lo w6.heap.size) n2 ∧ y.V w6 (Lo w6.heap.size) n) := ⟨below_to HB5.out.1 hb6, y.V_same (fun k hk => hb6.block k hk) (fun k hk => Nat.lt_of_lt_of_le hk hb6.size) n2 HB5.out.2.1, y.V_same (fun k hk => hb6.block k hk) (fun k hk => Nat.lt_of_lt_of_le hk hb6.size) n HB5.out.2.2⟩
      clear hb6
      generalize (Sp.isA y t).2.1 = q5 at *
      go_wp2_with fail
      refine (HPl.out y n2 w6 HB6.out.2.1 HY.out.1 HY.out.2.1).mono ?_
      rintro e w7 ⟨k1, b1, i1, g1, tx1, ab1, nb1, cb1, rf1, al1, nl1, cl1, af1, nf1, cf1, cc1, vr1, rfl, hb7, hc7⟩
      have HB7 : Hid (Below W2.heap.size W2 w7 ∧ y.V w7 (Lo w7.heap.size) n) := ⟨below_to HB6.out.1 hb7, y.V_same (fun k hk => hb7.block k hk) (fun k hk => Nat.lt_of_lt_of_le hk hb7.size) n HB6.out.2.2⟩
      have HC7 := y.clean.In_same (Same.refl _ _) (fun k hk => hk.2 : ∀ k, Fr w6 w7 k → Lo w7.heap.size k) _ hc7
      have HC7 : Hid _ := HC7
      clear hb7 hc7
      go_wp2_with fail
      refine (HPl.out y n w7 HB7.out.2 HY.out.1 HY.out.2.1).mono ?_
      rintro e w8 ⟨k2, b2, i2, g2, tx2, ab2, nb2, cb2, rf2, al2, nl2, cl2, af2, nf2, cf2, cc2, vr2, rfl, hb8, hc8⟩
      have HB8 : Hid (Below W2.heap.size W2 w8) := below_to HB7.out.1 hb8
      have HSA := HSm.out y _ _ w8 HY.out.1 (y.clean.In_same (fun k hk => hb8.block k hk) (fun k hk => Nat.lt_of_lt_of_le hk hb8.size) _ HC7.out) (y.clean.In_same (Same.refl _ _) (fun k hk => hk.2 : ∀ k, Fr w7 w8 k → Lo w8.heap.size k) _ hc8)
      have HSA : Hid _ := HSA
      clear hb8 hc8
      go_wp2_with fail
      refine (show Calls _ _ _ _ _ from HSA.out).mono ?_
      rintro e w9 ⟨rfl, hb9⟩
      have HE : Hid (Below w.heap.size w w9) := (HL.out w9 (below_to HB8.out hb9)).2.2
      clear hb9
      go_wp2_with fail
      go_ret
      exact ⟨rfl, HE.out⟩
end Go.Proofs.Ytcfcnijldnbbnaa

