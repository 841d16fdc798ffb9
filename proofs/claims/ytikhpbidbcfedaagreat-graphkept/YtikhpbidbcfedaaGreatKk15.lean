/- A region that draws its order, whose loads wait for nothing but a certain operation (a store) waits for them: they may be taken first, if what they read holds still till that operation comes up; behind it nothing is asked. -/
import Derived.OrdersHeld
import Derived.Deep.RegionHeld
import Derived.Test.YtikhpbidbcfedaaGreatKk14
import Derived.Deep.AppendLies
import Derived.Test.YtikhpbidbcfedaaGreatKk12
namespace Go.Proofs.YtikhpbidbcfedaaGreat

section
variable {P : Program} {ops : Array Oper} {Q : Exit → Act → World → Prop} {md : Region.Mode} {S : World → Prop} {m : Nat}

def wpAnyM (P : Program) (md : Region.Mode) (ops : Array Oper) (Q : Exit → Act → World → Prop) (S : World → Prop) (m : Nat) : Nat → Array Bool → Act → World → Prop
  | 0, listed, a, w => Region.ready md ops listed = [] ∧ Q .normal a w
  | fuel + 1, listed, a, w =>
    (Region.ready md ops listed = [] → Q .normal a w) ∧
    ∀ i ∈ Region.ready md ops listed, wpOp P ops Q i (fun a' w' => ((listed.setIfInBounds i true).getD m false = true ∨ S w') ∧ wpAnyM P md ops Q S m fuel (listed.setIfInBounds i true) a' w') a w

theorem wpAny_of_mark : ∀ (fuel : Nat) (listed : Array Bool) (a : Act) (w : World), wpAnyM P md ops Q S m fuel listed a w → wpAny P md ops Q fuel listed a w
  | 0, _, _, _, h => h
  | fuel + 1, _, _, _, h => ⟨h.1, fun i hi => wpOp_mono (fun a' w' h' => wpAny_of_mark fuel _ a' w' h'.2) (h.2 i hi)⟩

def waitsL (md : Region.Mode) (ops : Array Oper) : List Nat → Nat → Bool
  | [], _ => true
  | k :: ks, i => (match ops[k]? with | some o => o.after.any fun e => Region.binds md e && e.on == ks.headD i | none => false) && waitsL md ops ks i
theorem waitsL_not {listed : Array Bool} {i j : Nat} (hi : listed.getD i false = false) (hj : j ∈ Region.ready md ops listed) : (ks : List Nat) → waitsL md ops ks i = true → (∀ k ∈ ks, listed.getD k false = false) → j ∉ ks
  | [], _, _ => by simp
  | k :: ks, h, hu => by
    simp only [waitsL, Bool.and_eq_true] at h
    intro hmem
    rcases List.mem_cons.1 hmem with e | hmem
    rotate_left
    · exact waitsL_not hi hj ks h.2 (fun q hq => hu q (List.mem_cons_of_mem _ hq)) hmem
    obtain ⟨hjun, oj, hoj, hall⟩ := mem_ready.1 hj
    have h1 := h.1
    rw [← e, hoj] at h1
    obtain ⟨q, hq, hx⟩ := Array.any_eq_true.1 h1
    rw [Bool.and_eq_true] at hx
    have h2 := hall oj.after[q] (Array.getElem_mem hq) hx.1
    have h3 : oj.after[q].on = ks.headD i := by simpa using hx.2
    have h4 : listed.getD (ks.headD i) false = false := by
      cases ks with
      | nil => exact hi
      | cons k2 ks => exact hu k2 (by simp)
    rw [h3] at h2
    rw [Array.getD_eq_getD_getElem?] at h4
    rw [Array.getD_eq_getD_getElem?] at h2
    cases hg : listed[ks.headD i]? with
    | none => rw [hg] at h2; simp at h2
    | some b => rw [hg] at h2 h4; simp at h2 h4; rw [h2] at h4; cases h4

theorem wpAnyM_first {i : Nat} {oi : Oper} {v : Value} {ks : List Nat} (hi : ops[i]? = some oi) (hwait : waitsL md ops (m :: ks) i = true) (hmi : i ∉ m :: ks) (hsel : ∀ (j : Nat) (o : Oper) cs b, ops[j]? = some o → o.op ≠ .select cs b)
    (hQ : ∀ c a w, Q (.panic c) (a.put oi.dst v) w → Q (.panic c) a w) (fuel : Nat) :
    ∀ (listed : Array Bool) (a : Act) (w : World), (∀ j oj, ops[j]? = some oj → j ≠ i → listed.getD j true = false → (∀ e ∈ oj.after, Region.binds md e = true → e.on ≠ i) → oi.apart ops oj = true) →
      (∀ k ∈ m :: ks, listed.getD k false = false) → i ∈ Region.ready md ops listed → YieldsIf P ops S oi v a → S w → wpAnyM P md ops Q S m fuel (listed.setIfInBounds i true) (a.put oi.dst v) w → wpAnyM P md ops Q S m (fuel + 1) listed a w := by
  have hmi' : m ≠ i := fun e => hmi (by simp [e])
  induction fuel with
  | zero =>
    intro listed a w _ hm hr hy hS H
    refine ⟨fun h => (by rw [h] at hr; cases hr), fun j hj => ?_⟩
    by_cases hji : j = i
    · subst hji; exact hy.wpOp hi hS ⟨.inr hS, H⟩
    · have := ready_mono hj hji
      rw [H.1] at this
      cases this
  | succ fuel ih =>
    intro listed a w hfree hm hr hy hS H
    refine ⟨fun h => (by rw [h] at hr; cases hr), fun j hj => ?_⟩
    by_cases hji : j = i
    · subst hji; exact hy.wpOp hi hS ⟨.inr hS, H⟩
    · have h1 := H.2 j (ready_mono hj hji)
      obtain ⟨hjun, oj, hoj, hall⟩ := mem_ready.1 hj
      have hiu : listed.getD i false = false := by
        have h0 := (mem_ready.1 hr).1
        rw [Array.getD_eq_getD_getElem?] at h0 ⊢
        cases hg : listed[i]? with
        | none => rfl
        | some b => rw [hg] at h0; simpa using h0
      have hnot : ∀ e ∈ oj.after, Region.binds md e = true → e.on ≠ i := fun e he hb heq => by
        have h1 := hall e he hb
        have h0 := (mem_ready.1 hr).1
        rw [heq] at h1
        rcases Nat.lt_or_ge i listed.size with h' | h'
        · simp [h'] at h0 h1; rw [h0] at h1; cases h1
        · simp [Array.getElem?_eq_none h'] at h1
      have hjp := waitsL_not hiu hj (m :: ks) hwait hm
      have hjm : j ≠ m := fun e => hjp (by simp [e])
      have h2 := wpOp_putIf hoj (hfree j oj hoj hji hjun hnot) (fun cs b => hsel i oi cs b hi) (fun cs b => hsel j oj cs b hoj) hQ hy h1
      have hfree' : ∀ k ok, ops[k]? = some ok → k ≠ i → (listed.setIfInBounds j true).getD k true = false → (∀ e ∈ ok.after, Region.binds md e = true → e.on ≠ i) → oi.apart ops ok = true := fun k ok hk hki hun hno => by
        refine hfree k ok hk hki ?_ hno
        by_cases hjk : j = k
        · subst hjk; exact hjun
        · rw [getD_set_ne true hjk] at hun; exact hun
      have hmj : ∀ k ∈ m :: ks, (listed.setIfInBounds j true).getD k false = false := fun k hk => by
        have hjk : j ≠ k := fun e => hjp (by rw [e]; exact hk)
        rw [getD_set_ne false hjk]; exact hm k hk
      refine wpOp_mono (fun a' w' h3 => ?_) h2
      have hS' : S w' := by
        rcases h3.2.1 with h | h
        · rw [getD_set_ne false hjm, getD_set_ne false (Ne.symm hmi'), hm m (by simp)] at h; cases h
        · exact h
      refine ⟨.inr hS', ih (listed.setIfInBounds j true) a' w' hfree' hmj (ready_mono hr (Ne.symm hji)) h3.1 hS' ?_⟩
      rw [Array.setIfInBounds_comm _ _ hji]
      exact h3.2.2

theorem wpAnyM_pure {i : Nat} {oi : Oper} {v : Value} (hi : ops[i]? = some oi) (hmi : m ≠ i) (hsel : ∀ (j : Nat) (o : Oper) cs b, ops[j]? = some o → o.op ≠ .select cs b)
    (hQ : ∀ c a w, Q (.panic c) (a.put oi.dst v) w → Q (.panic c) a w) (fuel : Nat) :
    ∀ (listed : Array Bool) (a : Act) (w : World), (∀ j oj, ops[j]? = some oj → j ≠ i → listed.getD j true = false → (∀ e ∈ oj.after, Region.binds md e = true → e.on ≠ i) → oi.apart ops oj = true) →
      i ∈ Region.ready md ops listed → YieldsIf P ops (fun _ => True) oi v a → (listed.getD m false = true ∨ S w) → wpAnyM P md ops Q S m fuel (listed.setIfInBounds i true) (a.put oi.dst v) w → wpAnyM P md ops Q S m (fuel + 1) listed a w := by
  have keep : ∀ {listed : Array Bool} {w : World}, (listed.getD m false = true ∨ S w) → ((listed.setIfInBounds i true).getD m false = true ∨ S w) := fun h => by rw [getD_set_ne false (Ne.symm hmi)]; exact h
  induction fuel with
  | zero =>
    intro listed a w _ hr hy hS H
    refine ⟨fun h => (by rw [h] at hr; cases hr), fun j hj => ?_⟩
    by_cases hji : j = i
    · subst hji; exact hy.wpOp hi trivial ⟨keep hS, H⟩
    · have := ready_mono hj hji
      rw [H.1] at this
      cases this
  | succ fuel ih =>
    intro listed a w hfree hr hy hS H
    refine ⟨fun h => (by rw [h] at hr; cases hr), fun j hj => ?_⟩
    by_cases hji : j = i
    · subst hji; exact hy.wpOp hi trivial ⟨keep hS, H⟩
    · have h1 := H.2 j (ready_mono hj hji)
      obtain ⟨hjun, oj, hoj, hall⟩ := mem_ready.1 hj
      have hnot : ∀ e ∈ oj.after, Region.binds md e = true → e.on ≠ i := fun e he hb heq => by
        have h1 := hall e he hb
        have h0 := (mem_ready.1 hr).1
        rw [heq] at h1
        rcases Nat.lt_or_ge i listed.size with h' | h'
        · simp [h'] at h0 h1; rw [h0] at h1; cases h1
        · simp [Array.getElem?_eq_none h'] at h1
      have h2 := wpOp_putIf hoj (hfree j oj hoj hji hjun hnot) (fun cs b => hsel i oi cs b hi) (fun cs b => hsel j oj cs b hoj) hQ hy h1
      have hfree' : ∀ k ok, ops[k]? = some ok → k ≠ i → (listed.setIfInBounds j true).getD k true = false → (∀ e ∈ ok.after, Region.binds md e = true → e.on ≠ i) → oi.apart ops ok = true := fun k ok hk hki hun hno => by
        refine hfree k ok hk hki ?_ hno
        by_cases hjk : j = k
        · subst hjk; exact hjun
        · rw [getD_set_ne true hjk] at hun; exact hun
      refine wpOp_mono (fun a' w' h3 => ?_) h2
      have hS' : (listed.setIfInBounds j true).getD m false = true ∨ S w' := by
        have := h3.2.1
        rw [Array.setIfInBounds_comm _ _ (Ne.symm hji), getD_set_ne false (Ne.symm hmi)] at this
        exact this
      refine ⟨hS', ih (listed.setIfInBounds j true) a' w' hfree' (ready_mono hr (Ne.symm hji)) h3.1 hS' ?_⟩
      rw [Array.setIfInBounds_comm _ _ hji]
      exact h3.2.2

theorem wpAnyM_take {i : Nat} {oi : Oper} {v : Value} {fuel : Nat} {listed : Array Bool} {a : Act} {w : World} (ks : List Nat) (hi : ops[i]? = some oi) (hwait : waitsL md ops (m :: ks) i = true) (hmi : ((m :: ks).contains i) = false)
    (hs : Region.noSelect ops = true) (hf : Region.free md ops listed i = true) (hr : (Region.ready md ops listed).contains i = true) (hm : ((m :: ks).all fun k => !listed.getD k false) = true)
    (hQ : ∀ c a w, Q (.panic c) (a.put oi.dst v) w → Q (.panic c) a w) (hy : YieldsIf P ops S oi v a) (hS : S w)
    (h : wpAnyM P md ops Q S m fuel (listed.setIfInBounds i true) (a.put oi.dst v) w) : wpAnyM P md ops Q S m (fuel + 1) listed a w :=
  wpAnyM_first hi hwait (fun hx => by rw [List.contains_eq_mem] at hmi; simp only [decide_eq_false_iff_not] at hmi; exact hmi hx) (Region.noSelect_spec hs) hQ fuel listed a w (Region.free_spec hi hf) (fun k hk => by have := List.all_eq_true.1 hm k hk; simpa using this) (by simpa using hr) hy hS h
theorem wpAnyM_free {i : Nat} {oi : Oper} {v : Value} {fuel : Nat} {listed : Array Bool} {a : Act} {w : World} (hi : ops[i]? = some oi) (hmi : (m != i) = true)
    (hs : Region.noSelect ops = true) (hf : Region.free md ops listed i = true) (hr : (Region.ready md ops listed).contains i = true)
    (hQ : ∀ c a w, Q (.panic c) (a.put oi.dst v) w → Q (.panic c) a w) (hy : YieldsIf P ops (fun _ => True) oi v a) (hS : listed.getD m false = true ∨ S w)
    (h : wpAnyM P md ops Q S m fuel (listed.setIfInBounds i true) (a.put oi.dst v) w) : wpAnyM P md ops Q S m (fuel + 1) listed a w :=
  wpAnyM_pure hi (by simpa using hmi) (Region.noSelect_spec hs) hQ fuel listed a w (Region.free_spec hi hf) (by simpa using hr) hy hS h
theorem wpAnyM_one {i : Nat} {o : Oper} {fuel : Nat} {listed : Array Bool} {a : Act} {w : World} (hr : Region.ready md ops listed = [i]) (ho : ops[i]? = some o)
    (h : ∀ K' : Act → World → Prop, Shut (∀ a w, ((listed.setIfInBounds i true).getD m false = true ∨ S w) → wpAnyM P md ops Q S m fuel (listed.setIfInBounds i true) a w → K' a w) → if Region.wanted o (yielded ops a.tmps) = true then Oper.wp P o a w K' Q else K' (a.put o.dst undef) w) :
    wpAnyM P md ops Q S m (fuel + 1) listed a w := by
  refine ⟨fun h0 => (by rw [hr] at h0; cases h0), fun j hj => ?_⟩
  rw [hr] at hj
  have hj : j = i := by simpa using hj
  subst hj
  exact wpOp_step ho (fun K' hK => h K' (fun a w hS hW => hK a w ⟨hS, hW⟩))
theorem wpAnyM_done {listed : Array Bool} {a : Act} {w : World} (hr : Region.ready md ops listed = []) (h : Q .normal a w) : ∀ fuel, wpAnyM P md ops Q S m fuel listed a w
  | 0 => ⟨hr, h⟩
  | _ + 1 => ⟨fun _ => h, by rw [hr]; simp⟩
theorem tkM {l : List Oper} {i : Nat} {oi : Oper} {v : Value} {fuel : Nat} {listed : Array Bool} {a : Act} {w : World} (ks : List Nat) (hi : l[i]? = some oi)
    (hb : (waitsL md l.toArray (m :: ks) i && !((m :: ks).contains i) && Region.noSelect l.toArray && Region.free md l.toArray listed i && (Region.ready md l.toArray listed).contains i && ((m :: ks).all fun k => !listed.getD k false)) = true)
    (hw : Region.wanted oi (yielded l.toArray a.tmps) = true) (hy : ∀ w, S w → (execOp a.eval oi).run P w = .ok (.value v) w) (hS : S w)
    (h : wpAnyM P md l.toArray Q S m fuel (listed.setIfInBounds i true) (a.put oi.dst v) w) (hQ : ∀ c a w, Q (.panic c) (a.put oi.dst v) w → Q (.panic c) a w := by exact fun _ _ _ h => h) : wpAnyM P md l.toArray Q S m (fuel + 1) listed a w := by
  simp only [Bool.and_eq_true] at hb
  obtain ⟨⟨⟨⟨⟨h1, h2⟩, h3⟩, h4⟩, h5⟩, h6⟩ := hb
  exact wpAnyM_take (ops := l.toArray) ks (by simpa using hi) h1 (by simpa only [Bool.not_eq_true'] using h2) h3 h4 h5 h6 hQ (Or.inl ⟨hw, hy⟩) hS h
theorem tkF {l : List Oper} {i : Nat} {oi : Oper} {v : Value} {fuel : Nat} {listed : Array Bool} {a : Act} {w : World} (hi : l[i]? = some oi)
    (hb : ((m != i) && Region.noSelect l.toArray && Region.free md l.toArray listed i && (Region.ready md l.toArray listed).contains i) = true)
    (hw : Region.wanted oi (yielded l.toArray a.tmps) = true) (hy : ∀ w, True → (execOp a.eval oi).run P w = .ok (.value v) w) (hS : listed.getD m false = true ∨ S w)
    (h : wpAnyM P md l.toArray Q S m fuel (listed.setIfInBounds i true) (a.put oi.dst v) w) (hQ : ∀ c a w, Q (.panic c) (a.put oi.dst v) w → Q (.panic c) a w := by exact fun _ _ _ h => h) : wpAnyM P md l.toArray Q S m (fuel + 1) listed a w := by
  simp only [Bool.and_eq_true] at hb
  obtain ⟨⟨⟨h1, h2⟩, h3⟩, h4⟩ := hb
  exact wpAnyM_free (ops := l.toArray) (by simpa using hi) h1 h2 h3 h4 hQ (Or.inl ⟨hw, hy⟩) hS h
theorem tkO {l : List Oper} {i : Nat} {o : Oper} {fuel : Nat} {listed : Array Bool} {a : Act} {w : World} (hr : Region.ready md l.toArray listed = [i]) (ho : l[i]? = some o)
    (h : ∀ K' : Act → World → Prop, Shut (∀ a w, ((listed.setIfInBounds i true).getD m false = true ∨ S w) → wpAnyM P md l.toArray Q S m fuel (listed.setIfInBounds i true) a w → K' a w) → if Region.wanted o (yielded l.toArray a.tmps) = true then Oper.wp P o a w K' Q else K' (a.put o.dst undef) w) :
    wpAnyM P md l.toArray Q S m (fuel + 1) listed a w := wpAnyM_one (ops := l.toArray) hr (by simpa using ho) h
theorem wp_region_mark {id : Nat} {a : Act} {w : World} (S : World → Prop) (m : Nat) (hm : P.follows .mixedOrders = true) (h : wpAnyM P .any ops Q S m ops.size (Array.replicate ops.size false) a w.drew) : (Code.region id ops true).wp P Q a w :=
  wp_region_any hm (wpAny_of_mark _ _ _ _ h)
end
end Go.Proofs.YtikhpbidbcfedaaGreat

/- tenonref14.(*Graph).edges: the document's graph lists its edges. -/
namespace Go.Proofs.YtikhpbidbcfedaaGreat
open Go.RowKit Go.ChangeMaps

theorem Tryz.infoEd : (Tryz.prog.info? 38).map (fun i => (i.zero, i.size, i.bytes)) = some (some (.agg #[.int .u64 0, .int .u64 0]), 2, 16) := by kernel_rfl
theorem Tryz.undEd : Tryz.prog.underlying 23 = some (.slice 38) := by kernel_rfl
def ev : List (Int × Int) → List Value
  | [] => []
  | p :: l => .int .u64 p.1 :: .int .u64 p.2 :: ev l
theorem ev_app : ∀ (l m : List (Int × Int)), ev (l ++ m) = ev l ++ ev m
  | [], _ => rfl
  | q :: l, m => by simp [ev, ev_app l m]
theorem ev_get : ∀ (l : List (Int × Int)) (t : Nat) (e : Int × Int), l[t]? = some e → (ev l)[t * 2]? = some (.int .u64 e.1) ∧ (ev l)[t * 2 + 1]? = some (.int .u64 e.2)
  | q :: l, 0, e, h => by simp at h; subst h; simp [ev]
  | q :: l, t + 1, e, h => by
    have := ev_get l t e (by simpa using h)
    rw [show (t + 1) * 2 = t * 2 + 1 + 1 by omega]
    simpa [ev] using this
def NdE (w : World) (gs : Option Nat) (c : Nat) (l : List (Int × Int)) : Prop := (gs = none → l = [] ∧ c = 0) ∧ ∀ g, gs = some g → OwnK w 38 2 g l.length c (ev l)
theorem NdE.keep {w w' : World} {gs : Option Nat} {c : Nat} {l : List (Int × Int)} (h : NdE w gs c l) (hb : ∀ g, gs = some g → w'.heap[g]? = w.heap[g]?) : NdE w' gs c l := ⟨h.1, fun g hg => (h.2 g hg).keep (hb g hg)⟩
theorem appE (gs : Option Nat) (c : Nat) (l : List (Int × Int)) (w : World) (h : NdE w gs c l) (x y : Int) (hl : l.length * 8 ≤ 140737488355328 / 4) (ty : TypeId) :
    ∃ g' c' w', (Builtin.append_ #[23, 23] ty #[.slice (adr gs) l.length c, .slice (some ⟨w.heap.size, 0, none⟩) 1 1]).run Tryz.prog (w.alloc (.cells #[.int .u64 x, .int .u64 y] 38)) = .ok (.slice (some ⟨g', 0, none⟩) (l.length + 1) c') w' ∧
      OwnK w' 38 2 g' (l.length + 1) c' (ev (l ++ [(x, y)])) ∧ (w.alloc (.cells #[.int .u64 x, .int .u64 y] 38)).grownBy w' gs ∧ (gs = some g' ∨ w.heap.size < g') := by
  obtain ⟨i0, hi, hz0, hz1, hz2⟩ := info_parts Tryz.infoEd
  have hlx := cell_two_new w 38 (.int .u64 x) (.int .u64 y)
  rw [ev_app]
  cases gs with
  | some g =>
    have ho := (h.2 g rfl).keep (Below.heap_alloc w (.cells #[.int .u64 x, .int .u64 y] 38) g (h.2 g rfl).lt)
    obtain ⟨g', c', w', h1, h2, h3, h4⟩ := run_appK (P := Tryz.prog) (w.alloc (.cells #[.int .u64 x, .int .u64 y] 38)) 23 23 ty 38 i0 (.agg #[.int .u64 0, .int .u64 0]) 2 16 Tryz.undEd hi hz0 hz1 hz2 rfl g l.length c (ev l) ho _ 1 [.int .u64 x, .int .u64 y] (Src.ofSlice _ Tryz.undEd ⟨w.heap.size, 0, none⟩ 1 1 [.int .u64 x, .int .u64 y] rfl hlx (fun u hu => by simp at hu; rcases hu with rfl | rfl <;> rfl)) (by omega) (by decide)
    exact ⟨g', c', w', h1, h2, h3, h4.imp (fun e => by rw [e]) (fun e => by rw [e, al_size]; omega)⟩
  | none =>
    obtain ⟨rfl, rfl⟩ := h.1 rfl
    have hr := run_append_nil (P := Tryz.prog) (w.alloc (.cells #[.int .u64 x, .int .u64 y] 38)) 23 ty 38 i0 (.agg #[.int .u64 0, .int .u64 0]) Tryz.undEd hi hz0 ⟨w.heap.size, 0, none⟩ 1 1 [.int .u64 x, .int .u64 y] (by rw [hz1]; rfl) hlx (by decide) (by decide) (by rw [hz2]; decide)
    have hge := grownCap_ge (w.alloc (.cells #[.int .u64 x, .int .u64 y] 38)) 1 0 38
    have hcm := grownCap_le_maxLen (w.alloc (.cells #[.int .u64 x, .int .u64 y] 38)) 1 0 38 (by simp [maxLen])
    refine ⟨_, _, _, hr, ⟨by simp [ev], _, heap_alloc_new _ _, by simpa using hge, hcm, ?_, ?_⟩, ⟨rfl, rfl, rfl, by simp, fun k hk _ => heap_alloc_old (w.alloc (.cells #[.int .u64 x, .int .u64 y] 38)).drew _ hk⟩, .inr (by rw [al_size]; omega)⟩
    · simp only [Array.size_append, List.size_toArray, size_zeroCells, List.length_cons, List.length_nil]
      have : (Value.agg #[.int .u64 0, .int .u64 0]).cells.size = 2 := rfl
      rw [this]; omega
    · simp [ev]

def Sp.eds (N : List Int) (nx : Nat → List Nat) (i k : Nat) : List (Int × Int) := ((List.range i).map fun t => (nx t).map fun j => (N.getD t 0, N.getD j 0)).flatten ++ ((nx i).take k).map fun j => (N.getD i 0, N.getD j 0)
end Go.Proofs.YtikhpbidbcfedaaGreat

/- tenonref14.with: a further number among rising ones. -/
namespace Go.Proofs.YtikhpbidbcfedaaGreat
open Go.RowKit Go.ChangeMaps

def Sp.ins (l : List Int) (x : Int) : List Int := if x ∈ l then l else l.take (Sp.fnd l x) ++ [x] ++ l.drop (Sp.fnd l x)
end Go.Proofs.YtikhpbidbcfedaaGreat

/- tenonref14.Make: what stands between its steps. -/
namespace Go.Proofs.YtikhpbidbcfedaaGreat
open Go.RowKit Go.ChangeMaps

end Go.Proofs.YtikhpbidbcfedaaGreat

/- tenonref14.Make: the document's graph of any nodes and edges. -/
namespace Go.Proofs.YtikhpbidbcfedaaGreat
open Go.RowKit Go.ChangeMaps

end Go.Proofs.YtikhpbidbcfedaaGreat

/- graph.placesOf: where nodes stand. -/
namespace Go.Proofs.YtikhpbidbcfedaaGreat
open Go.RowKit Go.ChangeMaps

theorem pls_all {N : List Int} : ∀ {l : List Int}, (∀ x ∈ l, x ∈ N) → Sp.pls N l = some (l.map fun x => N.idxOf x)
  | [], _ => rfl
  | x :: l, h => by
    rw [Sp.pls, if_pos (h x (by simp)), pls_all (fun y hy => h y (by simp [hy]))]; rfl
theorem pls_none {N : List Int} : ∀ {l : List Int}, (∃ x ∈ l, x ∉ N) → Sp.pls N l = none
  | [], h => by obtain ⟨x, hx, _⟩ := h; simp at hx
  | y :: l, h => by
    rw [Sp.pls]
    split
    · rename_i hy
      obtain ⟨x, hx, hn⟩ := h
      rcases List.mem_cons.1 hx with rfl | hx
      · exact absurd hy hn
      · rw [pls_none ⟨x, hx, hn⟩]; rfl
    · rfl
def PlE (w : World) (N : List Int) (l : List Int) (e : Ending) (w' : World) : Prop :=
  Below w.heap.size w w' ∧ ((Sp.pls N l = none ∧ e = .returned (.tuple #[.slice none 0 0, .bool false])) ∨ ∃ ps gs c, Sp.pls N l = some ps ∧ e = .returned (.tuple #[.slice (adr gs) ps.length c, .bool true]) ∧ NdI w' gs c (ps.map fun j : Nat => (j : Int)) ∧ ∀ g, gs = some g → w.heap.size ≤ g)

set_option maxRecDepth 100000 in
set_option maxHeartbeats 4000000 in
theorem placesOf_any (gb mb xb n : Nat) (v0 : Value) (G : List (Int × Int)) (es : Array MapEntry) (ck : Nat) (N : List Int) (a : Option Addr) (cap : Nat) (l : List Int) (B : Nat) (w : World) (h : CnG w gb mb xb n v0 G es ck N) (hl0 : RefsAt w B a l) (hB : B ≤ w.heap.size) (hl : l.length * 8 ≤ 140737488355328) :
    Calls Tryz.prog 28 #[.pointer (some ⟨gb, 0, none⟩), .slice a l.length cap] w (PlE w N l) := by
  have HG : Hid (CnG w gb mb xb n v0 G es ck N) := h
  have HL : Hid (RefsAt w B a l) := hl0
  clear h hl0
  go_enter Tryz.func28, Tryz.ntmps28
  go_wp2
  go_loopw [13, 6] (fun v13 v6 wr => ∃ (i : Nat) (gs : Option Nat) (c : Nat), v13 = .int .i64 i ∧ v6 = .slice (adr gs) i c ∧ i ≤ l.length ∧ Hid (Below w.heap.size w wr ∧ (∀ x ∈ l.take i, x ∈ N) ∧ NdI wr gs c ((l.take i).map fun x => (N.idxOf x : Int)) ∧ ∀ g, gs = some g → w.heap.size ≤ g)) (fun v13 _ _ => l.length - (intOf v13).toNat)
  case atStart => exact ⟨0, none, 0, rfl, rfl, Nat.zero_le _, Below.refl _ _, by simp, ⟨fun _ => ⟨by simp, rfl⟩, fun g hg => by cases hg⟩, fun g hg => by cases hg⟩
  case round =>
    obtain ⟨i, gs, c, rfl, rfl, hi, HR⟩ := hrel
    by_cases hlt : i < l.length
    · obtain ⟨x, hx⟩ : ∃ x, l[i]? = some x := ⟨_, List.getElem?_eq_getElem hlt⟩
      obtain ⟨b, o, rfl, hb, hcx⟩ := (HL.out.keep (HR.out.1.mono hB)).row i (.int .u64 x) (by simp [rv, hx])
      have hbx := HL.out.bd x (List.mem_of_getElem? hx)
      have HS : Hid (CnG wr gb mb xb n v0 G es ck N) := HG.out.keep ⟨HR.out.1.os, HR.out.1.tape, HR.out.1.output, HR.out.1.size, fun j h1 _ => HR.out.1.block j h1⟩
      obtain ⟨hg1, _⟩ := HS.out.cell
      have hxm : x ∈ l := List.mem_of_getElem? hx
      rcases HS.out.look hbx.1 hbx.2 with ⟨L, hno⟩ | ⟨t, L, ht⟩
      · have hlk := L wr rfl
        have HX : Hid (Sp.pls N l = none) := pls_none ⟨x, hxm, hno⟩
        clear L hx hxm hno HS
        go_wp2
        go_ret2
        exact ⟨HR.out.1, .inl ⟨HX.out, rfl⟩⟩
      · have hlk := L wr rfl
        have hti := idx_of HS.out.nd ht
        have htk : l.take (i + 1) = l.take i ++ [x] := by rw [List.take_add_one, hx]; rfl
        have hll : ((l.take i).map fun x => (N.idxOf x : Int)).length = i := by simp; omega
        obtain ⟨g', c', w4, hap, ho4, hgr4, hor4⟩ := appI gs c ((l.take i).map fun x => (N.idxOf x : Int)) wr HR.out.2.2.1 (t : Int) (by rw [hll]; omega) 60
        rw [hll] at hap ho4
        have HF : Hid (Below w.heap.size w w4 ∧ (∀ x ∈ l.take (i + 1), x ∈ N) ∧ NdI w4 (some g') c' ((l.take (i + 1)).map fun x => (N.idxOf x : Int)) ∧ ∀ g, some g' = some g → w.heap.size ≤ g) := by
          have hsz := HR.out.1.size
          refine ⟨(HR.out.1.alloc hsz _).grown hgr4 (HR.out.1.alloc hsz _).size (fun k hk => HR.out.2.2.2 k hk), fun y hy => ?_, ⟨(fun h => by cases h), fun g hg => ?_⟩, fun g hg => ?_⟩
          · rw [htk, List.mem_append, List.mem_singleton] at hy
            rcases hy with hy | rfl
            · exact HR.out.2.1 y hy
            · exact List.mem_of_getElem? ht
          · injection hg with hg; subst hg
            rw [htk, List.map_append, List.length_append, hll]
            simpa [hti] using ho4
          · injection hg with hg; subst hg
            rcases hor4 with h | h
            · exact HR.out.2.2.2 g' h
            · omega
        clear ho4 hgr4 hor4 htk hll hti L hx hxm HS
        go_wp2_with (at_builtin; refine wpList_ranS _ rfl _ _ 60 60 rfl _ _ _ _ rfl rfl hap ?_)
        go_roundw
        case rel => exact ⟨i + 1, some g', c', by go_num, by rfl, by omega, HF.out⟩
        case measure => simp [intOf]; omega
    · obtain rfl : i = l.length := by omega
      have htk : l.take l.length = l := List.take_of_length_le (Nat.le_refl _)
      have HF : Hid (Below w.heap.size w wr ∧ Sp.pls N l = some (l.map fun x => N.idxOf x) ∧ NdI wr gs c ((l.map fun x => N.idxOf x).map fun j : Nat => (j : Int)) ∧ ∀ g, gs = some g → w.heap.size ≤ g) := by
        have h := HR.out
        rw [htk] at h
        exact ⟨h.1, pls_all h.2.1, by rw [List.map_map]; exact h.2.2.1, h.2.2.2⟩
      clear HR htk
      go_wp2
      go_ret2
      exact ⟨HF.out.1, .inr ⟨_, gs, c, HF.out.2.1, by rw [List.length_map]; rfl, HF.out.2.2.1, HF.out.2.2.2⟩⟩
end Go.Proofs.YtikhpbidbcfedaaGreat

/- tenonref14.places: where nodes lie, as the reference tells it. -/
namespace Go.Proofs.YtikhpbidbcfedaaGreat
open Go.RowKit Go.ChangeMaps

end Go.Proofs.YtikhpbidbcfedaaGreat

