/- tenonref01.Parts: the terms that a term holds, as a slice of terms. -/
import Derived.Test.YtjdjpbdfchhcfaaGreatKE6
import Derived.Test.YtjdjpbdfchhcfaaGreatKE7
namespace Go.Proofs.YtjdjpbdfchhcfaaGreat
open Go.RowKit

def Up (B : Nat → Prop) (w w' : World) : Nat → Prop := fun k => B k ∨ Fr w w' k

def TPre (w : World) (B : Nat → Prop) : TmL → List (Array Value) → TmL → Prop
  | L, [], l => L = l
  | .cons t L, cs :: r, l => t.In w B cs ∧ cs.size = 11 ∧ TPre w B L r l
  | .nil, _ :: _, _ => False
theorem TPre_nil {w : World} {B : Nat → Prop} (L l : TmL) : TPre w B L [] l ↔ L = l := by cases L <;> rfl
theorem TPre.snoc {w : World} {B : Nat → Prop} : (L : TmL) → ∀ xs t l cs, TPre w B L xs (.cons t l) → t.In w B cs → cs.size = 11 → TPre w B L (xs ++ [cs]) l
  | L, [], t, l, cs, h, hx, hz => by
    obtain rfl := (TPre_nil _ _).1 h
    simp only [List.nil_append, TPre]
    exact ⟨hx, hz, trivial⟩
  | .nil, y :: ys, t, l, x, h, hx, hz => by simp [TPre] at h
  | .cons u L, y :: ys, t, l, x, h, hx, hz => by
    simp only [List.cons_append, TPre] at h ⊢
    exact ⟨h.1, h.2.1, TPre.snoc L ys t l x h.2.2 hx hz⟩
theorem TPre.done {w w' : World} {B B' : Nat → Prop} (hs : Same B w w') (hB : ∀ k, B k → B' k) (g : Nat) (hg : B' g) : (L : TmL) → ∀ (xs : List (Array Value)) (j : Nat), TPre w B L xs .nil → (∀ i x, (xs.flatMap (·.toList))[i]? = some x → w'.cell? ⟨g, j * 11 + i, none⟩ = some x) → L.In w' B' (some ⟨g, 0, none⟩) j
  | .nil, _, _, _, _ => by simp [TmL.In]
  | .cons t L, [], j, h, _ => by simp [TPre] at h
  | .cons t L, cs :: xs, j, h, hc => by
    simp only [TPre, TmL.In] at h ⊢
    obtain ⟨h1, h2, h3⟩ := h
    refine ⟨g, 0, cs, rfl, hg, ?_, t.In_same hs hB cs h1, TPre.done hs hB g hg L xs (j + 1) h3 ?_⟩
    · intro x hx
      have hx' : x < cs.size := by omega
      rw [Array.getElem?_eq_getElem hx']
      have := hc x cs[x] (by simp only [List.flatMap_cons]; rw [List.getElem?_append_left (by simpa using hx')]; simp)
      simpa using this
    · intro i x hi
      have := hc (i + 11) x (by simp only [List.flatMap_cons]; rw [List.getElem?_append_right (by simp; omega)]; simpa [h2] using hi)
      rw [show (j + 1) * 11 + i = j * 11 + (i + 11) by omega]; exact this

def Tm.parts : Tm → TmL
  | .mk k _ _ _ _ _ _ l fs _ _ => if k = 8 then l else if k = 9 ∨ k = 10 then fs.vals else .nil

structure PL (L : TmF) (w : World) (B : Nat → Prop) (al : Option Addr) (wr : World) (j g cap : Nat) (xs : List (Array Value)) (l : TmF) : Prop where
  len : l.len + j = L.len
  src : l.In w B al j
  own : wr.ownsRow (w.heap.size + 1) 29 11 (.slice (some ⟨g, 0, none⟩) j cap) j (xs.flatMap (·.toList))
  pre : TPre w B L.vals xs l.vals
  lt : w.heap.size + 1 ≤ g ∧ g < wr.heap.size
  bel : Below w.heap.size w wr

theorem PL.step {L : TmF} {w : World} {B : Nat → Prop} {al : Option Addr} {wr : World} {j g cap : Nat} {xs : List (Array Value)} {n : ByteArray} {t : Tm} {l : TmF} (h : PL L w B al wr j g cap xs (.cons n t l)) {cs : Array Value} (ht : t.In w B cs) (hz : cs.size = 11) {w3 : World} {o : Obj} {g' cap' : Nat}
    (ho : w3.ownsRow (w.heap.size + 1) 29 11 (.slice (some ⟨g', 0, none⟩) (j + 1) cap') (j + 1) (xs.flatMap (·.toList) ++ cs.toList)) (hg : (wr.alloc o).grownBy w3 (some g)) :
    PL L w B al w3 (j + 1) g' cap' (xs ++ [cs]) l := by
  have hsrc := h.src
  simp only [TmF.In] at hsrc
  obtain ⟨_, _, _, _, _, _, _, _, _, hl⟩ := hsrc
  refine ⟨?_, hl, ?_, TPre.snoc _ _ t _ cs h.pre ht hz, ho.lt g' rfl, ?_⟩
  · have := h.len; simp [TmF.len] at this; omega
  · rw [List.flatMap_append]; simpa using ho
  · exact (h.bel.alloc h.bel.size _).grown hg (by have := h.bel.size; simp; omega) (fun k e => by injection e with e; have := h.lt; omega)
theorem PL.done {L : TmF} {w : World} {B : Nat → Prop} {al : Option Addr} {wr : World} {j g cap : Nat} {xs : List (Array Value)} (h : PL L w B al wr j g cap xs .nil) (hB : Sub B w) : L.vals.In wr (Up B w wr) (some ⟨g, 0, none⟩) 0 := by
  refine TPre.done (hB.same h.bel) (fun _ hk => .inl hk) g (.inr ⟨by have := h.lt; omega, h.lt.2⟩) L.vals xs 0 h.pre ?_
  intro i x hi
  have := h.own.cells (g := g) rfl i x hi
  have e : (⟨g, 0, none⟩ : Addr).add i = ⟨g, 0 * 11 + i, none⟩ := by
    unfold Addr.add; split
    · rename_i h0; rw [h0]
    · simp
  rw [e] at this; exact this

theorem tcells_one (k : Int) (b : Bool) (i : Int) (f : Nat) (tx : ByteArray) (ab : Option Addr) (nb cb : Nat) (rf : Int) (al : Option Addr) (nl cl : Nat) (af : Option Addr) (nf cf : Nat) (c : ByteArray) (vr : Int) :
    ∀ u ∈ (tcells k b i f tx (.slice ab nb cb) rf (.slice al nl cl) (.slice af nf cf) c vr).toList, u.oneCell' = true := by
  intro u hu
  simp [tcells] at hu
  rcases hu with rfl | rfl | rfl | rfl | rfl | rfl | rfl | rfl | rfl | rfl | rfl <;> rfl

theorem block_cells {w : World} {g : Nat} {cs : Array Value} {e : TypeId} (h : w.heap[g]? = some (.cells cs e (0, 0))) : ∀ j u, cs.toList[j]? = some u → w.cell? ((⟨g, 0, none⟩ : Addr).add j) = some u := by
  intro j u hj
  have e : (⟨g, 0, none⟩ : Addr).add j = ⟨g, j, none⟩ := by
    unfold Addr.add; split
    · rename_i h0; rw [h0]
    · simp
  rw [e, cell_of_row w g j cs _ (0, 0) h]
  simpa using hj

set_option maxRecDepth 100000 in
set_option maxHeartbeats 1000000 in
theorem parts_fields (k : Int) (hk : k = 9 ∨ k = 10) (b : Bool) (i : Int) (f : Nat) (tx : ByteArray) (vb : Value) (rf : Int) (vl : Value) (af : Option Addr) (L : TmF) (cf : Nat) (c : ByteArray) (vr : Int) (w : World) (B : Nat → Prop) (hB : Sub B w) (hL : L.In w B af 0) (hlen : L.len * 168 ≤ 140737488355328) :
    Calls Tryz.prog 82 #[.agg (tcells k b i f tx vb rf vl (.slice af L.len cf) c vr)] w fun e w' => ∃ a cap, e = .returned (.slice a L.vals.len cap) ∧ Below w.heap.size w w' ∧ L.vals.In w' (Up B w w') a 0 := by
  obtain ⟨i0, hi, hz0, hz1, hz2⟩ := info_parts Tryz.infoT
  have H0 : Hid (∀ o, PL L w B af ((w.alloc o).alloc (.cells #[] 29)) 0 (w.heap.size + 1) 0 [] L) := fun o =>
    ⟨rfl, hL, ⟨rfl, .inr ⟨w.heap.size + 1, 0, #[], rfl, Nat.le_refl _, by simpa using heap_alloc_new (w.alloc o) (.cells #[] 29), Nat.le_refl _, by simp [maxLen], rfl, rfl⟩⟩, (TPre_nil _ _).2 rfl, by simp, ((Below.refl _ _).alloc (Nat.le_refl _) _).alloc (by simp) _⟩
  clear hL
  unfold tcells
  rcases hk with rfl | rfl
  all_goals
    go_enter Tryz.func82, Tryz.ntmps82
    go_wp2_with fail
    go_loopw [3, 4] (fun v x wr => ∃ (j g cap : Nat) (xs : List (Array Value)) (l : TmF), v = .slice (some ⟨g, 0, none⟩) j cap ∧ x = .int .i64 j ∧ j ≤ L.len ∧ wr.cell? ⟨w.heap.size, 8, none⟩ = some (.slice af L.len cf) ∧ Hid (PL L w B af wr j g cap xs l)) (fun _ x _ => L.len - (intOf x).toNat)
    case atStart => exact ⟨0, w.heap.size + 1, 0, [], L, rfl, rfl, by omega, by simp, H0.out _⟩
    case round =>
      obtain ⟨j, g, cap, xs, l, rfl, rfl, hj, c8, HR⟩ := hrel
      cases l with
      | nil =>
        have hjl : L.len ≤ j := by have := HR.out.len; simp [TmF.len] at this; omega
        go_wp2_with fail
        go_ret
        have e : j = L.len := by omega
        rw [e, ← TmF.vals_len]
        exact ⟨_, _, rfl, HR.out.bel, HR.out.done hB⟩
      | cons nm t l =>
        have hsrc := HR.out.src
        simp only [TmF.In] at hsrc
        obtain ⟨g1, o1, cs, rfl, hg1, _, _, hc, ht, _⟩ := hsrc
        have hg1 := hB _ hg1
        have hlt : j < L.len := by have := HR.out.len; simp [TmF.len] at this; omega
        have hw0 := HR.out.bel
        have hgl := HR.out.lt
        cases t with
        | mk k b' i' f' tx' by' rf' l' fs' c' vr' =>
          have ht' := ht
          simp only [Tm.In] at ht'
          obtain ⟨ab', cb', al', cl', af', cf', rfl, _⟩ := ht'
          obtain ⟨e0, e1, e2, e3, e4, e5, e6, e7, e8, e9, e10⟩ := eleven (w := wr) (g := g1) (o := o1 + j * 12 + 1) (fun x hx => by rw [hw0.cell (p := ⟨g1, o1 + j * 12 + 1 + x, none⟩) (by show g1 < _; omega)]; exact hc x hx)
          have HB0 : Hid (Below w.heap.size w wr) := hw0
          have hszr := hw0.size
          have HT : Hid (Tm.In w B (.mk k b' i' f' tx' by' rf' l' fs' c' vr') (tcells k b' i' f' tx' (.slice ab' by'.size cb') rf' (.slice al' l'.len cl') (.slice af' fs'.len cf') c' vr')) := ht
          clear hw0 hc ht
          go_wp2_with (at_builtin; refine wpList_app _ rfl _ _ 26 rfl (w.heap.size + 1) 29 i0 _ 11 152 Tryz.undT hi hz0 hz1 hz2 rfl (by decide) _ _ (xs.flatMap (·.toList)) rfl (HR.out.own.alloc _) ⟨wr.heap.size, 0, none⟩ 1 1 (tcells k b' i' f' tx' (.slice ab' by'.size cb') rf' (.slice al' l'.len cl') (.slice af' fs'.len cf') c' vr').toList rfl rfl (block_cells (heap_alloc_new wr _)) (tcells_one _ _ _ _ _ _ _ _ _ _ _ _ _ _ _ _ _) (by decide) (by unfold maxLen; omega) (by omega) (by simp; omega) ?_; intro g' cap' w3 hown' hgrow hor)
          have HN := HR.out.step HT.out rfl hown' hgrow
          have c8' : w3.cell? ⟨w.heap.size, 8, none⟩ = some (.slice (some ⟨g1, o1, none⟩) L.len cf) := (app_kept (g := g) (Below.refl _ _) hgrow (p := ⟨w.heap.size, 8, none⟩) (by show w.heap.size < _; omega) (by show w.heap.size ≠ _; omega)).trans c8
          go_roundw
          case rel => exact ⟨j + 1, g', cap', _, l, rfl, by go_num, by omega, c8', HN⟩
          case measure => simp [intOf]; omega

set_option maxRecDepth 100000 in
set_option maxHeartbeats 400000 in
theorem parts_list (b : Bool) (i : Int) (f : Nat) (tx : ByteArray) (vb : Value) (rf : Int) (al : Option Addr) (nl cl : Nat) (vf : Value) (c : ByteArray) (vr : Int) (w : World) :
    Calls Tryz.prog 82 #[.agg (tcells 8 b i f tx vb rf (.slice al nl cl) vf c vr)] w fun e w' => e = .returned (.slice al nl cl) ∧ Below w.heap.size w w' := by
  unfold tcells
  go_enter Tryz.func82, Tryz.ntmps82
  go_wp2_with fail
  go_ret
  exact ⟨rfl, (Below.refl _ _).alloc (Nat.le_refl _) _⟩
set_option maxRecDepth 100000 in
set_option maxHeartbeats 400000 in
theorem parts_none (k : Int) (h8 : k ≠ 8) (h9 : k ≠ 9) (h10 : k ≠ 10) (b : Bool) (i : Int) (f : Nat) (tx : ByteArray) (vb : Value) (rf : Int) (vl vf : Value) (c : ByteArray) (vr : Int) (w : World) :
    Calls Tryz.prog 82 #[.agg (tcells k b i f tx vb rf vl vf c vr)] w fun e w' => ∃ a cap, e = .returned (.slice a 0 cap) ∧ Below w.heap.size w w' := by
  have b8 : (k == 8) = false := by simp [h8]
  have b9 : (k == 9) = false := by simp [h9]
  have b10 : (k == 10) = false := by simp [h10]
  clear h8 h9 h10
  unfold tcells
  go_enter Tryz.func82, Tryz.ntmps82
  go_wp2_with fail
  go_ret
  exact ⟨_, _, rfl, ((Below.refl _ _).alloc (Nat.le_refl _) _).alloc (by simp) _⟩

theorem parts_any (t : Tm) (cs : Array Value) (B : Nat → Prop) (w : World) (h : t.In w B cs) (hB : Sub B w) :
    Calls Tryz.prog 82 #[.agg cs] w fun e w' => ∃ a cap, e = .returned (.slice a t.parts.len cap) ∧ Below w.heap.size w w' ∧ t.parts.In w' (Up B w w') a 0 ∧ t.parts.len ≤ 140737488355328 := by
  cases t with
  | mk k b i f tx by' rf l fs c vr =>
    simp only [Tm.In] at h
    obtain ⟨ab, cb, al, cl, af, cf, rfl, hbd, _, hl, hfs⟩ := h
    by_cases h8 : k = 8
    · subst h8
      have e : Tm.parts (.mk 8 b i f tx by' rf l fs c vr) = l := by simp [Tm.parts]
      rw [e]
      refine (parts_list b i f tx _ rf al _ cl _ c vr w).mono ?_
      rintro e w' ⟨rfl, hb⟩
      exact ⟨al, cl, rfl, hb, l.In_same (hB.same hb) (fun _ hk => .inl hk) al 0 hl, by have := hbd.nl; omega⟩
    · by_cases h9 : k = 9 ∨ k = 10
      · have e : Tm.parts (.mk k b i f tx by' rf l fs c vr) = fs.vals := by simp [Tm.parts, h8, h9]
        rw [e]
        refine (parts_fields k h9 b i f tx _ rf _ af fs cf c vr w B hB hfs hbd.nf).mono ?_
        rintro e w' ⟨a, cap, rfl, hb, hv⟩
        exact ⟨a, cap, rfl, hb, hv, by rw [TmF.vals_len]; have := hbd.nf; omega⟩
      · have e : Tm.parts (.mk k b i f tx by' rf l fs c vr) = .nil := by simp [Tm.parts, h8, h9]
        rw [e]
        refine (parts_none k h8 (by omega) (by omega) b i f tx _ rf _ _ c vr w).mono ?_
        rintro e w' ⟨a, cap, rfl, hb⟩
        exact ⟨a, cap, rfl, hb, by simp [TmL.In], by simp [TmL.len]⟩

theorem own_any (t : Tm) (cs : Array Value) (B : Nat → Prop) (p n : Int) (w : World) (h : t.In w B cs) (hB : Sub B w) :
    Calls Tryz.prog 81 #[.agg cs, .int .i64 p, .int .i64 n] w fun e w' => e = .returned (.int .i64 (t.own p n)) ∧ Below w.heap.size w w' := by
  cases t with
  | mk k b i f tx by' rf l fs c vr =>
    simp only [Tm.In] at h
    obtain ⟨ab, cb, al, cl, af, cf, rfl, hbd, _, hl, hfs⟩ := h
    have hcl : c.size ≤ maxLen := by unfold maxLen; have := hbd.c; omega
    by_cases he : Sp.ent k p n ≠ 0
    · have e : Tm.own (.mk k b i f tx by' rf l fs c vr) p n = Sp.ent k p n := by simp only [Tm.own]; rw [if_pos he]
      rw [e]; exact own_ent k b i f tx ab _ cb rf al _ cl af _ cf c vr p n w he
    have he := Decidable.not_not.1 he
    by_cases h5 : k = 5
    · subst h5
      have e : Tm.own (.mk 5 b i f tx by' rf l fs c vr) p n = Sp.len tx.size 65536 := by simp [Tm.own, he]
      rw [e]; exact own_5 b i f tx ab _ cb rf al _ cl af _ cf c vr p n w he
    by_cases h6 : k = 6
    · subst h6
      have e : Tm.own (.mk 6 b i f tx by' rf l fs c vr) p n = Sp.len by'.size 65536 := by simp [Tm.own, he]
      rw [e]; exact own_6 b i f tx ab _ cb rf al _ cl af _ cf c vr p n w he
    by_cases h8 : k = 8
    · subst h8
      have e : Tm.own (.mk 8 b i f tx by' rf l fs c vr) p n = Sp.len l.len 4096 := by simp [Tm.own, he]
      rw [e]; exact own_8 b i f tx ab _ cb rf al _ cl af _ cf c vr p n w he
    by_cases h9 : k = 9
    · subst h9
      have e : Tm.own (.mk 9 b i f tx by' rf l fs c vr) p n = Sp.fieldsR fs.names := by simp [Tm.own, he]
      rw [e]; exact own_fields 9 b i f tx ab _ cb rf al _ cl af cf c vr p n w (.inl rfl) he hcl B hB fs hfs (by have := hbd.nf; omega)
    by_cases h10 : k = 10
    · subst h10
      by_cases hh : Sp.headR c vr ≠ 0
      · have e : Tm.own (.mk 10 b i f tx by' rf l fs c vr) p n = Sp.headR c vr := by simp [Tm.own, he, hh]
        rw [e]; exact own_10 b i f tx ab _ cb rf al _ cl af _ cf c vr p n w he hcl hh
      · have hh := Decidable.not_not.1 hh
        have e : Tm.own (.mk 10 b i f tx by' rf l fs c vr) p n = Sp.fieldsR fs.names := by simp [Tm.own, he, hh]
        rw [e]; exact own_fields 10 b i f tx ab _ cb rf al _ cl af cf c vr p n w (.inr ⟨rfl, hh⟩) he hcl B hB fs hfs (by have := hbd.nf; omega)
    have e : Tm.own (.mk k b i f tx by' rf l fs c vr) p n = 0 := by simp [Tm.own, he, h5, h6, h8, h9, h10]
    rw [e]; exact own_plain k b i f tx ab _ cb rf al _ cl af _ cf c vr p n w he h5 h6 h8 h9 h10

theorem TmL.wk_parts (t : Tm) (n p d : Int) (h : t.own p n = 0) : t.wk n p d = t.parts.wk (n + 1) (p + 1) (max d n) := by
  cases t with
  | mk k b i f tx by' rf l fs c vr =>
    rw [Tm.wk, if_neg (by simpa using h)]
    by_cases h8 : k = 8
    · simp [Tm.parts, h8]
    · by_cases h9 : k = 9 ∨ k = 10
      · simp [Tm.parts, h8, h9, TmF.wk_vals]
      · simp [Tm.parts, h8, h9, TmL.wk]
theorem TmF.vals_sz : (l : TmF) → l.vals.sz = l.sz
  | .nil => rfl
  | .cons _ t l => by simp [TmF.vals, TmL.sz, TmF.sz, TmF.vals_sz l]
theorem Tm.parts_sz (t : Tm) : t.parts.sz < t.sz := by
  cases t with
  | mk k b i f tx by' rf l fs c vr =>
    simp only [Tm.parts, Tm.sz]
    split
    · omega
    · split
      · rw [TmF.vals_sz]; omega
      · simp [TmL.sz]
theorem Tm.wk_own (t : Tm) (n p d : Int) (h : t.own p n ≠ 0) : t.wk n p d = ⟨p + 1, max d n, t.own p n⟩ := by
  cases t with
  | mk k b i f tx by' rf l fs c vr => rw [Tm.wk, if_pos h]
end Go.Proofs.YtjdjpbdfchhcfaaGreat

