/- Appends onto a row of bytes of one's own, as steps of a walk; tenonref02.put at terms without parts. -/
import Derived.Test.YtnndlffidifddaaGreatDoorK33
import Derived.Test.YtnndlffidifddaaGreatDoorK34
namespace Go.Proofs.YtnndlffidifddaaGreatDoor
open Go.RowKit

theorem Byts.alloc {w : World} {base : Nat} {a : Option Addr} {m cap : Nat} {l : List UInt8} (h : Byts w base a m cap l) (o : Obj) : Byts (w.alloc o) base a m cap l := ⟨h.1, h.2.alloc o⟩
theorem Byts.on {w w' : World} {base : Nat} {a : Option Addr} {m cap : Nat} {l : List UInt8} (h : Byts w base a m cap l) (hw : Below w.heap.size w w') : Byts w' base a m cap l := ⟨h.1, own_on h.2 hw⟩
/-- bytes -/
theorem wpA {ops : Array Oper} {rest : List Oper} {o : Oper} {act : Act} {Q : Exit → Act → World → Prop} (w : World) (hgd : o.guard = none) (s x : Operand) (ho : o.op = .call { callee := .builtin .append, args := #[s, x], argTypes := #[23, 23] })
    (base : Nat) (a : Option Addr) (m cap : Nat) (xs : List UInt8) (hs : act.eval s = .slice a m cap) (hn : Byts w base a m cap xs) (ys : List UInt8) (q g0 : Nat) (hq : ys.length = q) (hx : act.eval x = .slice (some ⟨g0, 0, none⟩) q q) (hys : ∀ j u, (Sp.u8c ys)[j]? = some u → w.cell? ((⟨g0, 0, none⟩ : Addr).add j) = some u) (hpos : 0 < q) (hl : m + q ≤ 70368744177664) (hb : base ≤ w.heap.size)
    (h : ∀ g p w', Byts w' base (some ⟨g, 0, none⟩) (m + q) p (xs ++ ys) → Kp base w w' → wpList Tryz.prog ops Q rest (act.put o.dst (.slice (some ⟨g, 0, none⟩) (m + q) p)) w') : wpList Tryz.prog ops Q (o :: rest) act w := by
  obtain ⟨i0, hi, hz0, hz1, hz2⟩ := info_parts Tryz.infoB
  subst hq
  refine wpList_app w hgd s x 23 ho base 5 i0 (.int .u8 0) 1 1 Tryz.undB hi hz0 hz1 hz2 rfl (by decide) _ m (Sp.u8c xs) hs hn.2 ⟨g0, 0, none⟩ ys.length ys.length (Sp.u8c ys) hx (by rw [u8c_len, Nat.mul_one]) hys (u8c_one _) hpos (by unfold maxLen; omega) (by omega) hb ?_
  intro g p w' hown hgrow _
  exact h g p w' ⟨by rw [List.length_append, ← hn.1], by rw [u8c_app]; exact hown⟩ ((Kp.refl base w).grown (v := .slice a m cap) (by cases a <;> exact hgrow) hb hn.2)
/-- a text -/
theorem wpS {ops : Array Oper} {rest : List Oper} {o : Oper} {act : Act} {Q : Exit → Act → World → Prop} (w : World) (hgd : o.guard = none) (s x : Operand) (ho : o.op = .call { callee := .builtin .append, args := #[s, x], argTypes := #[23, 9] })
    (base : Nat) (a : Option Addr) (m cap : Nat) (xs : List UInt8) (hs : act.eval s = .slice a m cap) (hn : Byts w base a m cap xs) (t : ByteArray) (hx : act.eval x = .string t) (hl : m + t.size ≤ 70368744177664) (hb : base ≤ w.heap.size)
    (h : ∀ a' p w', Byts w' base a' (m + t.size) p (xs ++ t.data.toList) → Kp base w w' → wpList Tryz.prog ops Q rest (act.put o.dst (.slice a' (m + t.size) p)) w') : wpList Tryz.prog ops Q (o :: rest) act w := by
  obtain ⟨i0, hi, hz0, hz1, hz2⟩ := info_parts Tryz.infoB
  refine Lib.wpList_append_own_string w hgd s x 23 9 ho base 5 i0 Tryz.undB Tryz.undSd hi hz0 hz1 hz2 (.slice a m cap) m (Sp.u8c xs) hs hn.2 t hx (by unfold maxLen; omega) (by omega) hb ?_
  intro v' w' hown hgrow _
  obtain ⟨a', p, rfl⟩ := own_slice_n hown
  exact h a' p w' (hn.str hown) ((Kp.refl base w).grown hgrow hb hn.2)
theorem Byts.src {w : World} {base : Nat} {a : Option Addr} {m cap : Nat} {l : List UInt8} (h : Byts w base a m cap l) : Src Tryz.prog 1 23 (.slice a m cap) m (Sp.u8c l) w := by
  obtain ⟨h1, h2⟩ := h
  rcases h2.2 with ⟨e, e0⟩ | ⟨g, c, cur, e, _⟩
  · injection e with e1 e2 e3
    subst e1 e3 e0
    obtain rfl : l = [] := List.length_eq_zero_iff.1 h1.symm
    exact Src.ofNil _ Tryz.undB 0
  · injection e with e1 e2 e3
    subst e1
    exact Src.ofSlice _ Tryz.undB ⟨g, 0, none⟩ m cap _ (by rw [u8c_len, ← h1, Nat.mul_one]) (fun j u hu => h2.cells (g := g) rfl j u hu) (u8c_one l)
/-- a row of bytes that another function made -/
theorem wpX {ops : Array Oper} {rest : List Oper} {o : Oper} {act : Act} {Q : Exit → Act → World → Prop} (w : World) (hgd : o.guard = none) (s x : Operand) (ho : o.op = .call { callee := .builtin .append, args := #[s, x], argTypes := #[23, 23] })
    (base g0 m cap : Nat) (xs : List UInt8) (hs : act.eval s = .slice (some ⟨g0, 0, none⟩) m cap) (hn : Byts w base (some ⟨g0, 0, none⟩) m cap xs) (b2 : Nat) (a2 : Option Addr) (m2 cap2 : Nat) (ys : List UInt8) (hx : act.eval x = .slice a2 m2 cap2) (hy : Byts w b2 a2 m2 cap2 ys) (hl : m + m2 ≤ 70368744177664) (hb : base ≤ w.heap.size)
    (h : ∀ g p w', Byts w' base (some ⟨g, 0, none⟩) (m + m2) p (xs ++ ys) → Kp base w w' → wpList Tryz.prog ops Q rest (act.put o.dst (.slice (some ⟨g, 0, none⟩) (m + m2) p)) w') : wpList Tryz.prog ops Q (o :: rest) act w := by
  obtain ⟨i0, hi, hz0, hz1, hz2⟩ := info_parts Tryz.infoB
  refine wpList_app_src w hgd s x 23 23 ho base 5 i0 (.int .u8 0) 1 1 Tryz.undB hi hz0 hz1 hz2 rfl g0 m cap (Sp.u8c xs) hs hn.2 (.slice a2 m2 cap2) m2 (Sp.u8c ys) hx hy.src (by unfold maxLen; omega) (by omega) hb ?_
  intro g p w' hown hgrow _
  exact h g p w' ⟨by rw [List.length_append, ← hn.1, ← hy.1], by rw [u8c_app]; exact hown⟩ ((Kp.refl base w).grown (v := .slice (some ⟨g0, 0, none⟩) m cap) hgrow hb hn.2)
theorem Kp.of {base : Nat} {w w' : World} (h : Below w.heap.size w w') (hb : base ≤ w.heap.size) : Kp base w w' := ⟨h.mono hb, fun k o hk0 _ _ => by rw [h.block k (Array.getElem?_eq_some_iff.1 hk0).1]; exact hk0⟩
theorem Kp.box {base : Nat} {w w' : World} (h : Kp base w w') {k : Nat} {c : Array Value} {T : TypeId} {fz : Nat × Nat} (hk : w.heap[k]? = some (.cells c T fz)) (hT : T ≠ 5) : w'.heap[k]? = some (.cells c T fz) :=
  h.kept k _ hk (by simp) (fun c' fz' e => by injection e with _ e2; exact hT e2)

section
variable (k : Int) (b : Bool) (i : Int) (f : Nat) (tx : ByteArray) (vb : Value) (rf : Int) (vl vf : Value) (c : ByteArray) (vr : Int)
abbrev Wp (w : World) : World := w.alloc (.cells (tcells k b i f tx vb rf vl vf c vr) 29)
set_option maxRecDepth 100000 in
set_option maxHeartbeats 2000000 in
/-- put at a term without parts, whose text is known -/
theorem put_leaf (ab : Option Addr) (nb cb : Nat) (al : Option Addr) (nl cl : Nat) (af : Option Addr) (nf cf : Nat) (ln : Bool) (d : Nat) (s : ByteArray) (xs : List UInt8) (a : Option Addr) (m cap base : Nat) (w : World) (h8 : (k != 8) = true) (h9 : (k != 9) = true) (h10 : (k != 10) = true) (h : Byts w base a m cap xs) (hb : base ≤ w.heap.size) (hl : m + s.size ≤ 70368744177664)
    (hone : ∀ W, Below (Wp k b i f tx (.slice ab nb cb) rf (.slice al nl cl) (.slice af nf cf) c vr w).heap.size (Wp k b i f tx (.slice ab nb cb) rf (.slice al nl cl) (.slice af nf cf) c vr w) W → Calls Tryz.prog 34 #[.agg (tcells k b i f tx (.slice ab nb cb) rf (.slice al nl cl) (.slice af nf cf) c vr)] W fun e w' => e = .returned (.string s) ∧ Below W.heap.size W w') :
    Calls Tryz.prog 18 #[.slice a m cap, .agg (tcells k b i f tx (.slice ab nb cb) rf (.slice al nl cl) (.slice af nf cf) c vr), .bool ln, .int .i64 (d : Int)] w (AppH base xs s.data.toList w) := by
  unfold tcells at hone ⊢
  have HO := hone
  have HO : Hid _ := HO
  have HN : Hid (Byts w base a m cap xs) := h
  clear h hone
  go_enter Tryz.func18, Tryz.ntmps18
  go_wp2_with fail
  refine (HO.out _ (Below.refl _ _)).mono ?_
  rintro e w1 ⟨rfl, hb1⟩
  have HB1 : Hid (Byts w1 base a m cap xs ∧ Kp base w w1 ∧ base ≤ w1.heap.size) := by
    have hb2 : Below w.heap.size w w1 := below_to ((Below.refl _ _).alloc (Nat.le_refl _) _) hb1
    exact ⟨HN.out.on hb2, Kp.of hb2 hb, Nat.le_trans hb hb2.size⟩
  clear hb1
  go_wp2_with (at_builtin; refine wpS _ rfl _ _ rfl base a m cap xs rfl HB1.out.1 s rfl hl HB1.out.2.2 ?_; intro a2 p2 w2 hn2 hk2; have H2 : Hid (Byts w2 base a2 (m + s.size) p2 (xs ++ s.data.toList) ∧ Kp base w w2) := ⟨hn2, HB1.out.2.1.trans hk2⟩; clear hn2 hk2)
  go_ret
  exact ⟨a2, _, p2, rfl, H2⟩
end
end Go.Proofs.YtnndlffidifddaaGreatDoor

/- tenonref02.put at a list: by what is proved of smaller terms. -/
namespace Go.Proofs.YtnndlffidifddaaGreatDoor
open Go.RowKit

theorem TmL.in_nth {w : World} {B : Nat → Prop} (ln : Bool) (q : Nat) : (l : TmL) → ∀ (a : Option Addr) (j i : Nat), l.In w B a j → i < l.len → ∃ (g o : Nat) (cs : Array Value) (t : Tm), a = some ⟨g, o, none⟩ ∧ B g ∧ (∀ x, x < 11 → w.cell? ⟨g, o + (j + i) * 11 + x, none⟩ = cs[x]?) ∧ t.In w B cs ∧ (l.texts ln q).getD i [] = t.txt ln q ∧ t.sz ≤ l.sz ∧ (∀ n, l.OkAt n → t.OkAt n)
  | .nil, a, j, i, _, hi => by simp [TmL.len] at hi
  | .cons t l, a, j, i, h, hi => by
    simp only [TmL.In] at h
    obtain ⟨g, o, v, rfl, hg, hc, ht, hl⟩ := h
    cases i with
    | zero => exact ⟨g, o, v, t, rfl, hg, hc, ht, by simp [TmL.texts], by simp [TmL.sz]; omega, fun n hn => hn.head.1⟩
    | succ i =>
      obtain ⟨g2, o2, v2, t2, e, h1, h2, h3, h4, h5, h6⟩ := TmL.in_nth ln q l _ (j + 1) i hl (by simp [TmL.len] at hi; omega)
      refine ⟨g2, o2, v2, t2, e, h1, by rw [show j + (i + 1) = j + 1 + i by omega]; exact h2, h3, by rw [TmL.texts, List.getD_cons_succ]; exact h4, by simp [TmL.sz]; omega, fun n hn => h6 n hn.head.2⟩
theorem TmF.in_nth {w : World} {B : Nat → Prop} (ln : Bool) (q : Nat) : (l : TmF) → ∀ (a : Option Addr) (j i : Nat), l.In w B a j → i < l.len → ∃ (g o : Nat) (m : ByteArray) (cs : Array Value) (t : Tm), a = some ⟨g, o, none⟩ ∧ B g ∧ w.cell? ⟨g, o + (j + i) * 12, none⟩ = some (.string m) ∧ (∀ x, x < 11 → w.cell? ⟨g, o + (j + i) * 12 + 1 + x, none⟩ = cs[x]?) ∧ t.In w B cs ∧ (l.texts ln q).getD i [] = (m.data.toList ++ [58, 32]) ++ t.txt ln q ∧ t.sz ≤ l.sz ∧ (∀ n, l.OkAt n → t.OkAt n) ∧ (l.Nm → m.size ≤ 32)
  | .nil, a, j, i, _, hi => by simp [TmF.len] at hi
  | .cons m t l, a, j, i, h, hi => by
    simp only [TmF.In] at h
    obtain ⟨g, o, v, rfl, hg, hn, hnl, hc, ht, hl⟩ := h
    cases i with
    | zero => exact ⟨g, o, m, v, t, rfl, hg, hn, hc, ht, by simp [TmF.texts], by simp [TmF.sz]; omega, fun n hn => hn.head.1, fun hm => hm.head.1⟩
    | succ i =>
      obtain ⟨g2, o2, m2, v2, t2, e, h1, h2, h2', h3, h4, h5, h6, h7⟩ := TmF.in_nth ln q l _ (j + 1) i hl (by simp [TmF.len] at hi; omega)
      refine ⟨g2, o2, m2, v2, t2, e, h1, by rw [show j + (i + 1) = j + 1 + i by omega]; exact h2, by rw [show j + (i + 1) = j + 1 + i by omega]; exact h2', h3, by rw [TmF.texts, List.getD_cons_succ]; exact h4, by simp [TmF.sz]; omega, fun n hn => h6 n hn.head.2, fun hm => h7 hm.head.2⟩
/-- the contract of put at terms of at most N parts -/
def PutC (N : Nat) : Prop := ∀ (t : Tm), t.sz ≤ N → ∀ (cs : Array Value) (w : World) (base : Nat) (a : Option Addr) (m cap : Nat) (xs : List UInt8) (ln : Bool) (d : Nat) (n : Int), t.In w (Lo base) cs → t.OkAt n → (d : Int) ≤ n → Byts w base a m cap xs → base ≤ w.heap.size → xs.length + (t.txt ln d).length ≤ 17592180000000 →
  Calls Tryz.prog 18 #[.slice a m cap, .agg cs, .bool ln, .int .i64 (d : Int)] w (AppH base xs (t.txt ln d) w)
theorem Byts.some {w : World} {base : Nat} {a : Option Addr} {m cap : Nat} {l : List UInt8} (h : Byts w base a m cap l) (hl : 0 < l.length) : ∃ g, a = some ⟨g, 0, none⟩ := by
  rcases h.2.2 with ⟨e, e0⟩ | ⟨g, c, cur, e, _⟩
  · have := h.1; omega
  · injection e with e1 e2 e3; exact ⟨g, e1⟩
/-- breaks, its length hidden -/
theorem breaks_at (ln : Bool) (d : Nat) (hd : d ≤ 1000) (W : World) : Calls Tryz.prog 35 #[.bool ln, .int .i64 (d : Int)] W fun e w' => ∃ (a : Option Addr) (m cap : Nat), e = .returned (.slice a m cap) ∧ m ≤ 3000 ∧ Hid (Byts w' W.heap.size a m cap (Sp.brk ln d) ∧ Below W.heap.size W w') := by
  refine (breaks_any ln d W (by omega)).mono ?_
  rintro e w' ⟨a, m, cap, rfl, h1, h2⟩
  exact ⟨a, m, cap, rfl, by have := Sp.brk_len ln d; rw [h1.1]; omega, h1, h2⟩

set_option maxRecDepth 100000 in
set_option maxHeartbeats 4000000 in
theorem put_8 (N : Nat) (HC : PutC N) (L : TmL) (hN : L.sz ≤ N) (b : Bool) (i : Int) (f : Nat) (tx : ByteArray) (ab : Option Addr) (nb cb : Nat) (rf : Int) (al : Option Addr) (cl : Nat) (af : Option Addr) (nf cf : Nat) (c : ByteArray) (vr : Int) (ln : Bool) (d : Nat) (n : Int) (xs : List UInt8) (a : Option Addr) (m cap base : Nat) (w : World) (hL : L.In w (Lo base) al 0) (hok : L.OkAt (n + 1)) (hd : (d : Int) ≤ n) (hn64 : n ≤ 64) (hll : L.len ≤ 4096) (h : Byts w base a m cap xs) (hb : base ≤ w.heap.size) (hl : xs.length + (L.txtB ln d).length ≤ 17592180000000) :
    Calls Tryz.prog 18 #[.slice a m cap, .agg (tcells 8 b i f tx (.slice ab nb cb) rf (.slice al L.len cl) (.slice af nf cf) c vr), .bool ln, .int .i64 (d : Int)] w (AppH base xs (L.txtB ln d) w) := by
  obtain ⟨HD, HHD⟩ : ∃ HD : List UInt8, Hid (HD = [91]) := ⟨_, show _ = _ from rfl⟩
  obtain ⟨RES, HRES⟩ : ∃ RES : List UInt8, Hid (RES = L.txtB ln d) := ⟨_, show _ = _ from rfl⟩
  rw [← HRES.out] at hl ⊢
  have HTX : Hid (RES = HD ++ (Sp.seqTo ln (d + 1) (L.texts ln (d + 1)) L.len ++ (Sp.tail ln L.len d ++ [93]))) := by
    show _ = _
    have e := TmL.texts_len ln (d + 1) L
    rw [HRES.out, HHD.out, ← TmL.brkd, Sp.brkd, e]
  have HPO : 0 < (xs ++ HD).length := by rw [HHD.out]; simp only [List.length_append, List.length_cons, List.length_nil]; omega
  have HL : Hid (xs.length + (HD ++ (Sp.seqTo ln (d + 1) (L.texts ln (d + 1)) L.len ++ (Sp.tail ln L.len d ++ [93]))).length ≤ 17592180000000) := by rw [← HTX.out]; exact hl
  have HCH : Hid (PutC N) := HC
  have HL0 : Hid (L.In w (Lo base) al 0 ∧ L.OkAt (n + 1)) := ⟨hL, hok⟩
  have HBK : Hid (∀ W, Calls Tryz.prog 35 #[.bool ln, .int .i64 ((d : Int) + 1)] W fun e w' => ∃ (a : Option Addr) (m cap : Nat), e = .returned (.slice a m cap) ∧ m ≤ 3000 ∧ Hid (Byts w' W.heap.size a m cap (Sp.brk ln (d + 1)) ∧ Below W.heap.size W w')) := fun W => by
    have := breaks_at ln (d + 1) (by omega) W
    simpa using this
  have HBE : Hid (∀ W, Calls Tryz.prog 35 #[.bool ln, .int .i64 (d : Int)] W fun e w' => ∃ (a : Option Addr) (m cap : Nat), e = .returned (.slice a m cap) ∧ m ≤ 3000 ∧ Hid (Byts w' W.heap.size a m cap (Sp.brk ln d) ∧ Below W.heap.size W w')) := fun W => breaks_at ln d (by omega) W
  have hd64 : d ≤ 64 := by omega
  have hmb0 : m ≤ 17592180000000 := by have := h.1; omega
  obtain ⟨W0, hW0⟩ : ∃ W0, W0 = (Wp 8 b i f tx (.slice ab nb cb) rf (.slice al L.len cl) (.slice af nf cf) c vr w) := ⟨_, rfl⟩
  have HKW : Hid (Kp base w W0) := by rw [hW0]; exact (Kp.refl base w).alloc hb _
  have HW0 : Hid (Below base w W0) := HKW.out.below
  have HN0 : Hid (Byts W0 base a m cap xs ∧ base ≤ W0.heap.size ∧ W0.heap.size = w.heap.size + 1) := by rw [hW0]; exact ⟨h.alloc _, by simp; omega, by simp⟩
  have HX : Hid (∀ W, Kp base W0 W → W.cell? ⟨w.heap.size, 0, none⟩ = some (.int .i64 8) ∧ W.cell? ⟨w.heap.size, 7, none⟩ = some (.slice al L.len cl) ∧ W.cell? ⟨w.heap.size, 8, none⟩ = some (.slice af nf cf)) := fun W hW => by
    have hbx := hW.box (k := w.heap.size) (c := (tcells 8 b i f tx (.slice ab nb cb) rf (.slice al L.len cl) (.slice af nf cf) c vr)) (T := 29) (fz := (0, 0)) (by rw [hW0]; exact heap_alloc_new w _) (by decide)
    obtain ⟨z0, -, -, -, -, -, -, z7, z8, -, -⟩ := tbox hbx
    exact ⟨z0, z7, z8⟩
  clear HC hL hok h hl 
  have HW0e : Hid (W0 = (Wp 8 b i f tx (.slice ab nb cb) rf (.slice al L.len cl) (.slice af nf cf) c vr w)) := hW0
  unfold tcells
  have HN0' := HN0
  rw [HW0e.out] at HN0'
  unfold Wp tcells at HN0'
  go_enter Tryz.func18, Tryz.ntmps18
  go_wp2_with (at_builtin; refine wpA _ rfl _ _ rfl base a m cap xs rfl (HN0'.out.1.alloc _) [91] 1 (w.heap.size + 1) rfl rfl (bytes_new _ [91] (by simp) rfl) (by decide) (by omega) (by have := HN0'.out.2.1; simp; omega) ?_; intro gs ps ws hns hks; obtain ⟨ms, hms⟩ : ∃ ms, ms = m + 1 := ⟨_, rfl⟩; have HS : Hid (Byts ws base (some ⟨gs, 0, none⟩) ms ps (xs ++ HD) ∧ Kp base W0 ws ∧ base ≤ ws.heap.size) := ⟨by rw [HHD.out, hms]; exact hns, by rw [HW0e.out]; exact ((Kp.refl base _).alloc HN0'.out.2.1 _).trans hks, Nat.le_trans HN0'.out.2.1 (Nat.le_trans (by simp) hks.size)⟩; obtain ⟨q0, q7, q8⟩ := HX.out ws HS.out.2.1; rw [← hms]; clear hns hks hms)
  clear HN0'

  go_loopw [0, 12] (fun u i wr => ∃ (k g1 m' p' : Nat), k ≤ L.len ∧ i = .int .i64 (k : Int) ∧ u = .slice (some ⟨g1, 0, none⟩) m' p' ∧ Hid (Byts wr base (some ⟨g1, 0, none⟩) m' p' (xs ++ HD ++ Sp.seqTo ln (d + 1) (L.texts ln (d + 1)) k) ∧ Kp base W0 wr ∧ base ≤ wr.heap.size)) (fun _ i _ => L.len - (intOf i).toNat)
  case atStart => exact ⟨0, gs, ms, ps, by omega, rfl, rfl, by simpa [Sp.seqTo] using HS⟩
  case round =>
      obtain ⟨k, g1, m', p', hk, rfl, rfl, HK⟩ := hrel
      clear HS
      by_cases hlt : k < L.len
      · obtain ⟨g9', o9, csx, t, rfl, hg9, hcx, htx, htt, hsz, hokt⟩ := L.in_nth ln (d + 1) _ 0 k HL0.out.1 hlt
        have HLB : Hid ((xs ++ HD ++ Sp.seqTo ln (d + 1) (L.texts ln (d + 1)) k).length + ((if k = 0 then ([] : List UInt8) else Sp.comma ln).length + ((Sp.brk ln (d + 1)).length + (t.txt ln (d + 1)).length)) ≤ 17592180000000) := by
          have h1 := HL.out
          have h2 := Sp.seqTo_mono ln (d + 1) (L.texts ln (d + 1)) (k := k + 1) (n := L.len) (by omega)
          rw [Sp.seqTo, htt] at h2
          show _ ≤ _
          simp only [List.length_append] at h1 h2 ⊢
          omega
        have HSQ : Hid (xs ++ HD ++ Sp.seqTo ln (d + 1) (L.texts ln (d + 1)) (k + 1) = xs ++ HD ++ Sp.seqTo ln (d + 1) (L.texts ln (d + 1)) k ++ (if k = 0 then [] else Sp.comma ln) ++ Sp.brk ln (d + 1) ++ t.txt ln (d + 1)) := by
          show _ = _
          rw [Sp.seqTo, htt]; simp only [List.append_assoc]
        have HCT : Hid (∀ (g' m' p' : Nat) (W : World) (zs : List UInt8), Byts W base (some ⟨g', 0, none⟩) m' p' zs → Kp base W0 W → base ≤ W.heap.size → zs.length + (t.txt ln (d + 1)).length ≤ 17592180000000 → Calls Tryz.prog 18 #[.slice (some ⟨g', 0, none⟩) m' p', .agg csx, .bool ln, .int .i64 ((d : Int) + 1)] W (AppH base zs (t.txt ln (d + 1)) W)) := fun g' m' p' W zs hz hk2 hb2 hl2 => by
          have := HCH.out t (by omega) csx W base _ m' p' zs ln (d + 1) (n + 1) (t.In_same (Same.of_below (HW0.out.trans hk2.below) (Nat.le_refl _)) (fun _ h => h) csx htx) (hokt _ HL0.out.2) (by omega) hz hb2 hl2
          simpa using this
        obtain ⟨kk, b', i', f', tx', ab', nb', cb', rf', al', nl', cl', af', nf', cf', c', vr', rfl⟩ : ∃ kk b' i' f' tx' ab' nb' cb' rf' al' nl' cl' af' nf' cf' c' vr', csx = tcells kk b' i' f' tx' (.slice ab' nb' cb') rf' (.slice al' nl' cl') (.slice af' nf' cf') c' vr' := by
          cases t; simp only [Tm.In] at htx; obtain ⟨_, _, _, _, _, _, rfl, _⟩ := htx; exact ⟨_, _, _, _, _, _, _, _, _, _, _, _, _, _, _, _, _, rfl⟩
        have HEL : Hid (∀ W, Kp base W0 W → ∀ x, x < 11 → W.cell? ⟨g9', o9 + k * 11 + x, none⟩ = (tcells kk b' i' f' tx' (.slice ab' nb' cb') rf' (.slice al' nl' cl') (.slice af' nf' cf') c' vr')[x]?) := fun W hW x hx => by
          rw [(HW0.out.trans hW.below).cell (p := ⟨g9', o9 + k * 11 + x, none⟩) hg9]
          have := hcx x hx
          simpa using this
        have hi0 : (0 : Int) ≤ (k : Int) := Int.natCast_nonneg _
        have hi1 : (k : Int) < (L.len : Int) := by omega
        have hmb : m' ≤ 17592180000000 := by have h1 := HK.out.1.1; have h2 := HLB.out; omega
        have HPOS : Hid (0 < (xs ++ HD).length) := HPO
        obtain ⟨q0, q7, q8⟩ := HX.out wr HK.out.2.1
        unfold tcells at HCT
        clear hcx htx hg9 hsz hokt htt 
        generalize hys : xs ++ HD ++ Sp.seqTo ln (d + 1) (L.texts ln (d + 1)) k = ys at HK HLB HSQ
        have HPOS : Hid (0 < ys.length) := by show _ < _; rw [← hys]; have := HPO; simp only [List.length_append] at this ⊢; omega
        clear hys
        by_cases hk0 : k = 0
        · have hk0' : ¬ (0 : Int) < (k : Int) := by omega
          simp only [if_pos hk0, List.append_nil, List.length_nil, Nat.zero_add] at HLB HSQ
          clear hk0
          go_wp2_with fail
          refine (HBK.out wr).mono ?_
          rintro e w5 ⟨a5, m5, p5, rfl, hm5, H5⟩
          have H5b : Hid (Byts w5 base (some ⟨g1, 0, none⟩) m' p' (ys) ∧ Kp base W0 w5 ∧ base ≤ w5.heap.size) := ⟨HK.out.1.on H5.out.2, HK.out.2.1.trans (Kp.of H5.out.2 HK.out.2.2), Nat.le_trans HK.out.2.2 H5.out.2.size⟩
          obtain ⟨s0, s7, s8⟩ := HX.out w5 H5b.out.2.1
          go_wp2_with (at_builtin; refine wpX _ rfl _ _ rfl base g1 m' p' (ys) rfl H5b.out.1 _ a5 m5 p5 _ rfl H5.out.1 (by omega) H5b.out.2.2 ?_; intro g6 p6 w6 hn6 hk6; have H6 : Hid (Byts w6 base (some ⟨g6, 0, none⟩) (m' + m5) p6 (ys ++ Sp.brk ln (d + 1)) ∧ Kp base W0 w6 ∧ base ≤ w6.heap.size) := ⟨hn6, H5b.out.2.1.trans hk6, Nat.le_trans H5b.out.2.2 hk6.size⟩; obtain ⟨u0, u7, u8⟩ := HX.out w6 H6.out.2.1; obtain ⟨e0, e1, e2, e3, e4, e5, e6, e7, e8, e9, e10⟩ := eleven (HEL.out w6 H6.out.2.1); clear hn6 hk6 s0 s7 s8)
          refine (HCT.out _ _ _ _ _ H6.out.1 H6.out.2.1 H6.out.2.2 (by have h1 := HLB.out; simp only [List.length_append]; omega)).mono ?_
          rintro e w7 ⟨a7, m7, p7, rfl, H7⟩
          obtain ⟨g7, rfl⟩ := H7.out.1.some (by have h1 := HPOS.out; simp only [List.length_append]; omega)
          have H8 : Hid (Byts w7 base (some ⟨g7, 0, none⟩) m7 p7 (xs ++ HD ++ Sp.seqTo ln (d + 1) (L.texts ln (d + 1)) (k + 1)) ∧ Kp base W0 w7 ∧ base ≤ w7.heap.size) := ⟨by rw [HSQ.out]; exact H7.out.1, H6.out.2.1.trans H7.out.2, Nat.le_trans H6.out.2.2 H7.out.2.size⟩
          go_wp2_with fail
          go_roundw
          case rel => exact ⟨k + 1, g7, m7, p7, by omega, by go_num, rfl, H8⟩
          case measure => simp [intOf]; omega
        · have hk0' : (0 : Int) < (k : Int) := by omega
          simp only [if_neg hk0] at HLB HSQ
          clear hk0
          cases ln with
          | false =>
            have HCM : Hid (Sp.comma false = [44] ++ [32]) := rfl
            go_wp2_with (first | (at_builtin; have hq := H2.out; refine wpA _ rfl _ _ rfl base (some ⟨g2, 0, none⟩) (m' + 1) p2 (ys ++ [44]) rfl (H2.out.1.alloc _) [32] 1 w2.heap.size rfl rfl (bytes_new w2 [32] rfl rfl) (by decide) (by omega) (by have := H2.out.2.2; simp; omega) ?_; intro g3 p3 w3 hn3 hk3; have H3 : Hid (Byts w3 base (some ⟨g3, 0, none⟩) (m' + 1 + 1) p3 (ys ++ Sp.comma false) ∧ Kp base W0 w3 ∧ base ≤ w3.heap.size) := ⟨by rw [HCM.out, ← List.append_assoc]; exact hn3, (H2.out.2.1.alloc H2.out.2.2 _).trans hk3, Nat.le_trans H2.out.2.2 (Nat.le_trans (by simp) hk3.size)⟩; obtain ⟨x0, x7, x8⟩ := HX.out w3 H3.out.2.1; clear hn3 hk3 y0 y7 y8) | (at_builtin; refine wpA _ rfl _ _ rfl base (some ⟨g1, 0, none⟩) m' p' ys rfl (HK.out.1.alloc _) [44] 1 wr.heap.size rfl rfl (bytes_new wr [44] rfl rfl) (by decide) (by omega) (by have := HK.out.2.2; simp; omega) ?_; intro g2 p2 w2 hn2 hk2; have H2 : Hid (Byts w2 base (some ⟨g2, 0, none⟩) (m' + 1) p2 (ys ++ [44]) ∧ Kp base W0 w2 ∧ base ≤ w2.heap.size) := ⟨hn2, (HK.out.2.1.alloc HK.out.2.2 _).trans hk2, Nat.le_trans HK.out.2.2 (Nat.le_trans (by simp) hk2.size)⟩; obtain ⟨y0, y7, y8⟩ := HX.out w2 H2.out.2.1; clear hn2 hk2))
            skip
            refine (HBK.out w3).mono ?_
            rintro e w5 ⟨a5, m5, p5, rfl, hm5, H5⟩
            have H5b : Hid (Byts w5 base (some ⟨g3, 0, none⟩) (m' + 1 + 1) p3 (ys ++ Sp.comma false) ∧ Kp base W0 w5 ∧ base ≤ w5.heap.size) := ⟨H3.out.1.on H5.out.2, H3.out.2.1.trans (Kp.of H5.out.2 H3.out.2.2), Nat.le_trans H3.out.2.2 H5.out.2.size⟩
            obtain ⟨s0, s7, s8⟩ := HX.out w5 H5b.out.2.1
            go_wp2_with (at_builtin; refine wpX _ rfl _ _ rfl base g3 (m' + 1 + 1) p3 (ys ++ Sp.comma false) rfl H5b.out.1 _ a5 m5 p5 _ rfl H5.out.1 (by omega) H5b.out.2.2 ?_; intro g6 p6 w6 hn6 hk6; have H6 : Hid (Byts w6 base (some ⟨g6, 0, none⟩) ((m' + 1 + 1) + m5) p6 (ys ++ Sp.comma false ++ Sp.brk false (d + 1)) ∧ Kp base W0 w6 ∧ base ≤ w6.heap.size) := ⟨hn6, H5b.out.2.1.trans hk6, Nat.le_trans H5b.out.2.2 hk6.size⟩; obtain ⟨u0, u7, u8⟩ := HX.out w6 H6.out.2.1; obtain ⟨e0, e1, e2, e3, e4, e5, e6, e7, e8, e9, e10⟩ := eleven (HEL.out w6 H6.out.2.1); clear hn6 hk6 s0 s7 s8)
            refine (HCT.out _ _ _ _ _ H6.out.1 H6.out.2.1 H6.out.2.2 (by have h1 := HLB.out; simp only [List.length_append]; omega)).mono ?_
            rintro e w7 ⟨a7, m7, p7, rfl, H7⟩
            obtain ⟨g7, rfl⟩ := H7.out.1.some (by have h1 := HPOS.out; simp only [List.length_append]; omega)
            have H8 : Hid (Byts w7 base (some ⟨g7, 0, none⟩) m7 p7 (xs ++ HD ++ Sp.seqTo false (d + 1) (L.texts false (d + 1)) (k + 1)) ∧ Kp base W0 w7 ∧ base ≤ w7.heap.size) := ⟨by rw [HSQ.out]; exact H7.out.1, H6.out.2.1.trans H7.out.2, Nat.le_trans H6.out.2.2 H7.out.2.size⟩
            go_wp2_with fail
            go_roundw
            case rel => exact ⟨k + 1, g7, m7, p7, by omega, by go_num, rfl, H8⟩
            case measure => simp [intOf]; omega
          | true =>
            have HCM : Hid (Sp.comma true = [44]) := rfl
            go_wp2_with (at_builtin; refine wpA _ rfl _ _ rfl base (some ⟨g1, 0, none⟩) m' p' ys rfl (HK.out.1.alloc _) [44] 1 wr.heap.size rfl rfl (bytes_new wr [44] rfl rfl) (by decide) (by omega) (by have := HK.out.2.2; simp; omega) ?_; intro g3 p3 w3 hn3 hk3; have H3 : Hid (Byts w3 base (some ⟨g3, 0, none⟩) (m' + 1) p3 (ys ++ Sp.comma true) ∧ Kp base W0 w3 ∧ base ≤ w3.heap.size) := ⟨by rw [HCM.out]; exact hn3, (HK.out.2.1.alloc HK.out.2.2 _).trans hk3, Nat.le_trans HK.out.2.2 (Nat.le_trans (by simp) hk3.size)⟩; obtain ⟨x0, x7, x8⟩ := HX.out w3 H3.out.2.1; clear hn3 hk3)
            skip
            refine (HBK.out w3).mono ?_
            rintro e w5 ⟨a5, m5, p5, rfl, hm5, H5⟩
            have H5b : Hid (Byts w5 base (some ⟨g3, 0, none⟩) (m' + 1) p3 (ys ++ Sp.comma true) ∧ Kp base W0 w5 ∧ base ≤ w5.heap.size) := ⟨H3.out.1.on H5.out.2, H3.out.2.1.trans (Kp.of H5.out.2 H3.out.2.2), Nat.le_trans H3.out.2.2 H5.out.2.size⟩
            obtain ⟨s0, s7, s8⟩ := HX.out w5 H5b.out.2.1
            go_wp2_with (at_builtin; refine wpX _ rfl _ _ rfl base g3 (m' + 1) p3 (ys ++ Sp.comma true) rfl H5b.out.1 _ a5 m5 p5 _ rfl H5.out.1 (by omega) H5b.out.2.2 ?_; intro g6 p6 w6 hn6 hk6; have H6 : Hid (Byts w6 base (some ⟨g6, 0, none⟩) ((m' + 1) + m5) p6 (ys ++ Sp.comma true ++ Sp.brk true (d + 1)) ∧ Kp base W0 w6 ∧ base ≤ w6.heap.size) := ⟨hn6, H5b.out.2.1.trans hk6, Nat.le_trans H5b.out.2.2 hk6.size⟩; obtain ⟨u0, u7, u8⟩ := HX.out w6 H6.out.2.1; obtain ⟨e0, e1, e2, e3, e4, e5, e6, e7, e8, e9, e10⟩ := eleven (HEL.out w6 H6.out.2.1); clear hn6 hk6 s0 s7 s8)
            refine (HCT.out _ _ _ _ _ H6.out.1 H6.out.2.1 H6.out.2.2 (by have h1 := HLB.out; simp only [List.length_append]; omega)).mono ?_
            rintro e w7 ⟨a7, m7, p7, rfl, H7⟩
            obtain ⟨g7, rfl⟩ := H7.out.1.some (by have h1 := HPOS.out; simp only [List.length_append]; omega)
            have H8 : Hid (Byts w7 base (some ⟨g7, 0, none⟩) m7 p7 (xs ++ HD ++ Sp.seqTo true (d + 1) (L.texts true (d + 1)) (k + 1)) ∧ Kp base W0 w7 ∧ base ≤ w7.heap.size) := ⟨by rw [HSQ.out]; exact H7.out.1, H6.out.2.1.trans H7.out.2, Nat.le_trans H6.out.2.2 H7.out.2.size⟩
            go_wp2_with fail
            go_roundw
            case rel => exact ⟨k + 1, g7, m7, p7, by omega, by go_num, rfl, H8⟩
            case measure => simp [intOf]; omega
      · obtain rfl : k = L.len := by omega
        obtain ⟨q0, q7, q8⟩ := HX.out wr HK.out.2.1
        have hmb : m' ≤ 17592180000000 := by have h1 := HK.out.1.1; have h2 := HL.out; simp only [List.length_append] at h1 h2; omega
        by_cases hn0 : L.len = 0
        · have hn0' : ¬ (0 : Int) < (L.len : Int) := by omega
          have HE : Hid (xs ++ RES = xs ++ HD ++ Sp.seqTo ln (d + 1) (L.texts ln (d + 1)) L.len ++ [93]) := by
            show _ = _
            rw [HTX.out, Sp.tail, if_pos hn0]; simp only [List.append_assoc, List.nil_append]
          clear hn0
          go_wp2_with (at_builtin; refine wpA _ rfl _ _ rfl base (some ⟨g1, 0, none⟩) m' p' _ rfl (HK.out.1.alloc _) [93] 1 wr.heap.size rfl rfl (bytes_new wr [93] rfl rfl) (by decide) (by omega) (by have := HK.out.2.2; simp; omega) ?_; intro g3 p3 w3 hn3 hk3; have H3 : Hid (Byts w3 base (some ⟨g3, 0, none⟩) (m' + 1) p3 (xs ++ RES) ∧ Kp base w w3) := ⟨by rw [HE.out]; exact hn3, HKW.out.trans ((HK.out.2.1.alloc HK.out.2.2 _).trans hk3)⟩; clear hn3 hk3)
          go_ret
          exact ⟨_, _, p3, rfl, H3⟩
        · have hn0' : (0 : Int) < (L.len : Int) := by omega
          have HE : Hid (xs ++ RES = xs ++ HD ++ Sp.seqTo ln (d + 1) (L.texts ln (d + 1)) L.len ++ Sp.brk ln d ++ [93]) := by
            show _ = _
            rw [HTX.out, Sp.tail, if_neg hn0]; simp only [List.append_assoc]
          clear hn0
          go_wp2_with fail
          refine (HBE.out wr).mono ?_
          rintro e w5 ⟨a5, m5, p5, rfl, hm5, H5⟩
          have H5b : Hid (Byts w5 base (some ⟨g1, 0, none⟩) m' p' (xs ++ HD ++ Sp.seqTo ln (d + 1) (L.texts ln (d + 1)) L.len) ∧ Kp base W0 w5 ∧ base ≤ w5.heap.size) := ⟨HK.out.1.on H5.out.2, HK.out.2.1.trans (Kp.of H5.out.2 HK.out.2.2), Nat.le_trans HK.out.2.2 H5.out.2.size⟩
          go_wp2_with (first | (at_builtin; have hq := H6.out; refine wpA _ rfl _ _ rfl base (some ⟨g6, 0, none⟩) (m' + m5) p6 _ rfl (H6.out.1.alloc _) [93] 1 w6.heap.size rfl rfl (bytes_new w6 [93] rfl rfl) (by decide) (by omega) (by have := H6.out.2.2; simp; omega) ?_; intro g3 p3 w3 hn3 hk3; have H3 : Hid (Byts w3 base (some ⟨g3, 0, none⟩) (m' + m5 + 1) p3 (xs ++ RES) ∧ Kp base w w3) := ⟨by rw [HE.out]; exact hn3, HKW.out.trans ((H6.out.2.1.alloc H6.out.2.2 _).trans hk3)⟩; clear hn3 hk3) | (at_builtin; refine wpX _ rfl _ _ rfl base g1 m' p' _ rfl H5b.out.1 _ a5 m5 p5 _ rfl H5.out.1 (by omega) H5b.out.2.2 ?_; intro g6 p6 w6 hn6 hk6; have H6 : Hid (Byts w6 base (some ⟨g6, 0, none⟩) (m' + m5) p6 (xs ++ HD ++ Sp.seqTo ln (d + 1) (L.texts ln (d + 1)) L.len ++ Sp.brk ln d) ∧ Kp base W0 w6 ∧ base ≤ w6.heap.size) := ⟨hn6, H5b.out.2.1.trans hk6, Nat.le_trans H5b.out.2.2 hk6.size⟩; clear hn6 hk6))
          go_ret
          exact ⟨_, _, p3, rfl, H3⟩
end Go.Proofs.YtnndlffidifddaaGreatDoor

/- tenonref02.put at a dict: by what is proved of smaller terms. -/
namespace Go.Proofs.YtnndlffidifddaaGreatDoor
open Go.RowKit

set_option maxRecDepth 100000 in
set_option maxHeartbeats 4000000 in
theorem put_9 (N : Nat) (HC : PutC N) (L : TmF) (hN : L.sz ≤ N) (b : Bool) (i : Int) (f : Nat) (tx : ByteArray) (ab : Option Addr) (nb cb : Nat) (rf : Int) (al : Option Addr) (nl cl : Nat) (af : Option Addr) (cf : Nat) (c : ByteArray) (vr : Int) (ln : Bool) (d : Nat) (n : Int) (xs : List UInt8) (a : Option Addr) (m cap base : Nat) (w : World) (hL : L.In w (Lo base) af 0) (hok : L.OkAt (n + 1)) (hd : (d : Int) ≤ n) (hn64 : n ≤ 64) (hnm : L.Nm) (hll : L.len ≤ 4096) (h : Byts w base a m cap xs) (hb : base ≤ w.heap.size) (hl : xs.length + (L.txtB ln d).length ≤ 17592180000000) :
    Calls Tryz.prog 18 #[.slice a m cap, .agg (tcells 9 b i f tx (.slice ab nb cb) rf (.slice al nl cl) (.slice af L.len cf) c vr), .bool ln, .int .i64 (d : Int)] w (AppH base xs (L.txtB ln d) w) := by
  obtain ⟨HD, HHD⟩ : ∃ HD : List UInt8, Hid (HD = [123]) := ⟨_, show _ = _ from rfl⟩
  obtain ⟨RES, HRES⟩ : ∃ RES : List UInt8, Hid (RES = L.txtB ln d) := ⟨_, show _ = _ from rfl⟩
  rw [← HRES.out] at hl ⊢
  have HTX : Hid (RES = HD ++ (Sp.seqTo ln (d + 1) (L.texts ln (d + 1)) L.len ++ (Sp.tail ln L.len d ++ [125]))) := by
    show _ = _
    have e := TmF.texts_len ln (d + 1) L
    rw [HRES.out, HHD.out, ← TmF.brkd, Sp.brkd, e]
  have HPO : 0 < (xs ++ HD).length := by rw [HHD.out]; simp only [List.length_append, List.length_cons, List.length_nil]; omega
  have HL : Hid (xs.length + (HD ++ (Sp.seqTo ln (d + 1) (L.texts ln (d + 1)) L.len ++ (Sp.tail ln L.len d ++ [125]))).length ≤ 17592180000000) := by rw [← HTX.out]; exact hl
  have HCH : Hid (PutC N) := HC
  have HL0 : Hid (L.In w (Lo base) af 0 ∧ L.OkAt (n + 1)) := ⟨hL, hok⟩
  have HNM : Hid L.Nm := hnm
  have HBK : Hid (∀ W, Calls Tryz.prog 35 #[.bool ln, .int .i64 ((d : Int) + 1)] W fun e w' => ∃ (a : Option Addr) (m cap : Nat), e = .returned (.slice a m cap) ∧ m ≤ 3000 ∧ Hid (Byts w' W.heap.size a m cap (Sp.brk ln (d + 1)) ∧ Below W.heap.size W w')) := fun W => by
    have := breaks_at ln (d + 1) (by omega) W
    simpa using this
  have HBE : Hid (∀ W, Calls Tryz.prog 35 #[.bool ln, .int .i64 (d : Int)] W fun e w' => ∃ (a : Option Addr) (m cap : Nat), e = .returned (.slice a m cap) ∧ m ≤ 3000 ∧ Hid (Byts w' W.heap.size a m cap (Sp.brk ln d) ∧ Below W.heap.size W w')) := fun W => breaks_at ln d (by omega) W
  have hd64 : d ≤ 64 := by omega
  have hmb0 : m ≤ 17592180000000 := by have := h.1; omega
  obtain ⟨W0, hW0⟩ : ∃ W0, W0 = (Wp 9 b i f tx (.slice ab nb cb) rf (.slice al nl cl) (.slice af L.len cf) c vr w) := ⟨_, rfl⟩
  have HKW : Hid (Kp base w W0) := by rw [hW0]; exact (Kp.refl base w).alloc hb _
  have HW0 : Hid (Below base w W0) := HKW.out.below
  have HN0 : Hid (Byts W0 base a m cap xs ∧ base ≤ W0.heap.size ∧ W0.heap.size = w.heap.size + 1) := by rw [hW0]; exact ⟨h.alloc _, by simp; omega, by simp⟩
  have HX : Hid (∀ W, Kp base W0 W → W.cell? ⟨w.heap.size, 0, none⟩ = some (.int .i64 9) ∧ W.cell? ⟨w.heap.size, 7, none⟩ = some (.slice al nl cl) ∧ W.cell? ⟨w.heap.size, 8, none⟩ = some (.slice af L.len cf)) := fun W hW => by
    have hbx := hW.box (k := w.heap.size) (c := (tcells 9 b i f tx (.slice ab nb cb) rf (.slice al nl cl) (.slice af L.len cf) c vr)) (T := 29) (fz := (0, 0)) (by rw [hW0]; exact heap_alloc_new w _) (by decide)
    obtain ⟨z0, -, -, -, -, -, -, z7, z8, -, -⟩ := tbox hbx
    exact ⟨z0, z7, z8⟩
  clear HC hL hok h hl hnm
  have HW0e : Hid (W0 = (Wp 9 b i f tx (.slice ab nb cb) rf (.slice al nl cl) (.slice af L.len cf) c vr w)) := hW0
  unfold tcells
  have HN0' := HN0
  rw [HW0e.out] at HN0'
  unfold Wp tcells at HN0'
  go_enter Tryz.func18, Tryz.ntmps18
  go_wp2_with (at_builtin; refine wpA _ rfl _ _ rfl base a m cap xs rfl (HN0'.out.1.alloc _) [123] 1 (w.heap.size + 1) rfl rfl (bytes_new _ [123] (by simp) rfl) (by decide) (by omega) (by have := HN0'.out.2.1; simp; omega) ?_; intro gs ps ws hns hks; obtain ⟨ms, hms⟩ : ∃ ms, ms = m + 1 := ⟨_, rfl⟩; have HS : Hid (Byts ws base (some ⟨gs, 0, none⟩) ms ps (xs ++ HD) ∧ Kp base W0 ws ∧ base ≤ ws.heap.size) := ⟨by rw [HHD.out, hms]; exact hns, by rw [HW0e.out]; exact ((Kp.refl base _).alloc HN0'.out.2.1 _).trans hks, Nat.le_trans HN0'.out.2.1 (Nat.le_trans (by simp) hks.size)⟩; obtain ⟨q0, q7, q8⟩ := HX.out ws HS.out.2.1; rw [← hms]; clear hns hks hms)
  clear HN0'

  go_loopw [0, 12] (fun u i wr => ∃ (k g1 m' p' : Nat), k ≤ L.len ∧ i = .int .i64 (k : Int) ∧ u = .slice (some ⟨g1, 0, none⟩) m' p' ∧ Hid (Byts wr base (some ⟨g1, 0, none⟩) m' p' (xs ++ HD ++ Sp.seqTo ln (d + 1) (L.texts ln (d + 1)) k) ∧ Kp base W0 wr ∧ base ≤ wr.heap.size)) (fun _ i _ => L.len - (intOf i).toNat)
  case atStart => exact ⟨0, gs, ms, ps, by omega, rfl, rfl, by simpa [Sp.seqTo] using HS⟩
  case round =>
      obtain ⟨k, g1, m', p', hk, rfl, rfl, HK⟩ := hrel
      clear HS
      by_cases hlt : k < L.len
      · obtain ⟨g9', o9, nm, csx, t, rfl, hg9, hnx, hcx, htx, htt, hsz, hokt, hnm⟩ := L.in_nth ln (d + 1) _ 0 k HL0.out.1 hlt
        have hnm32 := hnm HNM.out
        have hnml : nm.data.toList.length = nm.size := by rw [Array.length_toList]; rfl
        have HLB : Hid ((xs ++ HD ++ Sp.seqTo ln (d + 1) (L.texts ln (d + 1)) k).length + ((if k = 0 then ([] : List UInt8) else Sp.comma ln).length + ((Sp.brk ln (d + 1)).length + (nm.data.toList.length + 2 + (t.txt ln (d + 1)).length))) ≤ 17592180000000) := by
          have h1 := HL.out
          have h2 := Sp.seqTo_mono ln (d + 1) (L.texts ln (d + 1)) (k := k + 1) (n := L.len) (by omega)
          rw [Sp.seqTo, htt] at h2
          show _ ≤ _
          simp only [List.length_append, List.length_cons, List.length_nil] at h1 h2 ⊢
          omega
        have HSQ : Hid (xs ++ HD ++ Sp.seqTo ln (d + 1) (L.texts ln (d + 1)) (k + 1) = xs ++ HD ++ Sp.seqTo ln (d + 1) (L.texts ln (d + 1)) k ++ (if k = 0 then [] else Sp.comma ln) ++ Sp.brk ln (d + 1) ++ nm.data.toList ++ [58, 32] ++ t.txt ln (d + 1)) := by
          show _ = _
          rw [Sp.seqTo, htt]; simp only [List.append_assoc]
        have HCT : Hid (∀ (g' m' p' : Nat) (W : World) (zs : List UInt8), Byts W base (some ⟨g', 0, none⟩) m' p' zs → Kp base W0 W → base ≤ W.heap.size → zs.length + (t.txt ln (d + 1)).length ≤ 17592180000000 → Calls Tryz.prog 18 #[.slice (some ⟨g', 0, none⟩) m' p', .agg csx, .bool ln, .int .i64 ((d : Int) + 1)] W (AppH base zs (t.txt ln (d + 1)) W)) := fun g' m' p' W zs hz hk2 hb2 hl2 => by
          have := HCH.out t (by omega) csx W base _ m' p' zs ln (d + 1) (n + 1) (t.In_same (Same.of_below (HW0.out.trans hk2.below) (Nat.le_refl _)) (fun _ h => h) csx htx) (hokt _ HL0.out.2) (by omega) hz hb2 hl2
          simpa using this
        obtain ⟨kk, b', i', f', tx', ab', nb', cb', rf', al', nl', cl', af', nf', cf', c', vr', rfl⟩ : ∃ kk b' i' f' tx' ab' nb' cb' rf' al' nl' cl' af' nf' cf' c' vr', csx = tcells kk b' i' f' tx' (.slice ab' nb' cb') rf' (.slice al' nl' cl') (.slice af' nf' cf') c' vr' := by
          cases t; simp only [Tm.In] at htx; obtain ⟨_, _, _, _, _, _, rfl, _⟩ := htx; exact ⟨_, _, _, _, _, _, _, _, _, _, _, _, _, _, _, _, _, rfl⟩
        have HEL : Hid (∀ W, Kp base W0 W → W.cell? ⟨g9', o9 + k * 12, none⟩ = some (.string nm) ∧ W.cell? ⟨g9', o9 + k * 12 + 1, none⟩ = some (.int .i64 kk) ∧ W.cell? ⟨g9', o9 + k * 12 + 1 + 1, none⟩ = some (.bool b') ∧ W.cell? ⟨g9', o9 + k * 12 + 1 + 2, none⟩ = some (.int .i64 i') ∧ W.cell? ⟨g9', o9 + k * 12 + 1 + 3, none⟩ = some (.float .f64 f') ∧ W.cell? ⟨g9', o9 + k * 12 + 1 + 4, none⟩ = some (.string tx') ∧ W.cell? ⟨g9', o9 + k * 12 + 1 + 5, none⟩ = some (.slice ab' nb' cb') ∧ W.cell? ⟨g9', o9 + k * 12 + 1 + 6, none⟩ = some (.int .u64 rf') ∧ W.cell? ⟨g9', o9 + k * 12 + 1 + 7, none⟩ = some (.slice al' nl' cl') ∧ W.cell? ⟨g9', o9 + k * 12 + 1 + 8, none⟩ = some (.slice af' nf' cf') ∧ W.cell? ⟨g9', o9 + k * 12 + 1 + 9, none⟩ = some (.string c') ∧ W.cell? ⟨g9', o9 + k * 12 + 1 + 10, none⟩ = some (.int .i64 vr')) := fun W hW => by
          refine ⟨?_, eleven (o := o9 + k * 12 + 1) (fun x hx => ?_)⟩
          · rw [(HW0.out.trans hW.below).cell (p := ⟨g9', o9 + k * 12, none⟩) hg9]; simpa using hnx
          · rw [(HW0.out.trans hW.below).cell (p := ⟨g9', o9 + k * 12 + 1 + x, none⟩) hg9]
            have := hcx x hx
            simpa using this
        have hi0 : (0 : Int) ≤ (k : Int) := Int.natCast_nonneg _
        have hi1 : (k : Int) < (L.len : Int) := by omega
        have hmb : m' ≤ 17592180000000 := by have h1 := HK.out.1.1; have h2 := HLB.out; omega
        have HPOS : Hid (0 < (xs ++ HD).length) := HPO
        obtain ⟨q0, q7, q8⟩ := HX.out wr HK.out.2.1
        unfold tcells at HCT
        clear hcx htx hg9 hsz hokt htt hnx hnm hnml
        generalize hys : xs ++ HD ++ Sp.seqTo ln (d + 1) (L.texts ln (d + 1)) k = ys at HK HLB HSQ
        have HPOS : Hid (0 < ys.length) := by show _ < _; rw [← hys]; have := HPO; simp only [List.length_append] at this ⊢; omega
        clear hys
        by_cases hk0 : k = 0
        · have hk0' : ¬ (0 : Int) < (k : Int) := by omega
          simp only [if_pos hk0, List.append_nil, List.length_nil, Nat.zero_add] at HLB HSQ
          clear hk0
          go_wp2_with fail
          refine (HBK.out wr).mono ?_
          rintro e w5 ⟨a5, m5, p5, rfl, hm5, H5⟩
          have H5b : Hid (Byts w5 base (some ⟨g1, 0, none⟩) m' p' (ys) ∧ Kp base W0 w5 ∧ base ≤ w5.heap.size) := ⟨HK.out.1.on H5.out.2, HK.out.2.1.trans (Kp.of H5.out.2 HK.out.2.2), Nat.le_trans HK.out.2.2 H5.out.2.size⟩
          obtain ⟨s0, s7, s8⟩ := HX.out w5 H5b.out.2.1
          obtain ⟨r0, e0, e1, e2, e3, e4, e5, e6, e7, e8, e9, e10⟩ := HEL.out w5 H5b.out.2.1
          go_wp2_with (first | (at_builtin; have hq := H10.out; refine wpA _ rfl _ _ rfl base (some ⟨g10, 0, none⟩) (m' + m5 + nm.size) p10 _ rfl (H10.out.1.alloc _) [58, 32] 2 w10.heap.size rfl rfl (bytes_new w10 [58, 32] rfl rfl) (by decide) (by omega) (by have := H10.out.2.2; simp; omega) ?_; intro g11 p11 w11 hn11 hk11; have H6 : Hid (Byts w11 base (some ⟨g11, 0, none⟩) (m' + m5 + nm.size + 2) p11 (ys ++ Sp.brk ln (d + 1) ++ nm.data.toList ++ [58, 32]) ∧ Kp base W0 w11 ∧ base ≤ w11.heap.size) := ⟨hn11, (H10.out.2.1.alloc H10.out.2.2 _).trans hk11, Nat.le_trans H10.out.2.2 (Nat.le_trans (by simp) hk11.size)⟩; obtain ⟨u0, u7, u8⟩ := HX.out w11 H6.out.2.1; clear r0 e0 e1 e2 e3 e4 e5 e6 e7 e8 e9 e10; obtain ⟨r0, e0, e1, e2, e3, e4, e5, e6, e7, e8, e9, e10⟩ := HEL.out w11 H6.out.2.1; clear hn11 hk11 t0 t7 t8) | (at_builtin; have hq := H9.out; refine wpS _ rfl _ _ rfl base (some ⟨g9, 0, none⟩) (m' + m5) p9 _ rfl H9.out.1 nm rfl (by omega) H9.out.2.2 ?_; intro a10 p10 w10 hn10 hk10; obtain ⟨g10, rfl⟩ := hn10.some (by have h1 := HPOS.out; simp only [List.length_append]; omega); have H10 : Hid (Byts w10 base (some ⟨g10, 0, none⟩) (m' + m5 + nm.size) p10 (ys ++ Sp.brk ln (d + 1) ++ nm.data.toList) ∧ Kp base W0 w10 ∧ base ≤ w10.heap.size) := ⟨hn10, H9.out.2.1.trans hk10, Nat.le_trans H9.out.2.2 hk10.size⟩; obtain ⟨t0, t7, t8⟩ := HX.out w10 H10.out.2.1; clear r0 e0 e1 e2 e3 e4 e5 e6 e7 e8 e9 e10; obtain ⟨r0, e0, e1, e2, e3, e4, e5, e6, e7, e8, e9, e10⟩ := HEL.out w10 H10.out.2.1; clear hn10 hk10 v0 v7 v8) | (at_builtin; refine wpX _ rfl _ _ rfl base g1 m' p' (ys) rfl H5b.out.1 _ a5 m5 p5 _ rfl H5.out.1 (by omega) H5b.out.2.2 ?_; intro g9 p9 w9 hn9 hk9; have H9 : Hid (Byts w9 base (some ⟨g9, 0, none⟩) (m' + m5) p9 (ys ++ Sp.brk ln (d + 1)) ∧ Kp base W0 w9 ∧ base ≤ w9.heap.size) := ⟨hn9, H5b.out.2.1.trans hk9, Nat.le_trans H5b.out.2.2 hk9.size⟩; obtain ⟨v0, v7, v8⟩ := HX.out w9 H9.out.2.1; clear r0 e0 e1 e2 e3 e4 e5 e6 e7 e8 e9 e10; obtain ⟨r0, e0, e1, e2, e3, e4, e5, e6, e7, e8, e9, e10⟩ := HEL.out w9 H9.out.2.1; clear hn9 hk9 s0 s7 s8))
          refine (HCT.out _ _ _ _ _ H6.out.1 H6.out.2.1 H6.out.2.2 (by have h1 := HLB.out; simp only [List.length_append, List.length_cons, List.length_nil]; omega)).mono ?_
          rintro e w7 ⟨a7, m7, p7, rfl, H7⟩
          obtain ⟨g7, rfl⟩ := H7.out.1.some (by have h1 := HPOS.out; simp only [List.length_append]; omega)
          have H8 : Hid (Byts w7 base (some ⟨g7, 0, none⟩) m7 p7 (xs ++ HD ++ Sp.seqTo ln (d + 1) (L.texts ln (d + 1)) (k + 1)) ∧ Kp base W0 w7 ∧ base ≤ w7.heap.size) := ⟨by rw [HSQ.out]; simpa only [List.append_assoc] using H7.out.1, H6.out.2.1.trans H7.out.2, Nat.le_trans H6.out.2.2 H7.out.2.size⟩
          go_wp2_with fail
          go_roundw
          case rel => exact ⟨k + 1, g7, m7, p7, by omega, by go_num, rfl, H8⟩
          case measure => simp [intOf]; omega
        · have hk0' : (0 : Int) < (k : Int) := by omega
          simp only [if_neg hk0] at HLB HSQ
          clear hk0
          cases ln with
          | false =>
            have HCM : Hid (Sp.comma false = [44] ++ [32]) := rfl
            go_wp2_with (first | (at_builtin; have hq := H2.out; refine wpA _ rfl _ _ rfl base (some ⟨g2, 0, none⟩) (m' + 1) p2 (ys ++ [44]) rfl (H2.out.1.alloc _) [32] 1 w2.heap.size rfl rfl (bytes_new w2 [32] rfl rfl) (by decide) (by omega) (by have := H2.out.2.2; simp; omega) ?_; intro g3 p3 w3 hn3 hk3; have H3 : Hid (Byts w3 base (some ⟨g3, 0, none⟩) (m' + 1 + 1) p3 (ys ++ Sp.comma false) ∧ Kp base W0 w3 ∧ base ≤ w3.heap.size) := ⟨by rw [HCM.out, ← List.append_assoc]; exact hn3, (H2.out.2.1.alloc H2.out.2.2 _).trans hk3, Nat.le_trans H2.out.2.2 (Nat.le_trans (by simp) hk3.size)⟩; obtain ⟨x0, x7, x8⟩ := HX.out w3 H3.out.2.1; clear hn3 hk3 y0 y7 y8) | (at_builtin; refine wpA _ rfl _ _ rfl base (some ⟨g1, 0, none⟩) m' p' ys rfl (HK.out.1.alloc _) [44] 1 wr.heap.size rfl rfl (bytes_new wr [44] rfl rfl) (by decide) (by omega) (by have := HK.out.2.2; simp; omega) ?_; intro g2 p2 w2 hn2 hk2; have H2 : Hid (Byts w2 base (some ⟨g2, 0, none⟩) (m' + 1) p2 (ys ++ [44]) ∧ Kp base W0 w2 ∧ base ≤ w2.heap.size) := ⟨hn2, (HK.out.2.1.alloc HK.out.2.2 _).trans hk2, Nat.le_trans HK.out.2.2 (Nat.le_trans (by simp) hk2.size)⟩; obtain ⟨y0, y7, y8⟩ := HX.out w2 H2.out.2.1; clear hn2 hk2))
            skip
            refine (HBK.out w3).mono ?_
            rintro e w5 ⟨a5, m5, p5, rfl, hm5, H5⟩
            have H5b : Hid (Byts w5 base (some ⟨g3, 0, none⟩) (m' + 1 + 1) p3 (ys ++ Sp.comma false) ∧ Kp base W0 w5 ∧ base ≤ w5.heap.size) := ⟨H3.out.1.on H5.out.2, H3.out.2.1.trans (Kp.of H5.out.2 H3.out.2.2), Nat.le_trans H3.out.2.2 H5.out.2.size⟩
            obtain ⟨s0, s7, s8⟩ := HX.out w5 H5b.out.2.1
            obtain ⟨r0, e0, e1, e2, e3, e4, e5, e6, e7, e8, e9, e10⟩ := HEL.out w5 H5b.out.2.1
            go_wp2_with (first | (at_builtin; have hq := H10.out; refine wpA _ rfl _ _ rfl base (some ⟨g10, 0, none⟩) ((m' + 1 + 1) + m5 + nm.size) p10 _ rfl (H10.out.1.alloc _) [58, 32] 2 w10.heap.size rfl rfl (bytes_new w10 [58, 32] rfl rfl) (by decide) (by omega) (by have := H10.out.2.2; simp; omega) ?_; intro g11 p11 w11 hn11 hk11; have H6 : Hid (Byts w11 base (some ⟨g11, 0, none⟩) ((m' + 1 + 1) + m5 + nm.size + 2) p11 (ys ++ Sp.comma false ++ Sp.brk false (d + 1) ++ nm.data.toList ++ [58, 32]) ∧ Kp base W0 w11 ∧ base ≤ w11.heap.size) := ⟨hn11, (H10.out.2.1.alloc H10.out.2.2 _).trans hk11, Nat.le_trans H10.out.2.2 (Nat.le_trans (by simp) hk11.size)⟩; obtain ⟨u0, u7, u8⟩ := HX.out w11 H6.out.2.1; clear r0 e0 e1 e2 e3 e4 e5 e6 e7 e8 e9 e10; obtain ⟨r0, e0, e1, e2, e3, e4, e5, e6, e7, e8, e9, e10⟩ := HEL.out w11 H6.out.2.1; clear hn11 hk11 t0 t7 t8) | (at_builtin; have hq := H9.out; refine wpS _ rfl _ _ rfl base (some ⟨g9, 0, none⟩) ((m' + 1 + 1) + m5) p9 _ rfl H9.out.1 nm rfl (by omega) H9.out.2.2 ?_; intro a10 p10 w10 hn10 hk10; obtain ⟨g10, rfl⟩ := hn10.some (by have h1 := HPOS.out; simp only [List.length_append]; omega); have H10 : Hid (Byts w10 base (some ⟨g10, 0, none⟩) ((m' + 1 + 1) + m5 + nm.size) p10 (ys ++ Sp.comma false ++ Sp.brk false (d + 1) ++ nm.data.toList) ∧ Kp base W0 w10 ∧ base ≤ w10.heap.size) := ⟨hn10, H9.out.2.1.trans hk10, Nat.le_trans H9.out.2.2 hk10.size⟩; obtain ⟨t0, t7, t8⟩ := HX.out w10 H10.out.2.1; clear r0 e0 e1 e2 e3 e4 e5 e6 e7 e8 e9 e10; obtain ⟨r0, e0, e1, e2, e3, e4, e5, e6, e7, e8, e9, e10⟩ := HEL.out w10 H10.out.2.1; clear hn10 hk10 v0 v7 v8) | (at_builtin; refine wpX _ rfl _ _ rfl base g3 (m' + 1 + 1) p3 (ys ++ Sp.comma false) rfl H5b.out.1 _ a5 m5 p5 _ rfl H5.out.1 (by omega) H5b.out.2.2 ?_; intro g9 p9 w9 hn9 hk9; have H9 : Hid (Byts w9 base (some ⟨g9, 0, none⟩) ((m' + 1 + 1) + m5) p9 (ys ++ Sp.comma false ++ Sp.brk false (d + 1)) ∧ Kp base W0 w9 ∧ base ≤ w9.heap.size) := ⟨hn9, H5b.out.2.1.trans hk9, Nat.le_trans H5b.out.2.2 hk9.size⟩; obtain ⟨v0, v7, v8⟩ := HX.out w9 H9.out.2.1; clear r0 e0 e1 e2 e3 e4 e5 e6 e7 e8 e9 e10; obtain ⟨r0, e0, e1, e2, e3, e4, e5, e6, e7, e8, e9, e10⟩ := HEL.out w9 H9.out.2.1; clear hn9 hk9 s0 s7 s8))
            refine (HCT.out _ _ _ _ _ H6.out.1 H6.out.2.1 H6.out.2.2 (by have h1 := HLB.out; simp only [List.length_append, List.length_cons, List.length_nil]; omega)).mono ?_
            rintro e w7 ⟨a7, m7, p7, rfl, H7⟩
            obtain ⟨g7, rfl⟩ := H7.out.1.some (by have h1 := HPOS.out; simp only [List.length_append]; omega)
            have H8 : Hid (Byts w7 base (some ⟨g7, 0, none⟩) m7 p7 (xs ++ HD ++ Sp.seqTo false (d + 1) (L.texts false (d + 1)) (k + 1)) ∧ Kp base W0 w7 ∧ base ≤ w7.heap.size) := ⟨by rw [HSQ.out]; simpa only [List.append_assoc] using H7.out.1, H6.out.2.1.trans H7.out.2, Nat.le_trans H6.out.2.2 H7.out.2.size⟩
            go_wp2_with fail
            go_roundw
            case rel => exact ⟨k + 1, g7, m7, p7, by omega, by go_num, rfl, H8⟩
            case measure => simp [intOf]; omega
          | true =>
            have HCM : Hid (Sp.comma true = [44]) := rfl
            go_wp2_with (at_builtin; refine wpA _ rfl _ _ rfl base (some ⟨g1, 0, none⟩) m' p' ys rfl (HK.out.1.alloc _) [44] 1 wr.heap.size rfl rfl (bytes_new wr [44] rfl rfl) (by decide) (by omega) (by have := HK.out.2.2; simp; omega) ?_; intro g3 p3 w3 hn3 hk3; have H3 : Hid (Byts w3 base (some ⟨g3, 0, none⟩) (m' + 1) p3 (ys ++ Sp.comma true) ∧ Kp base W0 w3 ∧ base ≤ w3.heap.size) := ⟨by rw [HCM.out]; exact hn3, (HK.out.2.1.alloc HK.out.2.2 _).trans hk3, Nat.le_trans HK.out.2.2 (Nat.le_trans (by simp) hk3.size)⟩; obtain ⟨x0, x7, x8⟩ := HX.out w3 H3.out.2.1; clear hn3 hk3)
            skip
            refine (HBK.out w3).mono ?_
            rintro e w5 ⟨a5, m5, p5, rfl, hm5, H5⟩
            have H5b : Hid (Byts w5 base (some ⟨g3, 0, none⟩) (m' + 1) p3 (ys ++ Sp.comma true) ∧ Kp base W0 w5 ∧ base ≤ w5.heap.size) := ⟨H3.out.1.on H5.out.2, H3.out.2.1.trans (Kp.of H5.out.2 H3.out.2.2), Nat.le_trans H3.out.2.2 H5.out.2.size⟩
            obtain ⟨s0, s7, s8⟩ := HX.out w5 H5b.out.2.1
            obtain ⟨r0, e0, e1, e2, e3, e4, e5, e6, e7, e8, e9, e10⟩ := HEL.out w5 H5b.out.2.1
            go_wp2_with (first | (at_builtin; have hq := H10.out; refine wpA _ rfl _ _ rfl base (some ⟨g10, 0, none⟩) ((m' + 1) + m5 + nm.size) p10 _ rfl (H10.out.1.alloc _) [58, 32] 2 w10.heap.size rfl rfl (bytes_new w10 [58, 32] rfl rfl) (by decide) (by omega) (by have := H10.out.2.2; simp; omega) ?_; intro g11 p11 w11 hn11 hk11; have H6 : Hid (Byts w11 base (some ⟨g11, 0, none⟩) ((m' + 1) + m5 + nm.size + 2) p11 (ys ++ Sp.comma true ++ Sp.brk true (d + 1) ++ nm.data.toList ++ [58, 32]) ∧ Kp base W0 w11 ∧ base ≤ w11.heap.size) := ⟨hn11, (H10.out.2.1.alloc H10.out.2.2 _).trans hk11, Nat.le_trans H10.out.2.2 (Nat.le_trans (by simp) hk11.size)⟩; obtain ⟨u0, u7, u8⟩ := HX.out w11 H6.out.2.1; clear r0 e0 e1 e2 e3 e4 e5 e6 e7 e8 e9 e10; obtain ⟨r0, e0, e1, e2, e3, e4, e5, e6, e7, e8, e9, e10⟩ := HEL.out w11 H6.out.2.1; clear hn11 hk11 t0 t7 t8) | (at_builtin; have hq := H9.out; refine wpS _ rfl _ _ rfl base (some ⟨g9, 0, none⟩) ((m' + 1) + m5) p9 _ rfl H9.out.1 nm rfl (by omega) H9.out.2.2 ?_; intro a10 p10 w10 hn10 hk10; obtain ⟨g10, rfl⟩ := hn10.some (by have h1 := HPOS.out; simp only [List.length_append]; omega); have H10 : Hid (Byts w10 base (some ⟨g10, 0, none⟩) ((m' + 1) + m5 + nm.size) p10 (ys ++ Sp.comma true ++ Sp.brk true (d + 1) ++ nm.data.toList) ∧ Kp base W0 w10 ∧ base ≤ w10.heap.size) := ⟨hn10, H9.out.2.1.trans hk10, Nat.le_trans H9.out.2.2 hk10.size⟩; obtain ⟨t0, t7, t8⟩ := HX.out w10 H10.out.2.1; clear r0 e0 e1 e2 e3 e4 e5 e6 e7 e8 e9 e10; obtain ⟨r0, e0, e1, e2, e3, e4, e5, e6, e7, e8, e9, e10⟩ := HEL.out w10 H10.out.2.1; clear hn10 hk10 v0 v7 v8) | (at_builtin; refine wpX _ rfl _ _ rfl base g3 (m' + 1) p3 (ys ++ Sp.comma true) rfl H5b.out.1 _ a5 m5 p5 _ rfl H5.out.1 (by omega) H5b.out.2.2 ?_; intro g9 p9 w9 hn9 hk9; have H9 : Hid (Byts w9 base (some ⟨g9, 0, none⟩) ((m' + 1) + m5) p9 (ys ++ Sp.comma true ++ Sp.brk true (d + 1)) ∧ Kp base W0 w9 ∧ base ≤ w9.heap.size) := ⟨hn9, H5b.out.2.1.trans hk9, Nat.le_trans H5b.out.2.2 hk9.size⟩; obtain ⟨v0, v7, v8⟩ := HX.out w9 H9.out.2.1; clear r0 e0 e1 e2 e3 e4 e5 e6 e7 e8 e9 e10; obtain ⟨r0, e0, e1, e2, e3, e4, e5, e6, e7, e8, e9, e10⟩ := HEL.out w9 H9.out.2.1; clear hn9 hk9 s0 s7 s8))
            refine (HCT.out _ _ _ _ _ H6.out.1 H6.out.2.1 H6.out.2.2 (by have h1 := HLB.out; simp only [List.length_append, List.length_cons, List.length_nil]; omega)).mono ?_
            rintro e w7 ⟨a7, m7, p7, rfl, H7⟩
            obtain ⟨g7, rfl⟩ := H7.out.1.some (by have h1 := HPOS.out; simp only [List.length_append]; omega)
            have H8 : Hid (Byts w7 base (some ⟨g7, 0, none⟩) m7 p7 (xs ++ HD ++ Sp.seqTo true (d + 1) (L.texts true (d + 1)) (k + 1)) ∧ Kp base W0 w7 ∧ base ≤ w7.heap.size) := ⟨by rw [HSQ.out]; simpa only [List.append_assoc] using H7.out.1, H6.out.2.1.trans H7.out.2, Nat.le_trans H6.out.2.2 H7.out.2.size⟩
            go_wp2_with fail
            go_roundw
            case rel => exact ⟨k + 1, g7, m7, p7, by omega, by go_num, rfl, H8⟩
            case measure => simp [intOf]; omega
      · obtain rfl : k = L.len := by omega
        obtain ⟨q0, q7, q8⟩ := HX.out wr HK.out.2.1
        have hmb : m' ≤ 17592180000000 := by have h1 := HK.out.1.1; have h2 := HL.out; simp only [List.length_append] at h1 h2; omega
        by_cases hn0 : L.len = 0
        · have hn0' : ¬ (0 : Int) < (L.len : Int) := by omega
          have HE : Hid (xs ++ RES = xs ++ HD ++ Sp.seqTo ln (d + 1) (L.texts ln (d + 1)) L.len ++ [125]) := by
            show _ = _
            rw [HTX.out, Sp.tail, if_pos hn0]; simp only [List.append_assoc, List.nil_append]
          clear hn0
          go_wp2_with (at_builtin; refine wpA _ rfl _ _ rfl base (some ⟨g1, 0, none⟩) m' p' _ rfl (HK.out.1.alloc _) [125] 1 wr.heap.size rfl rfl (bytes_new wr [125] rfl rfl) (by decide) (by omega) (by have := HK.out.2.2; simp; omega) ?_; intro g3 p3 w3 hn3 hk3; have H3 : Hid (Byts w3 base (some ⟨g3, 0, none⟩) (m' + 1) p3 (xs ++ RES) ∧ Kp base w w3) := ⟨by rw [HE.out]; exact hn3, HKW.out.trans ((HK.out.2.1.alloc HK.out.2.2 _).trans hk3)⟩; clear hn3 hk3)
          go_ret
          exact ⟨_, _, p3, rfl, H3⟩
        · have hn0' : (0 : Int) < (L.len : Int) := by omega
          have HE : Hid (xs ++ RES = xs ++ HD ++ Sp.seqTo ln (d + 1) (L.texts ln (d + 1)) L.len ++ Sp.brk ln d ++ [125]) := by
            show _ = _
            rw [HTX.out, Sp.tail, if_neg hn0]; simp only [List.append_assoc]
          clear hn0
          go_wp2_with fail
          refine (HBE.out wr).mono ?_
          rintro e w5 ⟨a5, m5, p5, rfl, hm5, H5⟩
          have H5b : Hid (Byts w5 base (some ⟨g1, 0, none⟩) m' p' (xs ++ HD ++ Sp.seqTo ln (d + 1) (L.texts ln (d + 1)) L.len) ∧ Kp base W0 w5 ∧ base ≤ w5.heap.size) := ⟨HK.out.1.on H5.out.2, HK.out.2.1.trans (Kp.of H5.out.2 HK.out.2.2), Nat.le_trans HK.out.2.2 H5.out.2.size⟩
          go_wp2_with (first | (at_builtin; have hq := H6.out; refine wpA _ rfl _ _ rfl base (some ⟨g6, 0, none⟩) (m' + m5) p6 _ rfl (H6.out.1.alloc _) [125] 1 w6.heap.size rfl rfl (bytes_new w6 [125] rfl rfl) (by decide) (by omega) (by have := H6.out.2.2; simp; omega) ?_; intro g3 p3 w3 hn3 hk3; have H3 : Hid (Byts w3 base (some ⟨g3, 0, none⟩) (m' + m5 + 1) p3 (xs ++ RES) ∧ Kp base w w3) := ⟨by rw [HE.out]; exact hn3, HKW.out.trans ((H6.out.2.1.alloc H6.out.2.2 _).trans hk3)⟩; clear hn3 hk3) | (at_builtin; refine wpX _ rfl _ _ rfl base g1 m' p' _ rfl H5b.out.1 _ a5 m5 p5 _ rfl H5.out.1 (by omega) H5b.out.2.2 ?_; intro g6 p6 w6 hn6 hk6; have H6 : Hid (Byts w6 base (some ⟨g6, 0, none⟩) (m' + m5) p6 (xs ++ HD ++ Sp.seqTo ln (d + 1) (L.texts ln (d + 1)) L.len ++ Sp.brk ln d) ∧ Kp base W0 w6 ∧ base ≤ w6.heap.size) := ⟨hn6, H5b.out.2.1.trans hk6, Nat.le_trans H5b.out.2.2 hk6.size⟩; clear hn6 hk6))
          go_ret
          exact ⟨_, _, p3, rfl, H3⟩
end Go.Proofs.YtnndlffidifddaaGreatDoor

/- tenonref02.put at a record: by what is proved of smaller terms. -/
namespace Go.Proofs.YtnndlffidifddaaGreatDoor
open Go.RowKit

set_option maxRecDepth 100000 in
set_option maxHeartbeats 4000000 in
theorem put_10 (N : Nat) (HC : PutC N) (L : TmF) (hN : L.sz ≤ N) (b : Bool) (i : Int) (f : Nat) (tx : ByteArray) (ab : Option Addr) (nb cb : Nat) (rf : Int) (al : Option Addr) (nl cl : Nat) (af : Option Addr) (cf : Nat) (c : ByteArray) (vr : Int) (ln : Bool) (d : Nat) (n : Int) (xs : List UInt8) (a : Option Addr) (m cap base : Nat) (w : World) (hL : L.In w (Lo base) af 0) (hok : L.OkAt (n + 1)) (hd : (d : Int) ≤ n) (hn64 : n ≤ 64) (hnm : L.Nm) (hc32 : c.size ≤ 32) (hvr : 1 ≤ vr ∧ vr ≤ 1000) (hll : L.len ≤ 4096) (h : Byts w base a m cap xs) (hb : base ≤ w.heap.size) (hl : xs.length + (c.data.toList ++ (47 :: Lib.decDigits vr.toNat) ++ L.txtB ln d).length ≤ 17592180000000) :
    Calls Tryz.prog 18 #[.slice a m cap, .agg (tcells 10 b i f tx (.slice ab nb cb) rf (.slice al nl cl) (.slice af L.len cf) c vr), .bool ln, .int .i64 (d : Int)] w (AppH base xs (c.data.toList ++ (47 :: Lib.decDigits vr.toNat) ++ L.txtB ln d) w) := by
  obtain ⟨HD, HHD⟩ : ∃ HD : List UInt8, Hid (HD = c.data.toList ++ (47 :: Lib.decDigits vr.toNat) ++ [123]) := ⟨_, show _ = _ from rfl⟩
  obtain ⟨RES, HRES⟩ : ∃ RES : List UInt8, Hid (RES = c.data.toList ++ (47 :: Lib.decDigits vr.toNat) ++ L.txtB ln d) := ⟨_, show _ = _ from rfl⟩
  rw [← HRES.out] at hl ⊢
  have HTX : Hid (RES = HD ++ (Sp.seqTo ln (d + 1) (L.texts ln (d + 1)) L.len ++ (Sp.tail ln L.len d ++ [125]))) := by
    show _ = _
    have e := TmF.texts_len ln (d + 1) L
    rw [HRES.out, HHD.out, ← TmF.brkd, Sp.brkd, e]; simp
  have HPO : 0 < (xs ++ HD).length := by rw [HHD.out]; simp only [List.length_append, List.length_cons, List.length_nil]; omega
  have HL : Hid (xs.length + (HD ++ (Sp.seqTo ln (d + 1) (L.texts ln (d + 1)) L.len ++ (Sp.tail ln L.len d ++ [125]))).length ≤ 17592180000000) := by rw [← HTX.out]; exact hl
  have HCH : Hid (PutC N) := HC
  have HL0 : Hid (L.In w (Lo base) af 0 ∧ L.OkAt (n + 1)) := ⟨hL, hok⟩
  have HNM : Hid L.Nm := hnm
  have HBK : Hid (∀ W, Calls Tryz.prog 35 #[.bool ln, .int .i64 ((d : Int) + 1)] W fun e w' => ∃ (a : Option Addr) (m cap : Nat), e = .returned (.slice a m cap) ∧ m ≤ 3000 ∧ Hid (Byts w' W.heap.size a m cap (Sp.brk ln (d + 1)) ∧ Below W.heap.size W w')) := fun W => by
    have := breaks_at ln (d + 1) (by omega) W
    simpa using this
  have HBE : Hid (∀ W, Calls Tryz.prog 35 #[.bool ln, .int .i64 (d : Int)] W fun e w' => ∃ (a : Option Addr) (m cap : Nat), e = .returned (.slice a m cap) ∧ m ≤ 3000 ∧ Hid (Byts w' W.heap.size a m cap (Sp.brk ln d) ∧ Below W.heap.size W w')) := fun W => breaks_at ln d (by omega) W
  have hd64 : d ≤ 64 := by omega
  have hmb0 : m ≤ 17592180000000 := by have := h.1; omega
  obtain ⟨W0, hW0⟩ : ∃ W0, W0 = (Wp 10 b i f tx (.slice ab nb cb) rf (.slice al nl cl) (.slice af L.len cf) c vr w) := ⟨_, rfl⟩
  have HKW : Hid (Kp base w W0) := by rw [hW0]; exact (Kp.refl base w).alloc hb _
  have HW0 : Hid (Below base w W0) := HKW.out.below
  have HN0 : Hid (Byts W0 base a m cap xs ∧ base ≤ W0.heap.size ∧ W0.heap.size = w.heap.size + 1) := by rw [hW0]; exact ⟨h.alloc _, by simp; omega, by simp⟩
  have HX : Hid (∀ W, Kp base W0 W → W.cell? ⟨w.heap.size, 0, none⟩ = some (.int .i64 10) ∧ W.cell? ⟨w.heap.size, 7, none⟩ = some (.slice al nl cl) ∧ W.cell? ⟨w.heap.size, 8, none⟩ = some (.slice af L.len cf)) := fun W hW => by
    have hbx := hW.box (k := w.heap.size) (c := (tcells 10 b i f tx (.slice ab nb cb) rf (.slice al nl cl) (.slice af L.len cf) c vr)) (T := 29) (fz := (0, 0)) (by rw [hW0]; exact heap_alloc_new w _) (by decide)
    obtain ⟨z0, -, -, -, -, -, -, z7, z8, -, -⟩ := tbox hbx
    exact ⟨z0, z7, z8⟩
  clear HC hL hok h hl hnm
  have HW0e : Hid (W0 = (Wp 10 b i f tx (.slice ab nb cb) rf (.slice al nl cl) (.slice af L.len cf) c vr w)) := hW0
  unfold tcells
  have HN0' := HN0
  rw [HW0e.out] at HN0'
  unfold Wp tcells at HN0'
  have HX10 : Hid (∀ W, Kp base W0 W → W.cell? ⟨w.heap.size, 10, none⟩ = some (.int .i64 vr)) := fun W hW => by
    have hbx := hW.box (k := w.heap.size) (c := (tcells 10 b i f tx (.slice ab nb cb) rf (.slice al nl cl) (.slice af L.len cf) c vr)) (T := 29) (fz := (0, 0)) (by rw [hW0]; exact heap_alloc_new w _) (by decide)
    obtain ⟨-, -, -, -, -, -, -, -, -, -, z10⟩ := tbox hbx
    exact z10
  have hwv : IntKind.u64.wrap vr = vr := by rw [IntKind.wrap_u64]; omega
  obtain ⟨I, hI, HI⟩ : ∃ I : ByteArray, I.size ≤ 20 ∧ Hid (I = ⟨(Lib.decDigits vr.toNat).toArray⟩) := ⟨_, by show (Lib.decDigits vr.toNat).toArray.size ≤ 20; rw [List.size_toArray]; exact Sp.dec_len (by omega), rfl⟩
  have HDec : Hid (∀ W, Calls Tryz.prog 29 #[.int .u64 vr] W fun e w' => e = .returned (.string I) ∧ Below W.heap.size W w') := fun W => by
    rw [HI.out]
    have := Dec_any (vr.toNat + 1) vr.toNat W (by omega) (by omega)
    rw [show ((vr.toNat : Nat) : Int) = vr by omega] at this
    exact this
  have HHI : Hid (xs ++ HD = xs ++ c.data.toList ++ [47] ++ I.data.toList ++ [123]) := by show _ = _; rw [HHD.out, HI.out]; simp
  have hv1 : (1 : Int) ≤ vr := hvr.1
  have hv2 : vr ≤ 1000 := hvr.2
  clear hvr
  go_enter Tryz.func18, Tryz.ntmps18
  go_wp2_with (first | (at_builtin; have hq := P1.out; refine wpA _ rfl _ _ rfl base a1 (m + c.size) p1 _ rfl (P1.out.1.alloc _) [47] 1 w1.heap.size rfl rfl (bytes_new w1 [47] rfl rfl) (by decide) (by omega) (by have := P1.out.2.2; simp; omega) ?_; intro g2 p2 w2 hn2 hk2; have P2 : Hid (Byts w2 base (some ⟨g2, 0, none⟩) (m + c.size + 1) p2 (xs ++ c.data.toList ++ [47]) ∧ Kp base W0 w2 ∧ base ≤ w2.heap.size) := ⟨hn2, (P1.out.2.1.alloc P1.out.2.2 _).trans hk2, Nat.le_trans P1.out.2.2 (Nat.le_trans (by simp) hk2.size)⟩; obtain ⟨y0, y7, y8⟩ := HX.out w2 P2.out.2.1; have y10 := HX10.out w2 P2.out.2.1; clear hn2 hk2 x0 x7 x8) | (at_builtin; refine wpS _ rfl _ _ rfl base a m cap xs rfl HN0'.out.1 c rfl (by omega) HN0'.out.2.1 ?_; intro a1 p1 w1 hn1 hk1; have P1 : Hid (Byts w1 base a1 (m + c.size) p1 (xs ++ c.data.toList) ∧ Kp base W0 w1 ∧ base ≤ w1.heap.size) := ⟨hn1, by rw [HW0e.out]; exact hk1, Nat.le_trans HN0'.out.2.1 hk1.size⟩; obtain ⟨x0, x7, x8⟩ := HX.out w1 P1.out.2.1; clear hn1 hk1))
  refine (HDec.out w2).mono ?_
  rintro e w3 ⟨rfl, hb3⟩
  have P3 : Hid (Byts w3 base (some ⟨g2, 0, none⟩) (m + c.size + 1) p2 (xs ++ c.data.toList ++ [47]) ∧ Kp base W0 w3 ∧ base ≤ w3.heap.size) := ⟨P2.out.1.on hb3, P2.out.2.1.trans (Kp.of hb3 P2.out.2.2), Nat.le_trans P2.out.2.2 hb3.size⟩
  obtain ⟨t0, t7, t8⟩ := HX.out w3 P3.out.2.1
  clear hb3 y0 y7 y8 y10
  go_wp2_with (first | (at_builtin; have hq := P4.out; refine wpA _ rfl _ _ rfl base a4 (m + c.size + 1 + I.size) p4 _ rfl (P4.out.1.alloc _) [123] 1 w4.heap.size rfl rfl (bytes_new w4 [123] rfl rfl) (by decide) (by omega) (by have := P4.out.2.2; simp; omega) ?_; intro gs ps ws hns hks; obtain ⟨ms, hms⟩ : ∃ ms, ms = m + c.size + 1 + I.size + 1 := ⟨_, rfl⟩; have HS : Hid (Byts ws base (some ⟨gs, 0, none⟩) ms ps (xs ++ HD) ∧ Kp base W0 ws ∧ base ≤ ws.heap.size) := ⟨by rw [HHI.out, hms]; exact hns, (P4.out.2.1.alloc P4.out.2.2 _).trans hks, Nat.le_trans P4.out.2.2 (Nat.le_trans (by simp) hks.size)⟩; obtain ⟨q0, q7, q8⟩ := HX.out ws HS.out.2.1; rw [← hms]; clear hns hks hms u0 u7 u8) | (at_builtin; refine wpS _ rfl _ _ rfl base (some ⟨g2, 0, none⟩) (m + c.size + 1) p2 _ rfl P3.out.1 I rfl (by omega) P3.out.2.2 ?_; intro a4 p4 w4 hn4 hk4; have P4 : Hid (Byts w4 base a4 (m + c.size + 1 + I.size) p4 (xs ++ c.data.toList ++ [47] ++ I.data.toList) ∧ Kp base W0 w4 ∧ base ≤ w4.heap.size) := ⟨hn4, P3.out.2.1.trans hk4, Nat.le_trans P3.out.2.2 hk4.size⟩; obtain ⟨u0, u7, u8⟩ := HX.out w4 P4.out.2.1; clear hn4 hk4 t0 t7 t8))
  clear HN0'

  go_loopw [0, 12] (fun u i wr => ∃ (k g1 m' p' : Nat), k ≤ L.len ∧ i = .int .i64 (k : Int) ∧ u = .slice (some ⟨g1, 0, none⟩) m' p' ∧ Hid (Byts wr base (some ⟨g1, 0, none⟩) m' p' (xs ++ HD ++ Sp.seqTo ln (d + 1) (L.texts ln (d + 1)) k) ∧ Kp base W0 wr ∧ base ≤ wr.heap.size)) (fun _ i _ => L.len - (intOf i).toNat)
  case atStart => exact ⟨0, gs, ms, ps, by omega, rfl, rfl, by simpa [Sp.seqTo] using HS⟩
  case round =>
      obtain ⟨k, g1, m', p', hk, rfl, rfl, HK⟩ := hrel
      clear HS
      by_cases hlt : k < L.len
      · obtain ⟨g9', o9, nm, csx, t, rfl, hg9, hnx, hcx, htx, htt, hsz, hokt, hnm⟩ := L.in_nth ln (d + 1) _ 0 k HL0.out.1 hlt
        have hnm32 := hnm HNM.out
        have hnml : nm.data.toList.length = nm.size := by rw [Array.length_toList]; rfl
        have HLB : Hid ((xs ++ HD ++ Sp.seqTo ln (d + 1) (L.texts ln (d + 1)) k).length + ((if k = 0 then ([] : List UInt8) else Sp.comma ln).length + ((Sp.brk ln (d + 1)).length + (nm.data.toList.length + 2 + (t.txt ln (d + 1)).length))) ≤ 17592180000000) := by
          have h1 := HL.out
          have h2 := Sp.seqTo_mono ln (d + 1) (L.texts ln (d + 1)) (k := k + 1) (n := L.len) (by omega)
          rw [Sp.seqTo, htt] at h2
          show _ ≤ _
          simp only [List.length_append, List.length_cons, List.length_nil] at h1 h2 ⊢
          omega
        have HSQ : Hid (xs ++ HD ++ Sp.seqTo ln (d + 1) (L.texts ln (d + 1)) (k + 1) = xs ++ HD ++ Sp.seqTo ln (d + 1) (L.texts ln (d + 1)) k ++ (if k = 0 then [] else Sp.comma ln) ++ Sp.brk ln (d + 1) ++ nm.data.toList ++ [58, 32] ++ t.txt ln (d + 1)) := by
          show _ = _
          rw [Sp.seqTo, htt]; simp only [List.append_assoc]
        have HCT : Hid (∀ (g' m' p' : Nat) (W : World) (zs : List UInt8), Byts W base (some ⟨g', 0, none⟩) m' p' zs → Kp base W0 W → base ≤ W.heap.size → zs.length + (t.txt ln (d + 1)).length ≤ 17592180000000 → Calls Tryz.prog 18 #[.slice (some ⟨g', 0, none⟩) m' p', .agg csx, .bool ln, .int .i64 ((d : Int) + 1)] W (AppH base zs (t.txt ln (d + 1)) W)) := fun g' m' p' W zs hz hk2 hb2 hl2 => by
          have := HCH.out t (by omega) csx W base _ m' p' zs ln (d + 1) (n + 1) (t.In_same (Same.of_below (HW0.out.trans hk2.below) (Nat.le_refl _)) (fun _ h => h) csx htx) (hokt _ HL0.out.2) (by omega) hz hb2 hl2
          simpa using this
        obtain ⟨kk, b', i', f', tx', ab', nb', cb', rf', al', nl', cl', af', nf', cf', c', vr', rfl⟩ : ∃ kk b' i' f' tx' ab' nb' cb' rf' al' nl' cl' af' nf' cf' c' vr', csx = tcells kk b' i' f' tx' (.slice ab' nb' cb') rf' (.slice al' nl' cl') (.slice af' nf' cf') c' vr' := by
          cases t; simp only [Tm.In] at htx; obtain ⟨_, _, _, _, _, _, rfl, _⟩ := htx; exact ⟨_, _, _, _, _, _, _, _, _, _, _, _, _, _, _, _, _, rfl⟩
        have HEL : Hid (∀ W, Kp base W0 W → W.cell? ⟨g9', o9 + k * 12, none⟩ = some (.string nm) ∧ W.cell? ⟨g9', o9 + k * 12 + 1, none⟩ = some (.int .i64 kk) ∧ W.cell? ⟨g9', o9 + k * 12 + 1 + 1, none⟩ = some (.bool b') ∧ W.cell? ⟨g9', o9 + k * 12 + 1 + 2, none⟩ = some (.int .i64 i') ∧ W.cell? ⟨g9', o9 + k * 12 + 1 + 3, none⟩ = some (.float .f64 f') ∧ W.cell? ⟨g9', o9 + k * 12 + 1 + 4, none⟩ = some (.string tx') ∧ W.cell? ⟨g9', o9 + k * 12 + 1 + 5, none⟩ = some (.slice ab' nb' cb') ∧ W.cell? ⟨g9', o9 + k * 12 + 1 + 6, none⟩ = some (.int .u64 rf') ∧ W.cell? ⟨g9', o9 + k * 12 + 1 + 7, none⟩ = some (.slice al' nl' cl') ∧ W.cell? ⟨g9', o9 + k * 12 + 1 + 8, none⟩ = some (.slice af' nf' cf') ∧ W.cell? ⟨g9', o9 + k * 12 + 1 + 9, none⟩ = some (.string c') ∧ W.cell? ⟨g9', o9 + k * 12 + 1 + 10, none⟩ = some (.int .i64 vr')) := fun W hW => by
          refine ⟨?_, eleven (o := o9 + k * 12 + 1) (fun x hx => ?_)⟩
          · rw [(HW0.out.trans hW.below).cell (p := ⟨g9', o9 + k * 12, none⟩) hg9]; simpa using hnx
          · rw [(HW0.out.trans hW.below).cell (p := ⟨g9', o9 + k * 12 + 1 + x, none⟩) hg9]
            have := hcx x hx
            simpa using this
        have hi0 : (0 : Int) ≤ (k : Int) := Int.natCast_nonneg _
        have hi1 : (k : Int) < (L.len : Int) := by omega
        have hmb : m' ≤ 17592180000000 := by have h1 := HK.out.1.1; have h2 := HLB.out; omega
        have HPOS : Hid (0 < (xs ++ HD).length) := HPO
        obtain ⟨q0, q7, q8⟩ := HX.out wr HK.out.2.1
        unfold tcells at HCT
        clear hcx htx hg9 hsz hokt htt hnx hnm hnml
        generalize hys : xs ++ HD ++ Sp.seqTo ln (d + 1) (L.texts ln (d + 1)) k = ys at HK HLB HSQ
        have HPOS : Hid (0 < ys.length) := by show _ < _; rw [← hys]; have := HPO; simp only [List.length_append] at this ⊢; omega
        clear hys
        by_cases hk0 : k = 0
        · have hk0' : ¬ (0 : Int) < (k : Int) := by omega
          simp only [if_pos hk0, List.append_nil, List.length_nil, Nat.zero_add] at HLB HSQ
          clear hk0
          go_wp2_with fail
          refine (HBK.out wr).mono ?_
          rintro e w5 ⟨a5, m5, p5, rfl, hm5, H5⟩
          have H5b : Hid (Byts w5 base (some ⟨g1, 0, none⟩) m' p' (ys) ∧ Kp base W0 w5 ∧ base ≤ w5.heap.size) := ⟨HK.out.1.on H5.out.2, HK.out.2.1.trans (Kp.of H5.out.2 HK.out.2.2), Nat.le_trans HK.out.2.2 H5.out.2.size⟩
          obtain ⟨s0, s7, s8⟩ := HX.out w5 H5b.out.2.1
          obtain ⟨r0, e0, e1, e2, e3, e4, e5, e6, e7, e8, e9, e10⟩ := HEL.out w5 H5b.out.2.1
          go_wp2_with (first | (at_builtin; have hq := H10.out; refine wpA _ rfl _ _ rfl base (some ⟨g10, 0, none⟩) (m' + m5 + nm.size) p10 _ rfl (H10.out.1.alloc _) [58, 32] 2 w10.heap.size rfl rfl (bytes_new w10 [58, 32] rfl rfl) (by decide) (by omega) (by have := H10.out.2.2; simp; omega) ?_; intro g11 p11 w11 hn11 hk11; have H6 : Hid (Byts w11 base (some ⟨g11, 0, none⟩) (m' + m5 + nm.size + 2) p11 (ys ++ Sp.brk ln (d + 1) ++ nm.data.toList ++ [58, 32]) ∧ Kp base W0 w11 ∧ base ≤ w11.heap.size) := ⟨hn11, (H10.out.2.1.alloc H10.out.2.2 _).trans hk11, Nat.le_trans H10.out.2.2 (Nat.le_trans (by simp) hk11.size)⟩; obtain ⟨u0, u7, u8⟩ := HX.out w11 H6.out.2.1; clear r0 e0 e1 e2 e3 e4 e5 e6 e7 e8 e9 e10; obtain ⟨r0, e0, e1, e2, e3, e4, e5, e6, e7, e8, e9, e10⟩ := HEL.out w11 H6.out.2.1; clear hn11 hk11 t0 t7 t8) | (at_builtin; have hq := H9.out; refine wpS _ rfl _ _ rfl base (some ⟨g9, 0, none⟩) (m' + m5) p9 _ rfl H9.out.1 nm rfl (by omega) H9.out.2.2 ?_; intro a10 p10 w10 hn10 hk10; obtain ⟨g10, rfl⟩ := hn10.some (by have h1 := HPOS.out; simp only [List.length_append]; omega); have H10 : Hid (Byts w10 base (some ⟨g10, 0, none⟩) (m' + m5 + nm.size) p10 (ys ++ Sp.brk ln (d + 1) ++ nm.data.toList) ∧ Kp base W0 w10 ∧ base ≤ w10.heap.size) := ⟨hn10, H9.out.2.1.trans hk10, Nat.le_trans H9.out.2.2 hk10.size⟩; obtain ⟨t0, t7, t8⟩ := HX.out w10 H10.out.2.1; clear r0 e0 e1 e2 e3 e4 e5 e6 e7 e8 e9 e10; obtain ⟨r0, e0, e1, e2, e3, e4, e5, e6, e7, e8, e9, e10⟩ := HEL.out w10 H10.out.2.1; clear hn10 hk10 v0 v7 v8) | (at_builtin; refine wpX _ rfl _ _ rfl base g1 m' p' (ys) rfl H5b.out.1 _ a5 m5 p5 _ rfl H5.out.1 (by omega) H5b.out.2.2 ?_; intro g9 p9 w9 hn9 hk9; have H9 : Hid (Byts w9 base (some ⟨g9, 0, none⟩) (m' + m5) p9 (ys ++ Sp.brk ln (d + 1)) ∧ Kp base W0 w9 ∧ base ≤ w9.heap.size) := ⟨hn9, H5b.out.2.1.trans hk9, Nat.le_trans H5b.out.2.2 hk9.size⟩; obtain ⟨v0, v7, v8⟩ := HX.out w9 H9.out.2.1; clear r0 e0 e1 e2 e3 e4 e5 e6 e7 e8 e9 e10; obtain ⟨r0, e0, e1, e2, e3, e4, e5, e6, e7, e8, e9, e10⟩ := HEL.out w9 H9.out.2.1; clear hn9 hk9 s0 s7 s8))
          refine (HCT.out _ _ _ _ _ H6.out.1 H6.out.2.1 H6.out.2.2 (by have h1 := HLB.out; simp only [List.length_append, List.length_cons, List.length_nil]; omega)).mono ?_
          rintro e w7 ⟨a7, m7, p7, rfl, H7⟩
          obtain ⟨g7, rfl⟩ := H7.out.1.some (by have h1 := HPOS.out; simp only [List.length_append]; omega)
          have H8 : Hid (Byts w7 base (some ⟨g7, 0, none⟩) m7 p7 (xs ++ HD ++ Sp.seqTo ln (d + 1) (L.texts ln (d + 1)) (k + 1)) ∧ Kp base W0 w7 ∧ base ≤ w7.heap.size) := ⟨by rw [HSQ.out]; simpa only [List.append_assoc] using H7.out.1, H6.out.2.1.trans H7.out.2, Nat.le_trans H6.out.2.2 H7.out.2.size⟩
          go_wp2_with fail
          go_roundw
          case rel => exact ⟨k + 1, g7, m7, p7, by omega, by go_num, rfl, H8⟩
          case measure => simp [intOf]; omega
        · have hk0' : (0 : Int) < (k : Int) := by omega
          simp only [if_neg hk0] at HLB HSQ
          clear hk0
          cases ln with
          | false =>
            have HCM : Hid (Sp.comma false = [44] ++ [32]) := rfl
            go_wp2_with (first | (at_builtin; have hq := H2.out; refine wpA _ rfl _ _ rfl base (some ⟨g2, 0, none⟩) (m' + 1) p2 (ys ++ [44]) rfl (H2.out.1.alloc _) [32] 1 w2.heap.size rfl rfl (bytes_new w2 [32] rfl rfl) (by decide) (by omega) (by have := H2.out.2.2; simp; omega) ?_; intro g3 p3 w3 hn3 hk3; have H3 : Hid (Byts w3 base (some ⟨g3, 0, none⟩) (m' + 1 + 1) p3 (ys ++ Sp.comma false) ∧ Kp base W0 w3 ∧ base ≤ w3.heap.size) := ⟨by rw [HCM.out, ← List.append_assoc]; exact hn3, (H2.out.2.1.alloc H2.out.2.2 _).trans hk3, Nat.le_trans H2.out.2.2 (Nat.le_trans (by simp) hk3.size)⟩; obtain ⟨x0, x7, x8⟩ := HX.out w3 H3.out.2.1; clear hn3 hk3 y0 y7 y8) | (at_builtin; refine wpA _ rfl _ _ rfl base (some ⟨g1, 0, none⟩) m' p' ys rfl (HK.out.1.alloc _) [44] 1 wr.heap.size rfl rfl (bytes_new wr [44] rfl rfl) (by decide) (by omega) (by have := HK.out.2.2; simp; omega) ?_; intro g2 p2 w2 hn2 hk2; have H2 : Hid (Byts w2 base (some ⟨g2, 0, none⟩) (m' + 1) p2 (ys ++ [44]) ∧ Kp base W0 w2 ∧ base ≤ w2.heap.size) := ⟨hn2, (HK.out.2.1.alloc HK.out.2.2 _).trans hk2, Nat.le_trans HK.out.2.2 (Nat.le_trans (by simp) hk2.size)⟩; obtain ⟨y0, y7, y8⟩ := HX.out w2 H2.out.2.1; clear hn2 hk2))
            skip
            refine (HBK.out w3).mono ?_
            rintro e w5 ⟨a5, m5, p5, rfl, hm5, H5⟩
            have H5b : Hid (Byts w5 base (some ⟨g3, 0, none⟩) (m' + 1 + 1) p3 (ys ++ Sp.comma false) ∧ Kp base W0 w5 ∧ base ≤ w5.heap.size) := ⟨H3.out.1.on H5.out.2, H3.out.2.1.trans (Kp.of H5.out.2 H3.out.2.2), Nat.le_trans H3.out.2.2 H5.out.2.size⟩
            obtain ⟨s0, s7, s8⟩ := HX.out w5 H5b.out.2.1
            obtain ⟨r0, e0, e1, e2, e3, e4, e5, e6, e7, e8, e9, e10⟩ := HEL.out w5 H5b.out.2.1
            go_wp2_with (first | (at_builtin; have hq := H10.out; refine wpA _ rfl _ _ rfl base (some ⟨g10, 0, none⟩) ((m' + 1 + 1) + m5 + nm.size) p10 _ rfl (H10.out.1.alloc _) [58, 32] 2 w10.heap.size rfl rfl (bytes_new w10 [58, 32] rfl rfl) (by decide) (by omega) (by have := H10.out.2.2; simp; omega) ?_; intro g11 p11 w11 hn11 hk11; have H6 : Hid (Byts w11 base (some ⟨g11, 0, none⟩) ((m' + 1 + 1) + m5 + nm.size + 2) p11 (ys ++ Sp.comma false ++ Sp.brk false (d + 1) ++ nm.data.toList ++ [58, 32]) ∧ Kp base W0 w11 ∧ base ≤ w11.heap.size) := ⟨hn11, (H10.out.2.1.alloc H10.out.2.2 _).trans hk11, Nat.le_trans H10.out.2.2 (Nat.le_trans (by simp) hk11.size)⟩; obtain ⟨u0, u7, u8⟩ := HX.out w11 H6.out.2.1; clear r0 e0 e1 e2 e3 e4 e5 e6 e7 e8 e9 e10; obtain ⟨r0, e0, e1, e2, e3, e4, e5, e6, e7, e8, e9, e10⟩ := HEL.out w11 H6.out.2.1; clear hn11 hk11 t0 t7 t8) | (at_builtin; have hq := H9.out; refine wpS _ rfl _ _ rfl base (some ⟨g9, 0, none⟩) ((m' + 1 + 1) + m5) p9 _ rfl H9.out.1 nm rfl (by omega) H9.out.2.2 ?_; intro a10 p10 w10 hn10 hk10; obtain ⟨g10, rfl⟩ := hn10.some (by have h1 := HPOS.out; simp only [List.length_append]; omega); have H10 : Hid (Byts w10 base (some ⟨g10, 0, none⟩) ((m' + 1 + 1) + m5 + nm.size) p10 (ys ++ Sp.comma false ++ Sp.brk false (d + 1) ++ nm.data.toList) ∧ Kp base W0 w10 ∧ base ≤ w10.heap.size) := ⟨hn10, H9.out.2.1.trans hk10, Nat.le_trans H9.out.2.2 hk10.size⟩; obtain ⟨t0, t7, t8⟩ := HX.out w10 H10.out.2.1; clear r0 e0 e1 e2 e3 e4 e5 e6 e7 e8 e9 e10; obtain ⟨r0, e0, e1, e2, e3, e4, e5, e6, e7, e8, e9, e10⟩ := HEL.out w10 H10.out.2.1; clear hn10 hk10 v0 v7 v8) | (at_builtin; refine wpX _ rfl _ _ rfl base g3 (m' + 1 + 1) p3 (ys ++ Sp.comma false) rfl H5b.out.1 _ a5 m5 p5 _ rfl H5.out.1 (by omega) H5b.out.2.2 ?_; intro g9 p9 w9 hn9 hk9; have H9 : Hid (Byts w9 base (some ⟨g9, 0, none⟩) ((m' + 1 + 1) + m5) p9 (ys ++ Sp.comma false ++ Sp.brk false (d + 1)) ∧ Kp base W0 w9 ∧ base ≤ w9.heap.size) := ⟨hn9, H5b.out.2.1.trans hk9, Nat.le_trans H5b.out.2.2 hk9.size⟩; obtain ⟨v0, v7, v8⟩ := HX.out w9 H9.out.2.1; clear r0 e0 e1 e2 e3 e4 e5 e6 e7 e8 e9 e10; obtain ⟨r0, e0, e1, e2, e3, e4, e5, e6, e7, e8, e9, e10⟩ := HEL.out w9 H9.out.2.1; clear hn9 hk9 s0 s7 s8))
            refine (HCT.out _ _ _ _ _ H6.out.1 H6.out.2.1 H6.out.2.2 (by have h1 := HLB.out; simp only [List.length_append, List.length_cons, List.length_nil]; omega)).mono ?_
            rintro e w7 ⟨a7, m7, p7, rfl, H7⟩
            obtain ⟨g7, rfl⟩ := H7.out.1.some (by have h1 := HPOS.out; simp only [List.length_append]; omega)
            have H8 : Hid (Byts w7 base (some ⟨g7, 0, none⟩) m7 p7 (xs ++ HD ++ Sp.seqTo false (d + 1) (L.texts false (d + 1)) (k + 1)) ∧ Kp base W0 w7 ∧ base ≤ w7.heap.size) := ⟨by rw [HSQ.out]; simpa only [List.append_assoc] using H7.out.1, H6.out.2.1.trans H7.out.2, Nat.le_trans H6.out.2.2 H7.out.2.size⟩
            go_wp2_with fail
            go_roundw
            case rel => exact ⟨k + 1, g7, m7, p7, by omega, by go_num, rfl, H8⟩
            case measure => simp [intOf]; omega
          | true =>
            have HCM : Hid (Sp.comma true = [44]) := rfl
            go_wp2_with (at_builtin; refine wpA _ rfl _ _ rfl base (some ⟨g1, 0, none⟩) m' p' ys rfl (HK.out.1.alloc _) [44] 1 wr.heap.size rfl rfl (bytes_new wr [44] rfl rfl) (by decide) (by omega) (by have := HK.out.2.2; simp; omega) ?_; intro g3 p3 w3 hn3 hk3; have H3 : Hid (Byts w3 base (some ⟨g3, 0, none⟩) (m' + 1) p3 (ys ++ Sp.comma true) ∧ Kp base W0 w3 ∧ base ≤ w3.heap.size) := ⟨by rw [HCM.out]; exact hn3, (HK.out.2.1.alloc HK.out.2.2 _).trans hk3, Nat.le_trans HK.out.2.2 (Nat.le_trans (by simp) hk3.size)⟩; obtain ⟨x0, x7, x8⟩ := HX.out w3 H3.out.2.1; clear hn3 hk3)
            skip
            refine (HBK.out w3).mono ?_
            rintro e w5 ⟨a5, m5, p5, rfl, hm5, H5⟩
            have H5b : Hid (Byts w5 base (some ⟨g3, 0, none⟩) (m' + 1) p3 (ys ++ Sp.comma true) ∧ Kp base W0 w5 ∧ base ≤ w5.heap.size) := ⟨H3.out.1.on H5.out.2, H3.out.2.1.trans (Kp.of H5.out.2 H3.out.2.2), Nat.le_trans H3.out.2.2 H5.out.2.size⟩
            obtain ⟨s0, s7, s8⟩ := HX.out w5 H5b.out.2.1
            obtain ⟨r0, e0, e1, e2, e3, e4, e5, e6, e7, e8, e9, e10⟩ := HEL.out w5 H5b.out.2.1
            go_wp2_with (first | (at_builtin; have hq := H10.out; refine wpA _ rfl _ _ rfl base (some ⟨g10, 0, none⟩) ((m' + 1) + m5 + nm.size) p10 _ rfl (H10.out.1.alloc _) [58, 32] 2 w10.heap.size rfl rfl (bytes_new w10 [58, 32] rfl rfl) (by decide) (by omega) (by have := H10.out.2.2; simp; omega) ?_; intro g11 p11 w11 hn11 hk11; have H6 : Hid (Byts w11 base (some ⟨g11, 0, none⟩) ((m' + 1) + m5 + nm.size + 2) p11 (ys ++ Sp.comma true ++ Sp.brk true (d + 1) ++ nm.data.toList ++ [58, 32]) ∧ Kp base W0 w11 ∧ base ≤ w11.heap.size) := ⟨hn11, (H10.out.2.1.alloc H10.out.2.2 _).trans hk11, Nat.le_trans H10.out.2.2 (Nat.le_trans (by simp) hk11.size)⟩; obtain ⟨u0, u7, u8⟩ := HX.out w11 H6.out.2.1; clear r0 e0 e1 e2 e3 e4 e5 e6 e7 e8 e9 e10; obtain ⟨r0, e0, e1, e2, e3, e4, e5, e6, e7, e8, e9, e10⟩ := HEL.out w11 H6.out.2.1; clear hn11 hk11 t0 t7 t8) | (at_builtin; have hq := H9.out; refine wpS _ rfl _ _ rfl base (some ⟨g9, 0, none⟩) ((m' + 1) + m5) p9 _ rfl H9.out.1 nm rfl (by omega) H9.out.2.2 ?_; intro a10 p10 w10 hn10 hk10; obtain ⟨g10, rfl⟩ := hn10.some (by have h1 := HPOS.out; simp only [List.length_append]; omega); have H10 : Hid (Byts w10 base (some ⟨g10, 0, none⟩) ((m' + 1) + m5 + nm.size) p10 (ys ++ Sp.comma true ++ Sp.brk true (d + 1) ++ nm.data.toList) ∧ Kp base W0 w10 ∧ base ≤ w10.heap.size) := ⟨hn10, H9.out.2.1.trans hk10, Nat.le_trans H9.out.2.2 hk10.size⟩; obtain ⟨t0, t7, t8⟩ := HX.out w10 H10.out.2.1; clear r0 e0 e1 e2 e3 e4 e5 e6 e7 e8 e9 e10; obtain ⟨r0, e0, e1, e2, e3, e4, e5, e6, e7, e8, e9, e10⟩ := HEL.out w10 H10.out.2.1; clear hn10 hk10 v0 v7 v8) | (at_builtin; refine wpX _ rfl _ _ rfl base g3 (m' + 1) p3 (ys ++ Sp.comma true) rfl H5b.out.1 _ a5 m5 p5 _ rfl H5.out.1 (by omega) H5b.out.2.2 ?_; intro g9 p9 w9 hn9 hk9; have H9 : Hid (Byts w9 base (some ⟨g9, 0, none⟩) ((m' + 1) + m5) p9 (ys ++ Sp.comma true ++ Sp.brk true (d + 1)) ∧ Kp base W0 w9 ∧ base ≤ w9.heap.size) := ⟨hn9, H5b.out.2.1.trans hk9, Nat.le_trans H5b.out.2.2 hk9.size⟩; obtain ⟨v0, v7, v8⟩ := HX.out w9 H9.out.2.1; clear r0 e0 e1 e2 e3 e4 e5 e6 e7 e8 e9 e10; obtain ⟨r0, e0, e1, e2, e3, e4, e5, e6, e7, e8, e9, e10⟩ := HEL.out w9 H9.out.2.1; clear hn9 hk9 s0 s7 s8))
            refine (HCT.out _ _ _ _ _ H6.out.1 H6.out.2.1 H6.out.2.2 (by have h1 := HLB.out; simp only [List.length_append, List.length_cons, List.length_nil]; omega)).mono ?_
            rintro e w7 ⟨a7, m7, p7, rfl, H7⟩
            obtain ⟨g7, rfl⟩ := H7.out.1.some (by have h1 := HPOS.out; simp only [List.length_append]; omega)
            have H8 : Hid (Byts w7 base (some ⟨g7, 0, none⟩) m7 p7 (xs ++ HD ++ Sp.seqTo true (d + 1) (L.texts true (d + 1)) (k + 1)) ∧ Kp base W0 w7 ∧ base ≤ w7.heap.size) := ⟨by rw [HSQ.out]; simpa only [List.append_assoc] using H7.out.1, H6.out.2.1.trans H7.out.2, Nat.le_trans H6.out.2.2 H7.out.2.size⟩
            go_wp2_with fail
            go_roundw
            case rel => exact ⟨k + 1, g7, m7, p7, by omega, by go_num, rfl, H8⟩
            case measure => simp [intOf]; omega
      · obtain rfl : k = L.len := by omega
        obtain ⟨q0, q7, q8⟩ := HX.out wr HK.out.2.1
        have hmb : m' ≤ 17592180000000 := by have h1 := HK.out.1.1; have h2 := HL.out; simp only [List.length_append] at h1 h2; omega
        by_cases hn0 : L.len = 0
        · have hn0' : ¬ (0 : Int) < (L.len : Int) := by omega
          have HE : Hid (xs ++ RES = xs ++ HD ++ Sp.seqTo ln (d + 1) (L.texts ln (d + 1)) L.len ++ [125]) := by
            show _ = _
            rw [HTX.out, Sp.tail, if_pos hn0]; simp only [List.append_assoc, List.nil_append]
          clear hn0
          go_wp2_with (at_builtin; refine wpA _ rfl _ _ rfl base (some ⟨g1, 0, none⟩) m' p' _ rfl (HK.out.1.alloc _) [125] 1 wr.heap.size rfl rfl (bytes_new wr [125] rfl rfl) (by decide) (by omega) (by have := HK.out.2.2; simp; omega) ?_; intro g3 p3 w3 hn3 hk3; have H3 : Hid (Byts w3 base (some ⟨g3, 0, none⟩) (m' + 1) p3 (xs ++ RES) ∧ Kp base w w3) := ⟨by rw [HE.out]; exact hn3, HKW.out.trans ((HK.out.2.1.alloc HK.out.2.2 _).trans hk3)⟩; clear hn3 hk3)
          go_ret
          exact ⟨_, _, p3, rfl, H3⟩
        · have hn0' : (0 : Int) < (L.len : Int) := by omega
          have HE : Hid (xs ++ RES = xs ++ HD ++ Sp.seqTo ln (d + 1) (L.texts ln (d + 1)) L.len ++ Sp.brk ln d ++ [125]) := by
            show _ = _
            rw [HTX.out, Sp.tail, if_neg hn0]; simp only [List.append_assoc]
          clear hn0
          go_wp2_with fail
          refine (HBE.out wr).mono ?_
          rintro e w5 ⟨a5, m5, p5, rfl, hm5, H5⟩
          have H5b : Hid (Byts w5 base (some ⟨g1, 0, none⟩) m' p' (xs ++ HD ++ Sp.seqTo ln (d + 1) (L.texts ln (d + 1)) L.len) ∧ Kp base W0 w5 ∧ base ≤ w5.heap.size) := ⟨HK.out.1.on H5.out.2, HK.out.2.1.trans (Kp.of H5.out.2 HK.out.2.2), Nat.le_trans HK.out.2.2 H5.out.2.size⟩
          go_wp2_with (first | (at_builtin; have hq := H6.out; refine wpA _ rfl _ _ rfl base (some ⟨g6, 0, none⟩) (m' + m5) p6 _ rfl (H6.out.1.alloc _) [125] 1 w6.heap.size rfl rfl (bytes_new w6 [125] rfl rfl) (by decide) (by omega) (by have := H6.out.2.2; simp; omega) ?_; intro g3 p3 w3 hn3 hk3; have H3 : Hid (Byts w3 base (some ⟨g3, 0, none⟩) (m' + m5 + 1) p3 (xs ++ RES) ∧ Kp base w w3) := ⟨by rw [HE.out]; exact hn3, HKW.out.trans ((H6.out.2.1.alloc H6.out.2.2 _).trans hk3)⟩; clear hn3 hk3) | (at_builtin; refine wpX _ rfl _ _ rfl base g1 m' p' _ rfl H5b.out.1 _ a5 m5 p5 _ rfl H5.out.1 (by omega) H5b.out.2.2 ?_; intro g6 p6 w6 hn6 hk6; have H6 : Hid (Byts w6 base (some ⟨g6, 0, none⟩) (m' + m5) p6 (xs ++ HD ++ Sp.seqTo ln (d + 1) (L.texts ln (d + 1)) L.len ++ Sp.brk ln d) ∧ Kp base W0 w6 ∧ base ≤ w6.heap.size) := ⟨hn6, H5b.out.2.1.trans hk6, Nat.le_trans H5b.out.2.2 hk6.size⟩; clear hn6 hk6))
          go_ret
          exact ⟨_, _, p3, rfl, H3⟩
end Go.Proofs.YtnndlffidifddaaGreatDoor

