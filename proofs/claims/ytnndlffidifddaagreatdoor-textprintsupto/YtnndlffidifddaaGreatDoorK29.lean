/- 'append' of whatever source onto a row that the call itself made. -/
import Derived.Test.YtnndlffidifddaaGreatDoorK2
import Derived.Deep.AppendSrc
import Derived.Deep.DeepAppendWide
import Derived.Test.YtnndlffidifddaaGreatDoorK28
namespace Go.Proofs.YtnndlffidifddaaGreatDoor
open Go.RowKit

theorem run_app_src {P : Program} (w : World) (base : Nat) (t tx ty e : TypeId) (i : TypeInfo) (z : Value) (size bytes : Nat) (ht : P.underlying t = some (.slice e)) (hi : P.info? e = some i) (hz : i.zero = some z)
    (hsize : i.size = size) (hby : i.bytes = bytes) (hzs : z.cells.size = size) (g n cap : Nat) (xs : List Value) (hown : w.ownsRow base e size (.slice (some ⟨g, 0, none⟩) n cap) n xs)
    (x : Value) (m : Nat) (news : List Value) (hs : Src P size tx x m news w) (h63 : n + m ≤ maxLen) (hbytes : ((n + m) + (n + m) / 4 + 192) * bytes ≤ 281474976710656) (hbase : base ≤ w.heap.size) :
    ∃ g' cap' w', (Builtin.append_ #[t, tx] ty #[.slice (some ⟨g, 0, none⟩) n cap, x]).run P w = .ok (.slice (some ⟨g', 0, none⟩) (n + m) cap') w' ∧ w'.ownsRow base e size (.slice (some ⟨g', 0, none⟩) (n + m) cap') (n + m) (xs ++ news) ∧ w.grownBy w' (some g) ∧ (g' = g ∨ g' = w.heap.size) := by
  subst hsize
  subst hby
  have hlen : (xs ++ news).length = (n + m) * i.size := by rw [List.length_append, hown.1, hs.newsLen, Nat.add_mul]
  rcases hown.2 with ⟨e1, _⟩ | ⟨g1, cap1, cur, e1, hbg, hg, hnc, hcm, hcs, htake⟩
  · simp at e1
  simp only [Value.slice.injEq, Option.some.injEq, Addr.mk.injEq, and_true, true_and] at e1
  obtain ⟨rfl, rfl⟩ := e1
  by_cases hroom : n + m ≤ cap
  · have hfit : n * i.size + news.length ≤ cur.size := by rw [hs.newsLen, hcs, ← Nat.add_mul]; exact Nat.mul_le_mul_right _ hroom
    have hst := run_storeCells_at P g (n * i.size) e news 0 cur w hg (by simpa using hfit) hs.one
    simp only [Nat.add_zero] at hst
    have hr : (Builtin.append_ #[t, tx] ty #[.slice (some ⟨g, 0, none⟩) n cap, x]).run P w = .ok (.slice (some ⟨g, 0, none⟩) (n + m) cap) (w.setRow g (cur.toList.take (n * i.size) ++ news ++ cur.toList.drop (n * i.size + news.length)).toArray) := by
      rcases hs.kind with ⟨e', hk⟩ | hk <;> simp [Builtin.append_, run_underlying ht, run_underlying hk, sizeOf, typeInfo, hi, hs.len, hroom, hs.cells, Addr.add_lit, hst]
    refine ⟨g, cap, _, hr, ⟨hlen, .inr ⟨g, cap, _, rfl, hbg, setRow_heap w g cur _ e _ hg, hroom, hcm, ?_, ?_⟩⟩, ⟨rfl, rfl, rfl, by simp, fun k _ hk => setRow_other w g k _ (fun e => hk (by rw [e]))⟩, .inl rfl⟩
    · simp only [List.size_toArray, List.length_append, List.length_take, List.length_drop, Array.length_toList]
      omega
    · rw [htake, ← hlen]
      exact List.take_left
  · have holds : ∀ j u, xs[j]? = some u → w.cell? ((⟨g, 0, none⟩ : Addr).add j) = some u := hown.cells (g := g) rfl
    have hold : (Builtin.firstCells i.size n (.slice (some ⟨g, 0, none⟩) n cap)).run P w.drew = .ok xs.toArray w.drew := run_firstCells_some w.drew i.size n ⟨g, 0, none⟩ n cap xs hown.1 (by simpa using holds)
    have hr := run_append_grow_src (P := P) w t tx ty e i z ht hi hz (some ⟨g, 0, none⟩) n cap xs hold x m news hs (by omega) (by simp only [maxLen] at h63; omega) (growslice_fits_wide (by omega) hbytes)
    have hge := grownCap_ge w (n + m) cap e
    have hcm' : grownCap w (n + m) cap e ≤ maxLen := grownCap_le_maxLen w (n + m) cap e h63
    refine ⟨w.heap.size, _, _, hr, ⟨hlen, .inr ⟨w.heap.size, _, _, rfl, hbase, heap_alloc_new w.drew _, hge, hcm', ?_, ?_⟩⟩, ⟨rfl, rfl, rfl, by simp, fun k hk _ => heap_alloc_old w.drew _ hk⟩, .inr rfl⟩
    · simp only [Array.size_append, List.size_toArray, size_zeroCells, hzs, hlen, ← Nat.add_mul]
      congr 1
      omega
    · simp only [Array.toList_append]
      rw [← hlen]
      exact List.take_left
theorem wpList_app_src {P : Program} (w : World) {ops : Array Oper} {rest : List Oper} {o : Oper} {a : Act} {Q : Exit → Act → World → Prop} (hgd : o.guard = none) (s x : Operand) (t tx : TypeId)
    (ho : o.op = .call { callee := .builtin .append, args := #[s, x], argTypes := #[t, tx] })
    (base : Nat) (e : TypeId) (i : TypeInfo) (z : Value) (size bytes : Nat) (ht : P.underlying t = some (.slice e)) (hi : P.info? e = some i) (hz : i.zero = some z)
    (hsize : i.size = size) (hby : i.bytes = bytes) (hzs : z.cells.size = size) (g n cap : Nat) (xs : List Value) (hs : a.eval s = .slice (some ⟨g, 0, none⟩) n cap) (hown : w.ownsRow base e size (.slice (some ⟨g, 0, none⟩) n cap) n xs)
    (v : Value) (m : Nat) (news : List Value) (hx : a.eval x = v) (hsrc : Src P size tx v m news w) (h63 : n + m ≤ maxLen) (hbytes : ((n + m) + (n + m) / 4 + 192) * bytes ≤ 281474976710656) (hbase : base ≤ w.heap.size)
    (h : ∀ g' cap' w', w'.ownsRow base e size (.slice (some ⟨g', 0, none⟩) (n + m) cap') (n + m) (xs ++ news) → w.grownBy w' (some g) → (g' = g ∨ g' = w.heap.size) → wpList P ops Q rest (a.put o.dst (.slice (some ⟨g', 0, none⟩) (n + m) cap')) w') : wpList P ops Q (o :: rest) a w := by
  refine wpList_plain hgd fun K hK => ?_
  obtain ⟨g', cap', w', hr, h2, h3, h4⟩ := run_app_src (P := P) w base t tx o.type e i z size bytes ht hi hz hsize hby hzs g n cap xs hown v m news hsrc h63 hbytes hbase
  unfold Oper.wp execOp
  simp only [ho, resolve, invoke, builtin, Sem.run_bind, Sem.run_pure, Result.andThen_ok, List.map_toArray, List.map_cons, List.map_nil, hs, hx, hr]
  exact hK _ _ (h g' cap' w' h2 h3 h4)
end Go.Proofs.YtnndlffidifddaaGreatDoor

/- Appends onto a row of bytes of one's own, as steps of a walk; tenonref02.put at terms without parts. -/
namespace Go.Proofs.YtnndlffidifddaaGreatDoor
open Go.RowKit

theorem Byts.alloc {w : World} {base : Nat} {a : Option Addr} {m cap : Nat} {l : List UInt8} (h : Byts w base a m cap l) (o : Obj) : Byts (w.alloc o) base a m cap l := ⟨h.1, h.2.alloc o⟩
theorem Byts.on {w w' : World} {base : Nat} {a : Option Addr} {m cap : Nat} {l : List UInt8} (h : Byts w base a m cap l) (hw : Below w.heap.size w w') : Byts w' base a m cap l := ⟨h.1, own_on h.2 hw⟩
/-- bytes -/
theorem wpA {ops : Array Oper} {rest : List Oper} {o : Oper} {act : Act} {Q : Exit → Act → World → Prop} (w : World) (hgd : o.guard = none) (s x : Operand) (ho : o.op = .call { callee := .builtin .append, args := #[s, x], argTypes := #[23, 23] })
    (base : Nat) (a : Option Addr) (m cap : Nat) (xs : List UInt8) (hs : act.eval s = .slice a m cap) (hn : Byts w base a m cap xs) (ys : List UInt8) (q g0 : Nat) (hq : ys.length = q) (hx : act.eval x = .slice (some ⟨g0, 0, none⟩) q q) (hys : ∀ j u, (Sp.u8c ys)[j]? = some u → w.cell? ((⟨g0, 0, none⟩ : Addr).add j) = some u) (hpos : 0 < q) (hl : m + q ≤ 70368744177664) (hb : base ≤ w.heap.size)
    (h : ∀ g p w', Byts w' base (some ⟨g, 0, none⟩) (m + q) p (xs ++ ys) → Kp base w w' → wpList Tryz.prog ops Q rest (act.put o.dst (.slice (some ⟨g, 0, none⟩) (m + q) p)) w') : wpList Tryz.prog ops Q (o :: rest) act w := by
  obtain ⟨i0, hi, hz0, hz1, hz2⟩ := info_parts Tryz.infoB
  subst hq
  refine wpList_app w hgd s x 23 ho base 5 i0 (.int .u8 0) 1 1 Tryz.undB hi hz0 hz1 hz2 rfl (by decide) _ m (Sp.u8c xs) hs hn.2 ⟨g0, 0, none⟩ ys.length ys.length (Sp.u8c ys) hx (by rw [u8c_len, Nat.mul_one]) hys (u8c_one _) hpos (by unfold maxLen; omega) (by omega) hb ?_
  intro g p w' hown hgrow _
  exact h g p w' ⟨by rw [List.length_append, ← hn.1], by rw [u8c_app]; exact hown⟩ ((Kp.refl base w).grown (v := .slice a m cap) (by cases a <;> exact hgrow) hb hn.2)
/-- a text -/
theorem wpS {ops : Array Oper} {rest : List Oper} {o : Oper} {act : Act} {Q : Exit → Act → World → Prop} (w : World) (hgd : o.guard = none) (s x : Operand) (ho : o.op = .call { callee := .builtin .append, args := #[s, x], argTypes := #[23, 9] })
    (base : Nat) (a : Option Addr) (m cap : Nat) (xs : List UInt8) (hs : act.eval s = .slice a m cap) (hn : Byts w base a m cap xs) (t : ByteArray) (hx : act.eval x = .string t) (hl : m + t.size ≤ 70368744177664) (hb : base ≤ w.heap.size)
    (h : ∀ a' p w', Byts w' base a' (m + t.size) p (xs ++ t.data.toList) → Kp base w w' → wpList Tryz.prog ops Q rest (act.put o.dst (.slice a' (m + t.size) p)) w') : wpList Tryz.prog ops Q (o :: rest) act w := by
  obtain ⟨i0, hi, hz0, hz1, hz2⟩ := info_parts Tryz.infoB
  refine Lib.wpList_append_own_string w hgd s x 23 9 ho base 5 i0 Tryz.undB Tryz.undSd hi hz0 hz1 hz2 (.slice a m cap) m (Sp.u8c xs) hs hn.2 t hx (by unfold maxLen; omega) (by omega) hb ?_
  intro v' w' hown hgrow _
  obtain ⟨a', p, rfl⟩ := own_slice_n hown
  exact h a' p w' (hn.str hown) ((Kp.refl base w).grown hgrow hb hn.2)
theorem Byts.src {w : World} {base : Nat} {a : Option Addr} {m cap : Nat} {l : List UInt8} (h : Byts w base a m cap l) : Src Tryz.prog 1 23 (.slice a m cap) m (Sp.u8c l) w := by
  obtain ⟨h1, h2⟩ := h
  rcases h2.2 with ⟨e, e0⟩ | ⟨g, c, cur, e, _⟩
  · injection e with e1 e2 e3
    subst e1 e3 e0
    obtain rfl : l = [] := List.length_eq_zero_iff.1 h1.symm
    exact Src.ofNil _ Tryz.undB 0
  · injection e with e1 e2 e3
    subst e1
    exact Src.ofSlice _ Tryz.undB ⟨g, 0, none⟩ m cap _ (by rw [u8c_len, ← h1, Nat.mul_one]) (fun j u hu => h2.cells (g := g) rfl j u hu) (u8c_one l)
/-- a row of bytes that another function made -/
theorem wpX {ops : Array Oper} {rest : List Oper} {o : Oper} {act : Act} {Q : Exit → Act → World → Prop} (w : World) (hgd : o.guard = none) (s x : Operand) (ho : o.op = .call { callee := .builtin .append, args := #[s, x], argTypes := #[23, 23] })
    (base g0 m cap : Nat) (xs : List UInt8) (hs : act.eval s = .slice (some ⟨g0, 0, none⟩) m cap) (hn : Byts w base (some ⟨g0, 0, none⟩) m cap xs) (b2 : Nat) (a2 : Option Addr) (m2 cap2 : Nat) (ys : List UInt8) (hx : act.eval x = .slice a2 m2 cap2) (hy : Byts w b2 a2 m2 cap2 ys) (hl : m + m2 ≤ 70368744177664) (hb : base ≤ w.heap.size)
    (h : ∀ g p w', Byts w' base (some ⟨g, 0, none⟩) (m + m2) p (xs ++ ys) → Kp base w w' → wpList Tryz.prog ops Q rest (act.put o.dst (.slice (some ⟨g, 0, none⟩) (m + m2) p)) w') : wpList Tryz.prog ops Q (o :: rest) act w := by
  obtain ⟨i0, hi, hz0, hz1, hz2⟩ := info_parts Tryz.infoB
  refine wpList_app_src w hgd s x 23 23 ho base 5 i0 (.int .u8 0) 1 1 Tryz.undB hi hz0 hz1 hz2 rfl g0 m cap (Sp.u8c xs) hs hn.2 (.slice a2 m2 cap2) m2 (Sp.u8c ys) hx hy.src (by unfold maxLen; omega) (by omega) hb ?_
  intro g p w' hown hgrow _
  exact h g p w' ⟨by rw [List.length_append, ← hn.1, ← hy.1], by rw [u8c_app]; exact hown⟩ ((Kp.refl base w).grown (v := .slice (some ⟨g0, 0, none⟩) m cap) hgrow hb hn.2)
theorem Kp.of {base : Nat} {w w' : World} (h : Below w.heap.size w w') (hb : base ≤ w.heap.size) : Kp base w w' := ⟨h.mono hb, fun k o hk0 _ _ => by rw [h.block k (Array.getElem?_eq_some_iff.1 hk0).1]; exact hk0⟩
theorem Kp.box {base : Nat} {w w' : World} (h : Kp base w w') {k : Nat} {c : Array Value} {T : TypeId} {fz : Nat × Nat} (hk : w.heap[k]? = some (.cells c T fz)) (hT : T ≠ 5) : w'.heap[k]? = some (.cells c T fz) :=
  h.kept k _ hk (by simp) (fun c' fz' e => by injection e with _ e2; exact hT e2)

section
variable (k : Int) (b : Bool) (i : Int) (f : Nat) (tx : ByteArray) (vb : Value) (rf : Int) (vl vf : Value) (c : ByteArray) (vr : Int)
abbrev Wp (w : World) : World := w.alloc (.cells (tcells k b i f tx vb rf vl vf c vr) 29)
set_option maxRecDepth 100000 in
set_option maxHeartbeats 2000000 in
/-- put at a term without parts, whose text is known -/
theorem put_leaf (ab : Option Addr) (nb cb : Nat) (al : Option Addr) (nl cl : Nat) (af : Option Addr) (nf cf : Nat) (ln : Bool) (d : Nat) (s : ByteArray) (xs : List UInt8) (a : Option Addr) (m cap base : Nat) (w : World) (h8 : (k != 8) = true) (h9 : (k != 9) = true) (h10 : (k != 10) = true) (h : Byts w base a m cap xs) (hb : base ≤ w.heap.size) (hl : m + s.size ≤ 70368744177664)
    (hone : ∀ W, Below (Wp k b i f tx (.slice ab nb cb) rf (.slice al nl cl) (.slice af nf cf) c vr w).heap.size (Wp k b i f tx (.slice ab nb cb) rf (.slice al nl cl) (.slice af nf cf) c vr w) W → Calls Tryz.prog 34 #[.agg (tcells k b i f tx (.slice ab nb cb) rf (.slice al nl cl) (.slice af nf cf) c vr)] W fun e w' => e = .returned (.string s) ∧ Below W.heap.size W w') :
    Calls Tryz.prog 18 #[.slice a m cap, .agg (tcells k b i f tx (.slice ab nb cb) rf (.slice al nl cl) (.slice af nf cf) c vr), .bool ln, .int .i64 (d : Int)] w (AppH base xs s.data.toList w) := by
  unfold tcells at hone ⊢
  have HO := hone
  have HO : Hid _ := HO
  have HN : Hid (Byts w base a m cap xs) := h
  clear h hone
  go_enter Tryz.func18, Tryz.ntmps18
  go_wp2_with fail
  refine (HO.out _ (Below.refl _ _)).mono ?_
  rintro e w1 ⟨rfl, hb1⟩
  have HB1 : Hid (Byts w1 base a m cap xs ∧ Kp base w w1 ∧ base ≤ w1.heap.size) := by
    have hb2 : Below w.heap.size w w1 := below_to ((Below.refl _ _).alloc (Nat.le_refl _) _) hb1
    exact ⟨HN.out.on hb2, Kp.of hb2 hb, Nat.le_trans hb hb2.size⟩
  clear hb1
  go_wp2_with (at_builtin; refine wpS _ rfl _ _ rfl base a m cap xs rfl HB1.out.1 s rfl hl HB1.out.2.2 ?_; intro a2 p2 w2 hn2 hk2; have H2 : Hid (Byts w2 base a2 (m + s.size) p2 (xs ++ s.data.toList) ∧ Kp base w w2) := ⟨hn2, HB1.out.2.1.trans hk2⟩; clear hn2 hk2)
  go_ret
  exact ⟨a2, _, p2, rfl, H2⟩
end
end Go.Proofs.YtnndlffidifddaaGreatDoor

