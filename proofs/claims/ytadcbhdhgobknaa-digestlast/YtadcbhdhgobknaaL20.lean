/- digest.Map's Put. -/
import Derived.Test.YtadcbhdhgobknaaL19
import Derived.Test.YtadcbhdhgobknaaL15
import Derived.Test.YtadcbhdhgobknaaL16
import Derived.Test.YtadcbhdhgobknaaL9
namespace Go.Proofs.Ytadcbhdhgobknaa
open Go.RowKit

/-- what Put tells, and what it leaves -/
def PutE (G : List (ByteArray × Tm)) (s : ByteArray) (ke : Int) (t : Tm) (mb : Nat) (w : World) (e : Ending) (w' : World) : Prop :=
  Below mb w w' ∧ ((ke ≠ 0 ∧ DM w' mb G ∧ e = .returned (.tuple #[.nilIface, .bool false, .int .i64 ke])) ∨ (ke = 0 ∧ t.all.e ≠ 0 ∧ DM w' mb G ∧ e = .returned (.tuple #[.nilIface, .bool false, .int .i64 t.all.e])) ∨
    (ke = 0 ∧ t.all.e = 0 ∧ Sp.look G s = none ∧ DM w' mb G ∧ (4096 : Int) ≤ G.length ∧ e = .returned (.tuple #[.nilIface, .bool false, .int .i64 50])) ∨
    (ke = 0 ∧ t.all.e = 0 ∧ DM w' mb (Sp.put G s t) ∧ ∃ v, e = .returned (.tuple #[v, .bool (Sp.look G s).isSome, .int .i64 0])))

set_option maxRecDepth 100000 in
set_option maxHeartbeats 1000000 in
theorem Put_badKey (G : List (ByteArray × Tm)) (mb : Nat) (kv v : Value) (s : ByteArray) (ke : Int) (t : Tm) (w : World) (h : DM w mb G) (hk : Calls Try.prog 29 #[kv] w (KeyE s ke w)) (he : ke ≠ 0) :
    Calls Try.prog 33 #[.pointer (some ⟨mb, 0, none⟩), kv, v] w (PutE G s ke t mb w) := by
  have HK : Hid (Calls Try.prog 29 #[kv] w (KeyE s ke w)) := hk
  have HD : Hid (DM w mb G) := h
  clear h hk
  have he' := ne_bool he
  have HN : Hid (ke ≠ 0) := he
  clear he
  go_enter Try.func33, Try.ntmps33
  go_wp2_with fail
  refine HK.out.mono ?_
  rintro e w1 ⟨rfl, hb⟩
  have HB : Hid (Below w.heap.size w w1) := hb
  clear hb
  go_wp2_with fail
  go_ret3
  exact ⟨HB.out.mono (Nat.le_of_lt HD.out.lt), .inl ⟨HN.out, HD.out.call HB.out, rfl⟩⟩

set_option maxRecDepth 100000 in
set_option maxHeartbeats 1000000 in
theorem Put_badVal (G : List (ByteArray × Tm)) (mb : Nat) (kv v : Value) (s : ByteArray) (t : Tm) (w : World) (h : DM w mb G) (hk : Calls Try.prog 29 #[kv] w (KeyE s 0 w)) (hv : t.V w (Lo w.heap.size) v) (he : t.all.e ≠ 0) :
    Calls Try.prog 33 #[.pointer (some ⟨mb, 0, none⟩), kv, v] w (PutE G s 0 t mb w) := by
  have HK : Hid (Calls Try.prog 29 #[kv] w (KeyE s 0 w)) := hk
  have HC : Hid (∀ W, Below w.heap.size w W → Calls Try.prog 57 #[v] W fun e w' => e = .returned (.tuple #[.nilIface, .int .i64 t.all.e]) ∧ Below W.heap.size W w') := fun W hW => Copy_err t v w.heap.size W hW.size (t.V_same (Same.of_below hW (Nat.le_refl _)) (fun _ h => h) v hv) he
  have HD : Hid (DM w mb G) := h
  clear h hk hv
  have he' := ne_bool he
  have HN : Hid (t.all.e ≠ 0) := he
  clear he
  go_enter Try.func33, Try.ntmps33
  go_wp2_with fail
  refine HK.out.mono ?_
  rintro e w1 ⟨rfl, hb⟩
  have HB : Hid (Below w.heap.size w w1) := hb
  clear hb
  go_wp2_with fail
  refine (HC.out _ HB.out).mono ?_
  rintro e w2 ⟨rfl, hb2⟩
  have HB2 : Hid (Below w.heap.size w w2) := below_to HB.out hb2
  clear hb2
  go_wp2_with fail
  go_ret3
  exact ⟨HB2.out.mono (Nat.le_of_lt HD.out.lt), .inr (.inl ⟨rfl, HN.out, HD.out.call HB2.out, rfl⟩)⟩

theorem MapR.call {w w' : World} {mb b : Nat} {G : List (ByteArray × Tm)} {es : Array MapEntry} {clock : Nat} (hm : MapR w (Ex w b mb) b G es clock) (hb : Below w.heap.size w w') : MapR w' (Ex w' b mb) b G es clock := by
  refine ⟨by rw [hb.block _ (heap_lt hm.blk)]; exact hm.blk, hm.len, fun j x g hx hg => ?_, hm.apart⟩
  obtain ⟨k1, k2, k3⟩ := hm.ent j x g hx hg
  exact ⟨k1, k2, g.2.V_same (B := Ex w b mb) (fun k hk => hb.block k hk.1) (fun k hk => ⟨Nat.lt_of_lt_of_le hk.1 hb.size, hk.2⟩) _ k3⟩
/-- what is stored in a map that is not there yet -/
theorem DM.storedNew {w : World} {mb : Nat} (hrow : w.heap[mb]? = some (.cells #[.map none] 68 (0, 0))) {s : ByteArray} (hs : s.size ≤ maxLen) {t : Tm} {v : Value} (hv : t.V w (fun k => k < w.heap.size ∧ k ≠ mb) v) (ht : t.all.e = 0 ∧ t.Bdd) :
    ∃ w', (Instr.mapUpdate 66 (.map (some w.heap.size)) (.string s) v).run Try.prog ((w.alloc (.map #[] 0)).setCell ⟨mb, 0, none⟩ (.map (some w.heap.size))) = .ok () w' ∧ DM w' mb (Sp.put [] s t) ∧ Below mb w w' := by
  obtain ⟨h1, h2⟩ := DM.made hrow rfl
  have hlt := heap_lt hrow
  have hbl : Below mb w ((w.alloc (.map #[] 0)).setCell ⟨mb, 0, none⟩ (.map (some w.heap.size))) := ((Below.refl mb w).alloc (Nat.le_of_lt hlt) _).setCell (p := ⟨mb, 0, none⟩) (Nat.le_refl mb) _
  obtain ⟨w', hrun, hd, hb⟩ := DM.stored h1 hlt h2 (fun g hg => by cases hg) hs (t := t) (v := v) (t.V_same (fun k hk => by
    rw [heap_setCell_other _ _ _ _ hk.2, Below.heap_alloc _ _ _ hk.1]) (fun k hk => ⟨Nat.lt_of_lt_of_le hk.1 hbl.size, Nat.ne_of_lt hk.1, hk.2⟩) v hv) ht
  exact ⟨w', hrun, hd, hbl.trans hb⟩

theorem mk_map (w : World) : (Instr.makeMap 66 none).run Try.prog w = .ok (.map (some w.heap.size)) (w.alloc (.map #[] 0)) := by
  simp [Instr.makeMap, Result.andThen]
theorem eql_none (w : World) : (binOp .eql 66 (.map none) (.map none)).run Try.prog w = .ok (.bool true) w := by kernel_rfl
theorem eql_some (b : Nat) (w : World) : (binOp .eql 66 (.map (some b)) (.map none)).run Try.prog w = .ok (.bool false) w := by kernel_rfl
set_option maxRecDepth 100000 in
set_option maxHeartbeats 1000000 in
theorem Put_ok (G : List (ByteArray × Tm)) (mb : Nat) (kv v : Value) (s : ByteArray) (t : Tm) (hs : s.size ≤ maxLen) (w : World) (h : DM w mb G) (hk : Calls Try.prog 29 #[kv] w (KeyE s 0 w)) (hv : t.V w (Lo w.heap.size) v) (he : t.all.e = 0) (hbd : t.Bdd) :
    Calls Try.prog 33 #[.pointer (some ⟨mb, 0, none⟩), kv, v] w (PutE G s 0 t mb w) := by
  have HK : Hid (Calls Try.prog 29 #[kv] w (KeyE s 0 w)) := hk
  have HC : Hid (∀ W, Below w.heap.size w W → Calls Try.prog 57 #[v] W fun e w' => ∃ v', e = .returned (.tuple #[v', .int .i64 0]) ∧ Below W.heap.size W w' ∧ t.V w' (Fr W w') v') := fun W hW => Copy_ok t v w.heap.size W hW.size (t.V_same (Same.of_below hW (Nat.le_refl _)) (fun _ h => h) v hv) he
  have HA : Hid (∀ W, Below w.heap.size w W → Calls Try.prog 58 #[.pointer (some ⟨mb, 0, none⟩), .string s] W (AtE G s W)) := fun W hW => at_any G mb s hs W (h.call hW)
  have HD : Hid (DM w mb G) := h
  have HT : Hid (t.all.e = 0 ∧ t.Bdd ∧ s.size ≤ maxLen) := ⟨he, hbd, hs⟩
  clear h hk hv he hbd hs
  go_enter Try.func33, Try.ntmps33
  go_wp2_with fail
  refine HK.out.mono ?_
  rintro e w1 ⟨rfl, hb⟩
  have HB : Hid (Below w.heap.size w w1) := hb
  clear hb
  go_wp2_with fail
  refine (HC.out _ HB.out).mono ?_
  rintro e w2 ⟨v', rfl, hb2, hv2⟩
  have HB2 : Hid (Below w.heap.size w w2) := below_to HB.out hb2
  have HV2 : Hid (t.V w2 (fun k => w.heap.size ≤ k ∧ k < w2.heap.size) v') := t.V_same (Same.refl _ _) (fun k hk => ⟨Nat.le_trans HB.out.size hk.1, hk.2⟩) v' hv2
  clear hb2 hv2
  go_wp2_with fail
  refine (HA.out _ HB2.out).mono ?_
  rintro e w3 ⟨hb3, hat⟩
  have HB3 : Hid (Below w.heap.size w w3) := below_to HB2.out hb3
  have HV3 : Hid (t.V w3 (fun k => w.heap.size ≤ k ∧ k < w2.heap.size) v') := t.V_same (fun k hk => hb3.block k hk.2) (fun _ h => h) v' HV2.out
  have HS3 : Hid (w2.heap.size ≤ w3.heap.size) := hb3.size
  obtain ⟨hc, kv', h1, h2⟩ := HD.out
  have HROW : Hid (w3.heap[mb]? = some (.cells #[kv'] 68 (0, 0))) := by show _ = _; rw [HB3.out.block _ (heap_lt h1)]; exact h1
  have c0 : w3.cell? ⟨mb, 0, none⟩ = some kv' := by rw [cell_of_row _ _ 0 _ _ _ HROW.out]; rfl
  clear hb3 h1
  rcases h2 with ⟨rfl, rfl⟩ | ⟨b, es, clock, rfl, hmb, hm0⟩
  · obtain rfl : e = .returned (.tuple #[.nilIface, .bool false]) := by
      rcases hat with ⟨t, v, h, _⟩ | ⟨_, rfl⟩
      · simp [Sp.look] at h
      · rfl
    obtain ⟨w', hrun, hd, hb⟩ := DM.storedNew HROW.out HT.out.2.2 (t := t) (v := v') (t.V_same (Same.refl _ _) (fun k hk => ⟨Nat.lt_of_lt_of_le hk.2 HS3.out, fun e => absurd HD.out.lt (by omega)⟩) v' HV3.out) ⟨HT.out.1, HT.out.2.1⟩
    have H4 : Hid (DM w' mb (Sp.put [] s t) ∧ Below mb w3 w') := ⟨hd, hb⟩
    have c1 : (w3.alloc (.map #[] 0)).cell? ⟨mb, 0, none⟩ = some (.map none) := by rw [cell_of_row _ _ 0 _ _ _ (by rw [Below.heap_alloc _ _ _ (heap_lt HROW.out)]; exact HROW.out)]; rfl
    have c2 : ((w3.alloc (.map #[] 0)).setCell ⟨mb, 0, none⟩ (.map (some w3.heap.size))).cell? ⟨mb, 0, none⟩ = some (.map (some w3.heap.size)) := by
      rw [cell_of_row _ _ 0 _ _ _ (DM.made HROW.out rfl).1]; rfl
    clear hd hb hat hc
    have heq := eql_none w3
    have hmk := mk_map w3
    have hfz : (w3.alloc (.map #[] 0)).frozen? ⟨mb, 0, none⟩ = false := frozen_of_row _ _ _ _ _ (by rw [Below.heap_alloc _ _ _ (heap_lt HROW.out)]; exact HROW.out)
    go_wp2_with fail
    all_goals
      go_ret3
      exact ⟨(HB3.out.mono (Nat.le_of_lt HD.out.lt)).trans H4.out.2, .inr (.inr (.inr ⟨rfl, HT.out.1, H4.out.1, _, rfl⟩))⟩
  · have hm := hm0.call HB3.out
    have hl : es.size = G.length := by rw [← hm.len]; simp
    have hln : ∀ ty, (Builtin.len_ #[66] ty #[.map (some b)]).run Try.prog w3 = .ok (.int .i64 (G.length : Int)) w3 := fun ty => by
      simp [Builtin.len_, run_underlying Try.undMp, MapKept.run_getObj_map hm.blk, goInt, Result.andThen, hl]
    have hbs := heap_lt hm0.blk
    have HVE : Hid (t.V w3 (Ex w3 b mb) v') := t.V_same (Same.refl _ _) (fun k hk => ⟨Nat.lt_of_lt_of_le hk.2 HS3.out, by have := hk.1; omega, by have := hk.1; omega⟩) v' HV3.out
    obtain ⟨w', hrun, hd, hb⟩ := DM.stored HROW.out hmb hm hc HT.out.2.2 HVE.out ⟨HT.out.1, HT.out.2.1⟩
    have H4 : Hid (DM w' mb (Sp.put G s t) ∧ Below mb w3 w') := ⟨hd, hb⟩
    have heq := eql_some b w3
    clear hd hb hc hm hm0 hmb hl hbs
    rcases hat with ⟨t', u, hlk, rfl, _⟩ | ⟨hlk, rfl⟩
    · have HL : Hid ((Sp.look G s).isSome = true) := by show _ = _; rw [hlk]; rfl
      clear hlk
      go_wp2_with fail
      go_ret3
      exact ⟨(HB3.out.mono (Nat.le_of_lt HD.out.lt)).trans H4.out.2, .inr (.inr (.inr ⟨rfl, HT.out.1, H4.out.1, u, by rw [HL.out]; rfl⟩))⟩
    · have HL : Hid (Sp.look G s = none) := hlk
      clear hlk
      rcases (show (G.length : Int) < 4096 ∨ (4096 : Int) ≤ G.length by omega) with hfull | hfull
      · go_wp2_with fail
        go_ret3
        exact ⟨(HB3.out.mono (Nat.le_of_lt HD.out.lt)).trans H4.out.2, .inr (.inr (.inr ⟨rfl, HT.out.1, H4.out.1, .nilIface, by rw [HL.out]; rfl⟩))⟩
      · go_wp2_with fail
        go_ret3
        exact ⟨HB3.out.mono (Nat.le_of_lt HD.out.lt), .inr (.inr (.inl ⟨rfl, HT.out.1, HL.out, HD.out.call HB3.out, hfull, rfl⟩))⟩
end Go.Proofs.Ytadcbhdhgobknaa

/- tenonref01.Check at a term: what the plain walk through it says. -/
namespace Go.Proofs.Ytadcbhdhgobknaa
open Go.RowKit

theorem part_all (N : Nat) : PartC N := by
  induction N with
  | zero => intro t ht; cases t; simp [Tm.sz] at ht
  | succ N ih => intro t hN cs B p d a n w h hB h1 h2 h3 h4; exact part_any N ih t hN cs B p d a n w h hB h1 h2 h3 h4

theorem part_top (t : Tm) (cs : Array Value) (B : Nat → Prop) (w : World) (h : t.In w B cs) (hB : Sub B w) : ∀ W, Below w.heap.size w W →
    Calls Try.prog 43 #[.agg #[.int .i64 0, .int .i64 0, .int .i64 0, .int .i64 0], .agg cs, .int .i64 1] W fun e w' => ∃ n d a, e = .returned (.agg #[.int .i64 n, .int .i64 d, .int .i64 a, .int .i64 t.all.e]) ∧ Below W.heap.size W w' ∧ Seen 0 t.all n d a :=
  fun W hW => part_all t.sz t (Nat.le_refl _) cs B 0 0 0 1 W (t.In_same (hB.same hW) (fun _ h => h) cs h) (hB.later hW) (by decide) (by decide) (by decide) (by decide)

set_option maxRecDepth 100000 in
set_option maxHeartbeats 400000 in
theorem refCheck_any (t : Tm) (cs : Array Value) (B : Nat → Prop) (w : World) (h : t.In w B cs) (hB : Sub B w) :
    Calls Try.prog 12 #[.agg cs] w fun e w' => e = .returned (.tuple #[.int .i64 t.cAt, .int .i64 t.all.e]) ∧ Below w.heap.size w w' := by
  have HP := part_top t cs B w h hB
  obtain ⟨k, b, i, f, tx, vb, rf, vl, vf, c, vr, rfl⟩ : ∃ k b i f tx vb rf vl vf c vr, cs = tcells k b i f tx vb rf vl vf c vr := by
    cases t; simp only [Tm.In] at h; obtain ⟨_, _, _, _, _, _, rfl, _⟩ := h; exact ⟨_, _, _, _, _, _, _, _, _, _, _, rfl⟩
  clear h
  unfold tcells at HP ⊢
  have HP : Hid _ := HP
  have HS : Hid (∀ n d a, Seen 0 t.all n d a → a = t.cAt) := fun n d a hs => by
    unfold Tm.cAt
    by_cases he : t.all.e ≠ 0
    · rw [if_pos he]; exact hs.2 he
    · rw [if_neg he]; exact (hs.1 (Decidable.not_not.1 he)).2.2
  go_enter Try.func12, Try.ntmps12
  go_wp2_with (go_at_call 43; refine (HP.out _ ?_).mono ?_; exact (Below.refl _ _).alloc (Nat.le_refl _) _; rintro e w1 ⟨n, d, a, rfl, hb1, hs⟩; obtain rfl := HS.out n d a hs)
  go_quiet (fail)
  go_wp2_with fail
  go_ret2
  have hz : w.heap.size ≤ w1.heap.size := by have := hb1.size; simp at this; omega
  exact ⟨rfl, ((((Below.refl _ _).alloc (Nat.le_refl _) _).trans (hb1.mono (by simp))).alloc hz _).trans (below_drewN' _ _ _)⟩
end Go.Proofs.Ytadcbhdhgobknaa

/- value.Same at two terms' values; two terms in boxes. -/
namespace Go.Proofs.Ytadcbhdhgobknaa
open Go.RowKit

theorem same_ok {s t : Tm} (h : s.all.e = 0 ∧ t.all.e = 0) : s.ordE t = 0 ∧ s.ordN t = s.cmp t := by
  unfold Tm.ordE Tm.ordN; rw [if_neg (by omega), if_neg (by omega)]; exact ⟨h.2, rfl⟩
theorem same_err {s t : Tm} (h : s.ordE t ≠ 0) : ¬ (s.all.e = 0 ∧ t.all.e = 0) := fun g => h (same_ok g).1
theorem ok_both {s t : Tm} (h : s.ordE t = 0) : s.all.e = 0 ∧ t.all.e = 0 := by
  unfold Tm.ordE at h; split at h
  · exact absurd h (by assumption)
  · exact ⟨Decidable.not_not.1 (by assumption), h⟩

/-- the eleven cells of a term in box g -/
def Tbx (W : World) (g : Nat) (k : Int) (b : Bool) (i : Int) (f : Nat) (tx : ByteArray) (vb : Value) (rf : Int) (vl vf : Value) (c : ByteArray) (vr : Int) : Prop :=
  W.cell? ⟨g, 0, none⟩ = some (.int .i64 k) ∧ W.cell? ⟨g, 1, none⟩ = some (.bool b) ∧ W.cell? ⟨g, 2, none⟩ = some (.int .i64 i) ∧ W.cell? ⟨g, 3, none⟩ = some (.float .f64 f) ∧ W.cell? ⟨g, 4, none⟩ = some (.string tx) ∧ W.cell? ⟨g, 5, none⟩ = some vb ∧ W.cell? ⟨g, 6, none⟩ = some (.int .u64 rf) ∧ W.cell? ⟨g, 7, none⟩ = some vl ∧ W.cell? ⟨g, 8, none⟩ = some vf ∧ W.cell? ⟨g, 9, none⟩ = some (.string c) ∧ W.cell? ⟨g, 10, none⟩ = some (.int .i64 vr)
theorem bx_of {w : World} {g : Nat} {k : Int} {b : Bool} {i : Int} {f : Nat} {tx : ByteArray} {vb : Value} {rf : Int} {vl vf : Value} {c : ByteArray} {vr : Int}
    (h : w.heap[g]? = some (.cells (tcells k b i f tx vb rf vl vf c vr) 29 (0, 0))) : Tbx w g k b i f tx vb rf vl vf c vr := by
  have hh := fun j => cell_of_row w g j _ _ _ h
  exact ⟨hh 0, hh 1, hh 2, hh 3, hh 4, hh 5, hh 6, hh 7, hh 8, hh 9, hh 10⟩
theorem Tm.In_box {w : World} {B : Nat → Prop} {t : Tm} {cs : Array Value} (h : t.In w B cs) : ∃ b i f tx vb rf vl vf c vr, cs = tcells t.kind b i f tx vb rf vl vf c vr := by
  cases t; simp only [Tm.In] at h; obtain ⟨_, _, _, _, _, _, rfl, _⟩ := h; exact ⟨_, _, _, _, _, _, _, _, _, _, rfl⟩
end Go.Proofs.Ytadcbhdhgobknaa

/- The leaves of the document's own order: tenonref01's numbers, texts, flag, place. -/
namespace Go.Proofs.Ytadcbhdhgobknaa
open Go.RowKit

set_option maxRecDepth 100000 in
set_option maxHeartbeats 400000 in
theorem numbers_any (a b : Int) (w : World) :
    Calls Try.prog 85 #[.int .u64 a, .int .u64 b] w fun e w' => e = .returned (.int .i64 (Sp.cmpI a b)) ∧ w = w' := by
  by_cases h1 : a < b
  · have H : Hid (Sp.cmpI a b = -1) := by show _ = _; simp [Sp.cmpI, h1]
    go_enter Try.func85, Try.ntmps85
    go_wp2
    go_ret
    exact ⟨ret_int H.out.symm, rfl⟩
  · by_cases h2 : b < a
    · have H : Hid (Sp.cmpI a b = 1) := by show _ = _; simp [Sp.cmpI, h1, h2]
      go_enter Try.func85, Try.ntmps85
      go_wp2
      go_ret
      exact ⟨ret_int H.out.symm, rfl⟩
    · have H : Hid (Sp.cmpI a b = 0) := by show _ = _; simp [Sp.cmpI, h1, h2]
      go_enter Try.func85, Try.ntmps85
      go_wp2
      go_ret
      exact ⟨ret_int H.out.symm, rfl⟩

set_option maxRecDepth 100000 in
set_option maxHeartbeats 400000 in
theorem texts_any (a b : ByteArray) (w : World) :
    Calls Try.prog 88 #[.string a, .string b] w fun e w' => e = .returned (.int .i64 (Sp.cmpS a b)) ∧ w = w' := by
  have hl := less_of a b
  have he := same_of a b
  rcases cmp_vals a.data.toList b.data.toList with h | h | h
  · have H : Hid (Sp.cmpS a b = -1) := h
    rw [H.out] at hl he; simp at hl he
    go_enter Try.func88, Try.ntmps88
    go_wp2
    go_ret
    exact ⟨ret_int H.out.symm, rfl⟩
  · have H : Hid (Sp.cmpS a b = 0) := h
    rw [H.out] at hl he; simp at hl he
    have he' : (a.toList == b.toList) = true := by simp [he]
    clear he
    go_enter Try.func88, Try.ntmps88
    go_wp2
    go_ret
    exact ⟨ret_int H.out.symm, rfl⟩
  · have H : Hid (Sp.cmpS a b = 1) := h
    rw [H.out] at hl he; simp at hl he
    have he' : (a.toList == b.toList) = false := by simp [he]
    clear he
    go_enter Try.func88, Try.ntmps88
    go_wp2
    go_ret
    exact ⟨ret_int H.out.symm, rfl⟩

set_option maxRecDepth 100000 in
set_option maxHeartbeats 400000 in
theorem flag_any (b : Bool) (w : World) :
    Calls Try.prog 86 #[.bool b] w fun e w' => e = .returned (.int .u64 (Sp.rank b)) ∧ w = w' := by
  cases b
  · go_enter Try.func86, Try.ntmps86
    go_wp2
    go_ret
    exact ⟨rfl, rfl⟩
  · go_enter Try.func86, Try.ntmps86
    go_wp2
    go_ret
    exact ⟨rfl, rfl⟩

theorem wrapU {n : Int} (h0 : 0 ≤ n) (h1 : n ≤ 18446744073709551615) : IntKind.u64.wrap n = n := by
  rw [IntKind.wrap_u64]; omega

set_option maxRecDepth 100000 in
set_option maxHeartbeats 400000 in
theorem place_any (f : Nat) (w : World) (hf : f < 18446744073709551616) :
    Calls Try.prog 87 #[.float .f64 f] w fun e w' => e = .returned (.int .u64 (Sp.frank f)) ∧ w = w' := by
  have hb := bits_run f
  by_cases h : 9223372036854775808 ≤ f
  · have ha : (9223372036854775808 : Int) ≤ (f : Int) := by omega
    have H : Hid (Sp.frank f = bits BinOp.xor IntKind.u64 IntKind.u64.max (f : Int)) := by show _ = _; rw [fr_xor f hf]; unfold Sp.frank; rw [if_pos h]
    clear h
    go_enter Try.func87, Try.ntmps87
    go_wp2
    go_ret
    exact ⟨ret_int H.out.symm, rfl⟩
  · have ha : ¬ (9223372036854775808 : Int) ≤ (f : Int) := by omega
    have hw : IntKind.u64.wrap ((f : Int) + 9223372036854775808) = (f : Int) + 9223372036854775808 := wrapU (by omega) (by omega)
    have H : Hid (Sp.frank f = (f : Int) + 9223372036854775808) := by show _ = _; unfold Sp.frank; rw [if_neg h]
    clear h
    go_enter Try.func87, Try.ntmps87
    go_wp2
    go_ret
    exact ⟨ret_int H.out.symm, rfl⟩
end Go.Proofs.Ytadcbhdhgobknaa

