/- value.copyOf at a list. -/
import Derived.Test.YtadcbhdhgobknaaL13
import Derived.Test.YtadcbhdhgobknaaL7
import Derived.Lib.BytesEntry
import Derived.Deep.RegionWith
namespace Go.Proofs.Ytadcbhdhgobknaa
open Go.RowKit

def CopC (N : Nat) : Prop := ∀ (t : Tm), t.sz ≤ N → ∀ (v : Value) (B : Nat → Prop) (w : World), t.V w B v → Sub B w → t.Ok →
  Calls Try.prog 106 #[v] w fun e w' => ∃ v', e = .returned v' ∧ Below w.heap.size w w' ∧ t.V w' (Fr w w') v'
theorem CopC.at {N : Nat} (HC : CopC N) {t : Tm} (hN : t.sz ≤ N) {v : Value} {B : Nat → Prop} {w : World} (h : t.V w B v) (hB : Sub B w) (ho : t.Ok) :
    ∀ W, Below w.heap.size w W → Calls Try.prog 106 #[v] W fun e w' => ∃ v', e = .returned v' ∧ Below W.heap.size W w' ∧ t.V w' (Fr W w') v' ∧ (v' = .nilIface ∨ ∃ T x, v' = .iface T x) := by
  intro W hW
  refine (HC t hN v B W (t.V_same (hB.same hW) (fun _ h => h) v h) (hB.later hW) ho).mono ?_
  rintro e w' ⟨v', rfl, hb, hv⟩
  exact ⟨v', rfl, hb, hv, t.V_shape v' hv⟩

set_option maxRecDepth 100000 in
set_option maxHeartbeats 2000000 in
theorem cof_8 (N : Nat) (HC : CopC N) (al : Option Addr) (L : TmL) (cl : Nat) (w : World) (hN : L.sz ≤ N) (B : Nat → Prop) (hB : Sub B w) (hL : L.V w B al 0) (hlen : L.len ≤ 4096) (ho : L.Ok) :
    Calls Try.prog 106 #[.iface 81 (.slice al L.len cl)] w fun e w' => ∃ a cap, e = .returned (.iface 81 (.slice a L.len cap)) ∧ Below w.heap.size w w' ∧ L.LV w' (Fr w w') a cap := by
  obtain ⟨i0, hi, hz0, hz1, hz2⟩ := info_parts Try.infoI
  have HCH : Hid (CopC N) := HC
  clear HC
  obtain ⟨M, hM⟩ : ∃ M, M = madeCells (Value.nilIface).cells (((L.len : Nat) : Int).toNat * i0.size) := ⟨_, rfl⟩
  have hMs : M.size = L.len := by rw [hM, size_madeCells, hz1]; simp
  have hmake : ∀ W : World, (Instr.makeSlice 81 (.int .i64 (L.len : Int)) (.int .i64 (L.len : Int))).run Try.prog W = .ok (.slice (some ⟨W.heap.size, 0, none⟩) L.len L.len) (W.alloc (.cells M 20)) := fun W => by
    have h := run_make (P := Try.prog) W 81 20 i0 .nilIface Try.undL hi hz0 .i64 .i64 (L.len : Int) (L.len : Int) (by omega) (by omega) (by rw [hz2]; omega) (by omega)
    rw [← hM] at h; simpa using h
  clear hM hi hz0 hz1 hz2
  have H0 : Hid (RW 20 w (w.alloc (.cells M 20)) w.heap.size L.len [] ∧ VPre (w.alloc (.cells M 20)) (Own w.heap.size (w.alloc (.cells M 20)) w.heap.size) L [] L ∧ L.V w B al 0 ∧ L.Ok) := by
    have h := RW.made (w := w) (w0 := w) (Below.refl _ _) M 20
    rw [hMs] at h
    exact ⟨h, (VPre_nil _ _).2 rfl, hL, ho⟩
  clear hL ho
  go_enter Try.func106, Try.ntmps106
  go_wp2_with fail
  go_loopw [32] (fun x wr => ∃ (k : Nat) (l : TmL) (xs : List Value), x = .int .i64 k ∧ l.len + k = L.len ∧ l.sz ≤ N ∧ xs.length = k ∧ Hid (RW 20 w wr (w.heap.size) L.len xs ∧ VPre wr (Own w.heap.size wr (w.heap.size)) L xs l ∧ l.V w B al k ∧ l.Ok)) (fun x _ => L.len - (intOf x).toNat)
  case atStart => exact ⟨0, L, [], rfl, rfl, hN, rfl, H0.out⟩
  case round =>
    obtain ⟨k, l, xs, rfl, hl, hlN, hxs, HR⟩ := hrel
    cases l with
    | nil =>
      have h1 : L.len ≤ k := by simp [TmL.len] at hl; omega
      clear hl
      go_wp2_with fail
      go_ret
      exact ⟨_, _, rfl, HR.out.1.bel, HR.out.2.1.fin HR.out.1 (by unfold maxLen; omega)⟩
    | cons t l =>
      obtain ⟨hrw, hpre, hsrc, hok⟩ := HR.out
      simp only [TmL.V] at hsrc
      obtain ⟨g1, o1, v1, rfl, hg1, hc, ht, hl'⟩ := hsrc
      have hk1 : k < L.len := by simp only [TmL.len] at hl; omega
      have HL : Hid (l.len + (k + 1) = L.len) := by show _ = _; simp only [TmL.len] at hl; omega
      have htN : t.sz ≤ N ∧ l.sz ≤ N := by simp [TmL.sz] at hlN; omega
      have hs : Same B w wr := hB.same hrw.bel
      have HO := HCH.out.at htN.1 (t.V_same hs (fun _ h => h) v1 ht) (hB.later hrw.bel) hok.head.1
      have HO : Hid _ := HO
      have e0 : wr.cell? ⟨g1, o1 + k, none⟩ = some v1 := by rw [hs.cell (p := ⟨g1, o1 + k, none⟩) hg1]; exact hc
      have HN : Hid (l.V w B (some ⟨g1, o1, none⟩) (k + 1) ∧ l.Ok) := ⟨hl', hok.head.2⟩
      clear hl hlN hc ht hl' hok hs hrw hpre
      have HS : Hid (∀ w1, Below wr.heap.size wr w1 → (∃ u, w1.cell? ⟨w.heap.size, k, none⟩ = some u) ∧ w1.frozen? ⟨w.heap.size, k, none⟩ = false) := fun w1 h => (HR.out.1.call h).own k hk1
      have hi0 : (0 : Int) ≤ (k : Int) := Int.natCast_nonneg _
      have hi1 : (k : Int) < (L.len : Int) := by omega
      go_wp2_with fail
      refine (HO.out _ (Below.refl _ _)).mono ?_
      rintro e w1 ⟨v, rfl, hb1, hv, hsh⟩
      have hb1' : Below wr.heap.size wr w1 := hb1
      obtain ⟨⟨u, hu⟩, hf⟩ := HS.out w1 hb1'
      have HV : Hid (t.V w1 (Fr wr w1) v) := hv
      have HB1 : Hid (Below wr.heap.size wr w1) := hb1'
      have HNew : Hid (RW 20 w (w1.setCell ⟨w.heap.size, k, none⟩ v) (w.heap.size) L.len (xs ++ [v]) ∧ VPre (w1.setCell ⟨w.heap.size, k, none⟩ v) (Own w.heap.size (w1.setCell ⟨w.heap.size, k, none⟩ v) (w.heap.size)) L (xs ++ [v]) l) := by
        have h1 := (HR.out.1.call HB1.out).set [v] (by simp; omega)
        rw [hxs] at h1
        exact ⟨h1, VPre.step (o := k) HR.out.2.1 HB1.out HV.out HR.out.1.lt [v]⟩
      clear hb1 hb1' hv
      rcases hsh with rfl | ⟨T, x, rfl⟩
      all_goals
        go_wp2_with fail
        go_roundw
        case rel => exact ⟨k + 1, l, _, by go_num, HL.out, htN.2, by simp [hxs], HNew.out.1, HNew.out.2, HN.out.1, HN.out.2⟩
        case measure => simp [intOf]; omega
end Go.Proofs.Ytadcbhdhgobknaa

/- value.dictOf and value.valueOf, whole. -/
namespace Go.Proofs.Ytadcbhdhgobknaa
open Go.RowKit

theorem Try.infoFd : (Try.prog.info? 123).map (fun i => (i.zero, i.size, i.bytes)) = some (some (.agg #[.string ByteArray.empty, .nilIface]), 2, 32) := by kernel_rfl

section
variable (b : Bool) (i : Int) (f : Nat) (tx : ByteArray) (vb : Value) (rf : Int) (vl vf : Value) (c : ByteArray) (vr : Int) (w : World)
end
end Go.Proofs.Ytadcbhdhgobknaa

/- The leaves of package value's order: numbers, texts, bools, floats, bytes. -/
namespace Go.Proofs.Ytadcbhdhgobknaa
open Go.RowKit

theorem less_of (a b : ByteArray) : Op.bytesLess a.toList b.toList = decide (Sp.cmpS a b = -1) := by
  rw [ByteArray.toList_eq, ByteArray.toList_eq]; exact bytesLess_cmp _ _
theorem same_of (a b : ByteArray) : (a.toList == b.toList) = decide (Sp.cmpS a b = 0) := by
  rw [ByteArray.toList_eq, ByteArray.toList_eq, Bool.eq_iff_iff]
  simp [Sp.cmpS, cmp_eq_zero]

theorem xor_max (f : Nat) (hf : f < 18446744073709551616) : 18446744073709551615 ^^^ f = 18446744073709551615 - f := by
  have h := congrArg BitVec.toNat (BitVec.allOnes_xor (x := BitVec.ofNat 64 f))
  rw [BitVec.toNat_xor, BitVec.toNat_not, BitVec.toNat_allOnes, BitVec.toNat_ofNat, Nat.mod_eq_of_lt (by simpa using hf)] at h
  simpa using h
theorem fr_xor (f : Nat) (hf : f < 18446744073709551616) : bits BinOp.xor IntKind.u64 IntKind.u64.max (f : Int) = 18446744073709551615 - (f : Int) := by
  have h := bits_xor_u64_nat 18446744073709551615 f (by decide) hf
  have h' : bits BinOp.xor IntKind.u64 IntKind.u64.max (f : Int) = ((18446744073709551615 ^^^ f : Nat) : Int) := h
  rw [h', xor_max f hf]
  omega
theorem bits_run (f : Nat) (w : World) : (callFunc 49 #[.float .f64 f]).run Try.prog w = .ok (.value (.int .u64 f)) w := by
  rw [run_callFunc_extern Try.func49 (by kernel_rfl) (by kernel_rfl) (by kernel_rfl) (e := Extern.MathFloatBits.float64bits) (by kernel_rfl)]
  rfl

end Go.Proofs.Ytadcbhdhgobknaa

/- Package value's order of two values is the plain order of their terms. -/
namespace Go.Proofs.Ytadcbhdhgobknaa
open Go.RowKit

def OrderC (N : Nat) : Prop := ∀ (s t : Tm), s.sz ≤ N → ∀ (va vb : Value) (S : Nat → Prop) (w : World), s.V w S va → t.V w S vb → s.Ok → t.Ok →
  Calls Try.prog 47 #[va, vb] w fun e w' => e = .returned (.int .i64 (s.cmp t)) ∧ ∃ m, w' = w.drewN m

end Go.Proofs.Ytadcbhdhgobknaa

/- Package value's order of dicts and records is the plain order of their terms' fields. -/
namespace Go.Proofs.Ytadcbhdhgobknaa
open Go.RowKit

end Go.Proofs.Ytadcbhdhgobknaa

/- value.Check at a term's value: what the plain walk through the term says. -/
namespace Go.Proofs.Ytadcbhdhgobknaa
open Go.RowKit

/-- the walk of a whole term -/
def Tm.all (t : Tm) : Wr := t.wk 1 0 0
/-- the number of the first part that is wrong (0: none is), how many parts it has, how deep the deepest lies (0: it can't be) -/
def Tm.cAt (t : Tm) : Int := if t.all.e ≠ 0 then t.all.p - 1 else 0
def Tm.szN (t : Tm) : Int := if t.all.e ≠ 0 then 0 else t.all.p
def Tm.szD (t : Tm) : Int := if t.all.e ≠ 0 then 0 else t.all.d
/-- a term's kind as the document counts it -/
def Tm.kindK (t : Tm) : Int := if t.kind < 1 ∨ 11 < t.kind then 0 else t.kind
theorem Wk_new (w : World) : Wk (w.alloc (.cells #[.int .i64 0, .int .i64 0] 76)) w.heap.size 0 0 := by
  refine ⟨?_, ?_, ?_, ?_⟩ <;> simp

theorem walk_all (t : Tm) (v : Value) (B : Nat) (w : World) (hB : B ≤ w.heap.size) (h : t.V w (Lo B) v) :
    ∀ W, Below w.heap.size w W → Wk W w.heap.size 0 0 → Calls Try.prog 67 #[.pointer (some ⟨w.heap.size, 0, none⟩), v, .int .i64 1] W fun e w' => e = .returned (.int .i64 t.all.e) ∧ Wk w' w.heap.size t.all.p t.all.d ∧ Below w.heap.size W w' :=
  fun W hW hk => value_any t.sz t (Nat.le_refl _) w.heap.size v 0 0 1 W hk (t.V_same (Same.of_below hW hB) (Lo.le hB) v h) (by decide) (by decide) (by decide) (by decide)

set_option maxRecDepth 100000 in
set_option maxHeartbeats 400000 in
theorem Check_any (t : Tm) (v : Value) (B : Nat) (w : World) (hB : B ≤ w.heap.size) (h : t.V w (Lo B) v) :
    Calls Try.prog 39 #[v] w fun e w' => e = .returned (.tuple #[.int .i64 t.cAt, .int .i64 t.all.e]) ∧ Below w.heap.size w w' := by
  have HC := fun W a b => walk_all t v B w hB h W a b
  have HC : Hid _ := HC
  have hbd := t.wk_bd 1 0 0 (by decide) (by decide)
  by_cases he : t.all.e ≠ 0
  · have he' := ne_bool he
    have H : Hid (t.cAt = t.all.p - 1) := by show _ = _; unfold Tm.cAt; rw [if_pos he]
    have hp : 0 ≤ t.all.p ∧ t.all.p ≤ 16385 := ⟨hbd.1, hbd.2.1⟩
    clear h hbd he
    go_enter Try.func39, Try.ntmps39
    go_wp2_with (go_at_call 67; refine (HC.out _ ((Below.refl _ _).alloc (Nat.le_refl _) _) (Wk_new w)).mono ?_; rintro e w1 ⟨rfl, hk1, hb1⟩; obtain ⟨c0, c1, f0, f1⟩ := hk1)
    go_ret2
    rw [H.out]
    exact ⟨rfl, ((Below.refl _ _).alloc (Nat.le_refl _) _).trans hb1⟩
  · have he0 : t.all.e = 0 := Decidable.not_not.1 he
    have H : Hid (t.cAt = 0) := by show _ = _; unfold Tm.cAt; rw [if_neg he]
    clear h hbd he
    go_enter Try.func39, Try.ntmps39
    go_wp2_with (go_at_call 67; refine (HC.out _ ((Below.refl _ _).alloc (Nat.le_refl _) _) (Wk_new w)).mono ?_; rintro e w1 ⟨rfl, hk1, hb1⟩)
    go_ret2
    rw [H.out, he0]
    exact ⟨rfl, ((Below.refl _ _).alloc (Nat.le_refl _) _).trans hb1⟩

end Go.Proofs.Ytadcbhdhgobknaa

/- Package value's order of any two values that can be is the plain order of their terms. -/
namespace Go.Proofs.Ytadcbhdhgobknaa
open Go.RowKit

end Go.Proofs.Ytadcbhdhgobknaa

/- value.termOf and value.entriesOf: the term of a value that can be, in new memory. -/
namespace Go.Proofs.Ytadcbhdhgobknaa
open Go.RowKit

mutual
/-- a term without what plays no part -/
def Tm.clean : Tm → Tm
  | .mk k b i f tx by' rf l fs c v => .mk k (if k = 2 then b else false) (if k = 3 then i else 0) (if k = 4 then f else 0) (if k = 5 then tx else ByteArray.empty) (if k = 6 then by' else ByteArray.empty) (if k = 7 then rf else 0) (if k = 8 then l.clean else .nil) (if k = 9 ∨ k = 10 then fs.clean else .nil) (if k = 10 then c else ByteArray.empty) (if k = 10 then v else 0)
def TmL.clean : TmL → TmL
  | .nil => .nil
  | .cons t l => .cons t.clean l.clean
def TmF.clean : TmF → TmF
  | .nil => .nil
  | .cons n t l => .cons n t.clean l.clean
end
mutual
/-- numbers are in their bounds -/
def Tm.Bdd : Tm → Prop
  | .mk _ _ i f _ _ rf l fs _ v => (-9223372036854775808 ≤ i ∧ i ≤ 9223372036854775807) ∧ f < 18446744073709551616 ∧ (0 ≤ rf ∧ rf ≤ 18446744073709551615) ∧ (-9223372036854775808 ≤ v ∧ v ≤ 9223372036854775807) ∧ l.Bdd ∧ fs.Bdd
def TmL.Bdd : TmL → Prop
  | .nil => True
  | .cons t l => t.Bdd ∧ l.Bdd
def TmF.Bdd : TmF → Prop
  | .nil => True
  | .cons _ t l => t.Bdd ∧ l.Bdd
end
mutual
theorem Tm.In_bdd {w : World} {B : Nat → Prop} : (t : Tm) → ∀ cs, t.In w B cs → t.Bdd
  | .mk k b i f tx by' rf l fs c v, cs, h => by
    simp only [Tm.In] at h
    obtain ⟨ab, cb, al, cl, af, cf, rfl, hbd, hby, hl, hfs⟩ := h
    simp only [Tm.Bdd]
    exact ⟨⟨hbd.i0, hbd.i1⟩, hbd.f1, ⟨hbd.r0, hbd.r1⟩, ⟨hbd.v0, hbd.v1⟩, TmL.In_bdd l _ _ hl, TmF.In_bdd fs _ _ hfs⟩
theorem TmL.In_bdd {w : World} {B : Nat → Prop} : (l : TmL) → ∀ a j, l.In w B a j → l.Bdd
  | .nil, _, _, _ => trivial
  | .cons t l, a, j, h => by
    simp only [TmL.In] at h
    obtain ⟨_, _, _, _, _, _, ht, hl⟩ := h
    exact ⟨Tm.In_bdd t _ ht, TmL.In_bdd l _ _ hl⟩
theorem TmF.In_bdd {w : World} {B : Nat → Prop} : (l : TmF) → ∀ a j, l.In w B a j → l.Bdd
  | .nil, _, _, _ => trivial
  | .cons n t l, a, j, h => by
    simp only [TmF.In] at h
    obtain ⟨_, _, _, _, _, _, _, _, ht, hl⟩ := h
    exact ⟨Tm.In_bdd t _ ht, TmF.In_bdd l _ _ hl⟩
end
theorem TmL.clean_len : (l : TmL) → l.clean.len = l.len
  | .nil => rfl
  | .cons t l => by simp only [TmL.clean, TmL.len, TmL.clean_len l]
theorem TmF.clean_len : (l : TmF) → l.clean.len = l.len
  | .nil => rfl
  | .cons n t l => by simp only [TmF.clean, TmF.len, TmF.clean_len l]

def TOfC (N : Nat) : Prop := ∀ (t : Tm), t.sz ≤ N → ∀ (v : Value) (B : Nat → Prop) (w : World), t.V w B v → Sub B w → t.Ok → t.Bdd →
  Calls Try.prog 40 #[v] w fun e w' => ∃ cs, e = .returned (.agg cs) ∧ Below w.heap.size w w' ∧ t.clean.In w' (FrS w w') cs
theorem TOfC.at {N : Nat} (HC : TOfC N) {t : Tm} (hN : t.sz ≤ N) {v : Value} {B : Nat → Prop} {w : World} (h : t.V w B v) (hB : Sub B w) (ho : t.Ok) (hb : t.Bdd) :
    ∀ W, Below w.heap.size w W → Calls Try.prog 40 #[v] W fun e w' => ∃ k b i f tx ab nb cb rf al nl cl af nf cf c vr, e = .returned (.agg (tcells k b i f tx (.slice ab nb cb) rf (.slice al nl cl) (.slice af nf cf) c vr)) ∧ Below W.heap.size W w' ∧ t.clean.In w' (FrS W w') (tcells k b i f tx (.slice ab nb cb) rf (.slice al nl cl) (.slice af nf cf) c vr) := by
  intro W hW
  refine (HC t hN v B W (t.V_same (hB.same hW) (fun _ h => h) v h) (hB.later hW) ho hb).mono ?_
  rintro e w' ⟨cs, rfl, hb, hv⟩
  obtain ⟨k1, b1, i1, f1, tx1, ab1, nb1, cb1, rf1, al1, nl1, cl1, af1, nf1, cf1, cc1, vr1, rfl⟩ := Tm.In_tc' hv
  exact ⟨k1, b1, i1, f1, tx1, ab1, nb1, cb1, rf1, al1, nl1, cl1, af1, nf1, cf1, cc1, vr1, rfl, hb, hv⟩
end Go.Proofs.Ytadcbhdhgobknaa

