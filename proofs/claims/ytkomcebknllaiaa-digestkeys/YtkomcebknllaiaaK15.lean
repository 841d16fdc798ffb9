/- value.valueOf and value.dictOf: the value of a term that can be, in new memory. -/
import Derived.Test.YtkomcebknllaiaaK14
import Derived.Deep.RegionHeld3
import Derived.Test.YtkomcebknllaiaaK11
import Derived.Test.YtkomcebknllaiaaK13
namespace Go.Proofs.Ytkomcebknllaiaa
open Go.RowKit

@[go_sem] theorem run_store_fl (P : Program) (w : World) (a : Addr) (m : Mode) (k : FloatKind) (n : Nat) : (store a (.float k n) m).run P w = stored P w a (.float k n) m := run_store P w a _ m rfl

theorem Tm.Ok.bounds {k : Int} {b : Bool} {i : Int} {f : Nat} {tx : ByteArray} {by' : ByteArray} {rf : Int} {l : TmL} {fs : TmF} {c : ByteArray} {v : Int} (h : Tm.Ok (.mk k b i f tx by' rf l fs c v)) :
    (k = 5 → tx.size ≤ 65536) ∧ (k = 6 → by'.size ≤ 65536) ∧ (k = 8 → l.len ≤ 4096) ∧ (k = 9 ∨ k = 10 → Sp.fieldsR fs.names = 0) ∧ (k = 10 → Sp.headR c v = 0) := by
  obtain ⟨n, p, d, h⟩ := h
  have ho : (Tm.mk k b i f tx by' rf l fs c v).own p n = 0 := by
    by_cases e : (Tm.mk k b i f tx by' rf l fs c v).own p n ≠ 0
    · rw [Tm.wk, if_pos e] at h; exact absurd h e
    · exact Decidable.not_not.1 e
  have he : Sp.ent k p n = 0 := Tm.own_ent _ _ _ ho
  simp only [Tm.own, he, ne_eq, not_true_eq_false, if_false] at ho
  refine ⟨fun e => ?_, fun e => ?_, fun e => ?_, fun e => ?_, fun e => ?_⟩
  · subst e; simp [Sp.len] at ho; omega
  · subst e; simp [Sp.len] at ho; omega
  · subst e; simp [Sp.len] at ho; omega
  · rcases e with rfl | rfl
    · simpa using ho
    · by_cases hh : Sp.headR c v = 0
      · simpa [hh] using ho
      · simp [hh] at ho
  · subst e
    by_cases hh : Sp.headR c v = 0
    · exact hh
    · simp [hh] at ho
theorem named_len : ∀ (l : List ByteArray) (a : ByteArray), Sp.named a l = true → ∀ n ∈ l, n.size ≤ 32
  | [], _, _, n, hn => by simp at hn
  | m :: l, a, h, n, hn => by
    simp only [Sp.named, Bool.and_eq_true] at h
    simp only [List.mem_cons] at hn
    rcases hn with rfl | hn
    · have := h.1.1; simp [Sp.isNm] at this; omega
    · exact named_len l m h.2 n hn
/-- names are short -/
def TmF.Nm (l : TmF) : Prop := ∀ n ∈ l.names, n.size ≤ 32
theorem TmF.nm {l : TmF} (h : Sp.fieldsR l.names = 0) : l.len ≤ 4096 ∧ l.Nm := by
  unfold Sp.fieldsR at h
  split at h
  · omega
  · rename_i h1
    rw [TmF.names_len] at h1
    split at h
    · rename_i h2; exact ⟨by omega, named_len _ _ h2⟩
    · omega
theorem TmF.Nm.head {n : ByteArray} {t : Tm} {l : TmF} (h : TmF.Nm (.cons n t l)) : n.size ≤ 32 ∧ l.Nm := ⟨h n (by simp [TmF.names]), fun m hm => h m (by simp [TmF.names, hm])⟩
theorem head_len {c : ByteArray} {v : Int} (h : Sp.headR c v = 0) : c.size ≤ 32 := by
  unfold Sp.headR at h
  split at h
  · omega
  · rename_i h1
    have : Sp.isNm c = true := by simpa using h1
    simp [Sp.isNm] at this; omega

def VOfC (N : Nat) : Prop := ∀ (t : Tm), t.sz ≤ N → ∀ (cs : Array Value) (B : Nat → Prop) (w : World), t.In w B cs → Sub B w → t.Ok →
  Calls Try.prog 37 #[.agg cs] w fun e w' => ∃ v, e = .returned v ∧ Below w.heap.size w w' ∧ t.V w' (Fr w w') v
theorem VOfC.at {N : Nat} (HC : VOfC N) {t : Tm} (hN : t.sz ≤ N) {cs : Array Value} {B : Nat → Prop} {w : World} (h : t.In w B cs) (hB : Sub B w) (ho : t.Ok) :
    ∀ W, Below w.heap.size w W → Calls Try.prog 37 #[.agg cs] W fun e w' => ∃ v, e = .returned v ∧ Below W.heap.size W w' ∧ t.V w' (Fr W w') v ∧ (v = .nilIface ∨ ∃ T x, v = .iface T x) := by
  intro W hW
  refine (HC t hN cs B W (t.In_same (hB.same hW) (fun _ h => h) cs h) (hB.later hW) ho).mono ?_
  rintro e w' ⟨v, rfl, hb, hv⟩
  exact ⟨v, rfl, hb, hv, t.V_shape v hv⟩

theorem Tm.In_tc' {w : World} {B : Nat → Prop} {t : Tm} {cs : Array Value} (h : t.In w B cs) : ∃ k b i f tx ab nb cb rf al nl cl af nf cf c vr, cs = tcells k b i f tx (.slice ab nb cb) rf (.slice al nl cl) (.slice af nf cf) c vr := by
  cases t; simp only [Tm.In] at h; obtain ⟨_, _, _, _, _, _, rfl, _⟩ := h; exact ⟨_, _, _, _, _, _, _, _, _, _, _, _, _, _, _, _, _, rfl⟩

set_option maxRecDepth 100000 in
set_option maxHeartbeats 2000000 in
theorem vof_8 (N : Nat) (HC : VOfC N) (b : Bool) (i : Int) (f : Nat) (tx : ByteArray) (vb : Value) (rf : Int) (al : Option Addr) (L : TmL) (cl : Nat) (vf : Value) (c : ByteArray) (vr : Int) (w : World) (hN : L.sz ≤ N) (B : Nat → Prop) (hB : Sub B w) (hL : L.In w B al 0) (hlen : L.len ≤ 4096) (ho : L.Ok) :
    Calls Try.prog 37 #[.agg (tcells 8 b i f tx vb rf (.slice al L.len cl) vf c vr)] w fun e w' => ∃ a cap, e = .returned (.iface 71 (.slice a L.len cap)) ∧ Below w.heap.size w w' ∧ L.LV w' (Fr w w') a cap := by
  unfold tcells
  obtain ⟨i0, hi, hz0, hz1, hz2⟩ := info_parts Try.infoI
  have HCH : Hid (VOfC N) := HC
  clear HC
  obtain ⟨M, hM⟩ : ∃ M, M = madeCells (Value.nilIface).cells (((L.len : Nat) : Int).toNat * i0.size) := ⟨_, rfl⟩
  have hMs : M.size = L.len := by rw [hM, size_madeCells, hz1]; simp
  have hmake : ∀ W : World, (Instr.makeSlice 71 (.int .i64 (L.len : Int)) (.int .i64 (L.len : Int))).run Try.prog W = .ok (.slice (some ⟨W.heap.size, 0, none⟩) L.len L.len) (W.alloc (.cells M 20)) := fun W => by
    have h := run_make (P := Try.prog) W 71 20 i0 .nilIface Try.undL hi hz0 .i64 .i64 (L.len : Int) (L.len : Int) (by omega) (by omega) (by rw [hz2]; omega) (by omega)
    rw [← hM] at h; simpa using h
  clear hM hi hz0 hz1 hz2
  have H0 : Hid (∀ o, RW 20 w ((w.alloc o).alloc (.cells M 20)) (w.heap.size + 1) L.len [] ∧ VPre ((w.alloc o).alloc (.cells M 20)) (Own w.heap.size ((w.alloc o).alloc (.cells M 20)) (w.heap.size + 1)) L [] L ∧ L.In w B al 0 ∧ L.Ok) := fun o => by
    have h := RW.made (w := w) (w0 := w.alloc o) ((Below.refl _ _).alloc (Nat.le_refl _) _) M 20
    rw [hMs] at h
    exact ⟨by simpa using h, (VPre_nil _ _).2 rfl, hL, ho⟩
  clear hL ho
  go_enter Try.func37, Try.ntmps37
  go_wp2_with fail
  go_loopw [49] (fun x wr => ∃ (k : Nat) (l : TmL) (xs : List Value), x = .int .i64 k ∧ l.len + k = L.len ∧ l.sz ≤ N ∧ xs.length = k ∧ Hid (RW 20 w wr (w.heap.size + 1) L.len xs ∧ VPre wr (Own w.heap.size wr (w.heap.size + 1)) L xs l ∧ l.In w B al k ∧ l.Ok)) (fun x _ => L.len - (intOf x).toNat)
  case atStart => exact ⟨0, L, [], rfl, rfl, hN, rfl, H0.out _⟩
  case round =>
    obtain ⟨k, l, xs, rfl, hl, hlN, hxs, HR⟩ := hrel
    cases l with
    | nil =>
      have h1 : L.len ≤ k := by simp [TmL.len] at hl; omega
      clear hl
      go_wp2_with fail
      go_ret
      exact ⟨_, _, rfl, HR.out.1.bel, HR.out.2.1.fin HR.out.1 (by unfold maxLen; omega)⟩
    | cons t l =>
      obtain ⟨hrw, hpre, hsrc, hok⟩ := HR.out
      simp only [TmL.In] at hsrc
      obtain ⟨g1, o1, cs, rfl, hg1, hc, ht, hl'⟩ := hsrc
      have hk1 : k < L.len := by simp only [TmL.len] at hl; omega
      have HL : Hid (l.len + (k + 1) = L.len) := by show _ = _; simp only [TmL.len] at hl; omega
      have htN : t.sz ≤ N ∧ l.sz ≤ N := by simp [TmL.sz] at hlN; omega
      have hs : Same B w wr := hB.same hrw.bel
      have HO := HCH.out.at htN.1 (t.In_same hs (fun _ h => h) cs ht) (hB.later hrw.bel) hok.head.1
      have HO : Hid _ := HO
      obtain ⟨k1, b1, i1, f1, tx1, ab1, nb1, cb1, rf1, al1, nl1, cl1, af1, nf1, cf1, cc1, vr1, rfl⟩ := Tm.In_tc' ht
      obtain ⟨e0, e1, e2, e3, e4, e5, e6, e7, e8, e9, e10⟩ := eleven (w := wr) (g := g1) (o := o1 + k * 11) (fun x hx => by rw [hs.cell (p := ⟨g1, o1 + k * 11 + x, none⟩) hg1]; exact hc x hx)
      have HN : Hid (l.In w B (some ⟨g1, o1, none⟩) (k + 1) ∧ l.Ok) := ⟨hl', hok.head.2⟩
      unfold tcells at HO
      clear hl hlN hc ht hl' hok hs hrw hpre
      have HS : Hid (∀ w1, Below wr.heap.size wr w1 → (∃ u, w1.cell? ⟨w.heap.size + 1, k, none⟩ = some u) ∧ w1.frozen? ⟨w.heap.size + 1, k, none⟩ = false) := fun w1 h => (HR.out.1.call h).own k hk1
      have hi0 : (0 : Int) ≤ (k : Int) := Int.natCast_nonneg _
      have hi1 : (k : Int) < (L.len : Int) := by omega
      go_wp2_with fail
      refine (HO.out _ ((Below.refl _ _).alloc (Nat.le_refl _) _)).mono ?_
      rintro e w1 ⟨v, rfl, hb1, hv, hsh⟩
      have hb1' : Below wr.heap.size wr w1 := ((Below.refl _ _).alloc (Nat.le_refl _) _).trans (hb1.mono (by simp))
      obtain ⟨⟨u, hu⟩, hf⟩ := HS.out w1 hb1'
      have HV : Hid (t.V w1 (Fr wr w1) v) := t.V_same (Same.refl _ _) (fun k hk => ⟨by have := hk.1; simp at this; omega, hk.2⟩) v hv
      have HB1 : Hid (Below wr.heap.size wr w1) := hb1'
      have HNew : Hid (RW 20 w (w1.setCell ⟨w.heap.size + 1, k, none⟩ v) (w.heap.size + 1) L.len (xs ++ [v]) ∧ VPre (w1.setCell ⟨w.heap.size + 1, k, none⟩ v) (Own w.heap.size (w1.setCell ⟨w.heap.size + 1, k, none⟩ v) (w.heap.size + 1)) L (xs ++ [v]) l) := by
        have h1 := (HR.out.1.call HB1.out).set [v] (by simp; omega)
        rw [hxs] at h1
        exact ⟨h1, VPre.step (o := k) HR.out.2.1 HB1.out HV.out HR.out.1.lt [v]⟩
      clear hb1 hb1' hv
      rcases hsh with rfl | ⟨T, x, rfl⟩
      all_goals
        go_wp2_with fail
        go_roundw
        case rel => exact ⟨k + 1, l, _, by go_num, HL.out, htN.2, by simp [hxs], HNew.out.1, HNew.out.2, HN.out.1, HN.out.2⟩
        case measure => simp [intOf]; omega
end Go.Proofs.Ytkomcebknllaiaa

/- value.termOf and value.entriesOf: the term of a value that can be, in new memory. -/
namespace Go.Proofs.Ytkomcebknllaiaa
open Go.RowKit

mutual
/-- a term without what plays no part -/
def Tm.clean : Tm → Tm
  | .mk k b i f tx by' rf l fs c v => .mk k (if k = 2 then b else false) (if k = 3 then i else 0) (if k = 4 then f else 0) (if k = 5 then tx else ByteArray.empty) (if k = 6 then by' else ByteArray.empty) (if k = 7 then rf else 0) (if k = 8 then l.clean else .nil) (if k = 9 ∨ k = 10 then fs.clean else .nil) (if k = 10 then c else ByteArray.empty) (if k = 10 then v else 0)
def TmL.clean : TmL → TmL
  | .nil => .nil
  | .cons t l => .cons t.clean l.clean
def TmF.clean : TmF → TmF
  | .nil => .nil
  | .cons n t l => .cons n t.clean l.clean
end
mutual
/-- numbers are in their bounds -/
def Tm.Bdd : Tm → Prop
  | .mk _ _ i f _ _ rf l fs _ v => (-9223372036854775808 ≤ i ∧ i ≤ 9223372036854775807) ∧ f < 18446744073709551616 ∧ (0 ≤ rf ∧ rf ≤ 18446744073709551615) ∧ (-9223372036854775808 ≤ v ∧ v ≤ 9223372036854775807) ∧ l.Bdd ∧ fs.Bdd
def TmL.Bdd : TmL → Prop
  | .nil => True
  | .cons t l => t.Bdd ∧ l.Bdd
def TmF.Bdd : TmF → Prop
  | .nil => True
  | .cons _ t l => t.Bdd ∧ l.Bdd
end
mutual
theorem Tm.In_bdd {w : World} {B : Nat → Prop} : (t : Tm) → ∀ cs, t.In w B cs → t.Bdd
  | .mk k b i f tx by' rf l fs c v, cs, h => by
    simp only [Tm.In] at h
    obtain ⟨ab, cb, al, cl, af, cf, rfl, hbd, hby, hl, hfs⟩ := h
    simp only [Tm.Bdd]
    exact ⟨⟨hbd.i0, hbd.i1⟩, hbd.f1, ⟨hbd.r0, hbd.r1⟩, ⟨hbd.v0, hbd.v1⟩, TmL.In_bdd l _ _ hl, TmF.In_bdd fs _ _ hfs⟩
theorem TmL.In_bdd {w : World} {B : Nat → Prop} : (l : TmL) → ∀ a j, l.In w B a j → l.Bdd
  | .nil, _, _, _ => trivial
  | .cons t l, a, j, h => by
    simp only [TmL.In] at h
    obtain ⟨_, _, _, _, _, _, ht, hl⟩ := h
    exact ⟨Tm.In_bdd t _ ht, TmL.In_bdd l _ _ hl⟩
theorem TmF.In_bdd {w : World} {B : Nat → Prop} : (l : TmF) → ∀ a j, l.In w B a j → l.Bdd
  | .nil, _, _, _ => trivial
  | .cons n t l, a, j, h => by
    simp only [TmF.In] at h
    obtain ⟨_, _, _, _, _, _, _, _, ht, hl⟩ := h
    exact ⟨Tm.In_bdd t _ ht, TmF.In_bdd l _ _ hl⟩
end
theorem TmL.clean_len : (l : TmL) → l.clean.len = l.len
  | .nil => rfl
  | .cons t l => by simp only [TmL.clean, TmL.len, TmL.clean_len l]
theorem TmF.clean_len : (l : TmF) → l.clean.len = l.len
  | .nil => rfl
  | .cons n t l => by simp only [TmF.clean, TmF.len, TmF.clean_len l]

def TOfC (N : Nat) : Prop := ∀ (t : Tm), t.sz ≤ N → ∀ (v : Value) (B : Nat → Prop) (w : World), t.V w B v → Sub B w → t.Ok → t.Bdd →
  Calls Try.prog 39 #[v] w fun e w' => ∃ cs, e = .returned (.agg cs) ∧ Below w.heap.size w w' ∧ t.clean.In w' (FrS w w') cs
theorem TOfC.at {N : Nat} (HC : TOfC N) {t : Tm} (hN : t.sz ≤ N) {v : Value} {B : Nat → Prop} {w : World} (h : t.V w B v) (hB : Sub B w) (ho : t.Ok) (hb : t.Bdd) :
    ∀ W, Below w.heap.size w W → Calls Try.prog 39 #[v] W fun e w' => ∃ k b i f tx ab nb cb rf al nl cl af nf cf c vr, e = .returned (.agg (tcells k b i f tx (.slice ab nb cb) rf (.slice al nl cl) (.slice af nf cf) c vr)) ∧ Below W.heap.size W w' ∧ t.clean.In w' (FrS W w') (tcells k b i f tx (.slice ab nb cb) rf (.slice al nl cl) (.slice af nf cf) c vr) := by
  intro W hW
  refine (HC t hN v B W (t.V_same (hB.same hW) (fun _ h => h) v h) (hB.later hW) ho hb).mono ?_
  rintro e w' ⟨cs, rfl, hb, hv⟩
  obtain ⟨k1, b1, i1, f1, tx1, ab1, nb1, cb1, rf1, al1, nl1, cl1, af1, nf1, cf1, cc1, vr1, rfl⟩ := Tm.In_tc' hv
  exact ⟨k1, b1, i1, f1, tx1, ab1, nb1, cb1, rf1, al1, nl1, cl1, af1, nf1, cf1, cc1, vr1, rfl, hb, hv⟩
end Go.Proofs.Ytkomcebknllaiaa

/- tenonmake.Same, Lists, Entries: two terms of one value are told to be the same. -/
namespace Go.Proofs.Ytkomcebknllaiaa
open Go.RowKit

mutual
/-- two terms of one value: the same in all that plays a part -/
def Tm.eqv : Tm → Tm → Prop
  | .mk k b i f tx by' rf l fs c v, .mk k2 b2 i2 f2 tx2 by2 rf2 l2 fs2 c2 v2 => k = k2 ∧ (1 ≤ k ∧ k ≤ 10) ∧ (k = 2 → b = b2) ∧ (k = 3 → i = i2) ∧ (k = 4 → f = f2) ∧ (k = 5 → tx = tx2) ∧ (k = 6 → by' = by2) ∧ (k = 7 → rf = rf2) ∧ (k = 8 → l.eqv l2) ∧ (k = 9 ∨ k = 10 → fs.eqv fs2) ∧ (k = 10 → c = c2 ∧ v = v2)
def TmL.eqv : TmL → TmL → Prop
  | .nil, .nil => True
  | .cons t l, .cons t2 l2 => t.eqv t2 ∧ l.eqv l2
  | _, _ => False
def TmF.eqv : TmF → TmF → Prop
  | .nil, .nil => True
  | .cons n t l, .cons n2 t2 l2 => n = n2 ∧ t.eqv t2 ∧ l.eqv l2
  | _, _ => False
end
theorem TmL.eqv_len : (a b : TmL) → a.eqv b → a.len = b.len
  | .nil, .nil, _ => rfl
  | .nil, .cons _ _, h => by simp [TmL.eqv] at h
  | .cons _ _, .nil, h => by simp [TmL.eqv] at h
  | .cons t l, .cons u r, h => by simp only [TmL.eqv] at h; simp only [TmL.len, TmL.eqv_len l r h.2]
theorem TmF.eqv_len : (a b : TmF) → a.eqv b → a.len = b.len
  | .nil, .nil, _ => rfl
  | .nil, .cons _ _ _, h => by simp [TmF.eqv] at h
  | .cons _ _ _, .nil, h => by simp [TmF.eqv] at h
  | .cons n t l, .cons m u r, h => by simp only [TmF.eqv] at h; simp only [TmF.len, TmF.eqv_len l r h.2.2]

def SmC (N : Nat) : Prop := ∀ (s t : Tm), s.sz ≤ N → s.eqv t → ∀ (cs ct : Array Value) (S : Nat → Prop) (w : World), s.In w S cs → t.In w S ct → Sub S w →
  Calls Try.prog 22 #[.agg cs, .agg ct] w fun e w' => e = .returned (.bool true) ∧ Below w.heap.size w w'
theorem SmC.at {N : Nat} (HC : SmC N) {s t : Tm} (hN : s.sz ≤ N) (he : s.eqv t) {cs ct : Array Value} {S : Nat → Prop} {w : World} (hs : s.In w S cs) (ht : t.In w S ct) (hS : Sub S w) :
    ∀ W, Below w.heap.size w W → Calls Try.prog 22 #[.agg cs, .agg ct] W fun e w' => e = .returned (.bool true) ∧ Below W.heap.size W w' :=
  fun W hW => HC s t hN he cs ct S W (s.In_same (hS.same hW) (fun _ h => h) cs hs) (t.In_same (hS.same hW) (fun _ h => h) ct ht) (hS.later hW)

set_option maxRecDepth 100000 in
set_option maxHeartbeats 2000000 in
theorem lists_any (N : Nat) (HC : SmC N) (A B : TmL) (hN : A.sz ≤ N) (hE : A.eqv B) (a b : Option Addr) (ca cb : Nat) (S : Nat → Prop) (w : World) (ha : A.In w S a 0) (hb : B.In w S b 0) (hS : Sub S w) (la : A.len * 152 ≤ 140737488355328) :
    Calls Try.prog 48 #[.slice a A.len ca, .slice b B.len cb] w fun e w' => e = .returned (.bool true) ∧ Below w.heap.size w w' := by
  have hlen := TmL.eqv_len A B hE
  rw [← hlen]
  clear hlen
  have HCH : Hid (SmC N) := HC
  have H0 : Hid (A.In w S a 0 ∧ B.In w S b 0 ∧ A.eqv B) := ⟨ha, hb, hE⟩
  clear HC ha hb hE
  go_enter Try.func48, Try.ntmps48
  go_wp2_with fail
  go_loopw [5] (fun x wr => ∃ (k : Nat) (l r : TmL), x = .int .i64 k ∧ l.len + k = A.len ∧ l.sz ≤ N ∧ Hid (l.In w S a k ∧ r.In w S b k ∧ l.eqv r) ∧ Hid (Below w.heap.size w wr)) (fun x _ => A.len - (intOf x).toNat)
  case atStart => exact ⟨0, A, B, rfl, rfl, hN, H0.out, Below.refl _ _⟩
  case round =>
    obtain ⟨k, l, r, rfl, hl, hlN, HI, HW⟩ := hrel
    clear H0
    cases l with
    | nil =>
      have h1 : A.len ≤ k := by simp [TmL.len] at hl; omega
      clear hl
      go_wp2_with fail
      go_ret
      exact ⟨rfl, HW.out⟩
    | cons t l =>
      cases r with
      | nil => exact absurd HI.out.2.2 (by simp [TmL.eqv])
      | cons u r =>
        obtain ⟨hv1, hv2, he⟩ := HI.out
        simp only [TmL.eqv] at he
        simp only [TmL.In] at hv1 hv2
        obtain ⟨g1, o1, cs1, rfl, hg1, c1, ht, hl'⟩ := hv1
        obtain ⟨g2, o2, cs2, rfl, hg2, c2, hu, hr'⟩ := hv2
        have hk1 : k < A.len := by simp only [TmL.len] at hl; omega
        have hi0 : (0 : Int) ≤ (k : Int) := Int.natCast_nonneg _
        have hi1 : (k : Int) < (A.len : Int) := by omega
        have HL : Hid (l.len + (k + 1) = A.len) := by show _ = _; simp only [TmL.len] at hl; omega
        have htN : t.sz ≤ N ∧ l.sz ≤ N := by simp [TmL.sz] at hlN; omega
        have hs : Same S w wr := hS.same HW.out
        have HO : Hid (∀ W, Below wr.heap.size wr W → Calls Try.prog 22 #[.agg cs1, .agg cs2] W fun e w' => e = .returned (.bool true) ∧ Below W.heap.size W w') :=
          HCH.out.at htN.1 he.1 (t.In_same hs (fun _ h => h) cs1 ht) (u.In_same hs (fun _ h => h) cs2 hu) (hS.later HW.out)
        obtain ⟨k1, b1, i1, f1, tx1, vb1, rf1, vl1, vf1, cl1, vr1, rfl⟩ := Tm.In_tc ht
        obtain ⟨k2, b2, i2, f2, tx2, vb2, rf2, vl2, vf2, cl2, vr2, rfl⟩ := Tm.In_tc hu
        obtain ⟨e0, e1, e2, e3, e4, e5, e6, e7, e8, e9, e10⟩ := eleven (w := wr) (g := g1) (o := o1 + k * 11) (fun x hx => by rw [hs.cell (p := ⟨g1, o1 + k * 11 + x, none⟩) hg1]; exact c1 x hx)
        obtain ⟨d0, d1, d2, d3, d4, d5, d6, d7, d8, d9, d10⟩ := eleven (w := wr) (g := g2) (o := o2 + k * 11) (fun x hx => by rw [hs.cell (p := ⟨g2, o2 + k * 11 + x, none⟩) hg2]; exact c2 x hx)
        have HN : Hid (l.In w S (some ⟨g1, o1, none⟩) (k + 1) ∧ r.In w S (some ⟨g2, o2, none⟩) (k + 1) ∧ l.eqv r) := ⟨hl', hr', he.2⟩
        unfold tcells at HO
        clear hl hlN HI hl' hr' he ht hu hs c1 c2
        go_wp2_with fail
        go_region_with ((go_at_call 22; refine (HO.out _ ?_).mono ?_; exact (Below.refl _ _).drew; rintro e w4 ⟨rfl, hb4⟩; have HB4 : Hid (Below w.heap.size w w4) := HW.out.trans (((Below.refl _ _).drew.trans hb4).mono HW.out.size); clear hb4))
        all_goals
          go_wp2_with fail
          go_roundw
          case rel => exact ⟨k + 1, l, r, by go_num, HL.out, htN.2, HN.out, HB4.out⟩
          case measure => simp [intOf]; omega
end Go.Proofs.Ytkomcebknllaiaa

/- tenonmake.Entries. -/
namespace Go.Proofs.Ytkomcebknllaiaa
open Go.RowKit

set_option maxRecDepth 100000 in
set_option maxHeartbeats 2000000 in
theorem mentries_any (N : Nat) (HC : SmC N) (A B : TmF) (hN : A.sz ≤ N) (hE : A.eqv B) (a b : Option Addr) (ca cb : Nat) (S : Nat → Prop) (w : World) (ha : A.In w S a 0) (hb : B.In w S b 0) (hS : Sub S w) (la : A.len * 168 ≤ 140737488355328) :
    Calls Try.prog 49 #[.slice a A.len ca, .slice b B.len cb] w fun e w' => e = .returned (.bool true) ∧ Below w.heap.size w w' := by
  have hlen := TmF.eqv_len A B hE
  rw [← hlen]
  clear hlen
  have HCH : Hid (SmC N) := HC
  have H0 : Hid (A.In w S a 0 ∧ B.In w S b 0 ∧ A.eqv B) := ⟨ha, hb, hE⟩
  clear HC ha hb hE
  go_enter Try.func49, Try.ntmps49
  go_wp2_with fail
  go_loopw [5] (fun x wr => ∃ (k : Nat) (l r : TmF), x = .int .i64 k ∧ l.len + k = A.len ∧ l.sz ≤ N ∧ Hid (l.In w S a k ∧ r.In w S b k ∧ l.eqv r) ∧ Hid (Below w.heap.size w wr)) (fun x _ => A.len - (intOf x).toNat)
  case atStart => exact ⟨0, A, B, rfl, rfl, hN, H0.out, Below.refl _ _⟩
  case round =>
    obtain ⟨k, l, r, rfl, hl, hlN, HI, HW⟩ := hrel
    clear H0
    cases l with
    | nil =>
      have h1 : A.len ≤ k := by simp [TmF.len] at hl; omega
      clear hl
      go_wp2_with fail
      go_ret
      exact ⟨rfl, HW.out⟩
    | cons n1 t l =>
      cases r with
      | nil => exact absurd HI.out.2.2 (by simp [TmF.eqv])
      | cons n2 u r =>
        obtain ⟨hv1, hv2, he⟩ := HI.out
        simp only [TmF.eqv] at he
        simp only [TmF.In] at hv1 hv2
        obtain ⟨g1, o1, cs1, rfl, hg1, a1, _, c1, ht, hl'⟩ := hv1
        obtain ⟨g2, o2, cs2, rfl, hg2, a2, _, c2, hu, hr'⟩ := hv2
        obtain ⟨rfl, he⟩ := he
        have hk1 : k < A.len := by simp only [TmF.len] at hl; omega
        have hi0 : (0 : Int) ≤ (k : Int) := Int.natCast_nonneg _
        have hi1 : (k : Int) < (A.len : Int) := by omega
        have HL : Hid (l.len + (k + 1) = A.len) := by show _ = _; simp only [TmF.len] at hl; omega
        have htN : t.sz ≤ N ∧ l.sz ≤ N := by simp [TmF.sz] at hlN; omega
        have hs : Same S w wr := hS.same HW.out
        have HO : Hid (∀ W, Below wr.heap.size wr W → Calls Try.prog 22 #[.agg cs1, .agg cs2] W fun e w' => e = .returned (.bool true) ∧ Below W.heap.size W w') :=
          HCH.out.at htN.1 he.1 (t.In_same hs (fun _ h => h) cs1 ht) (u.In_same hs (fun _ h => h) cs2 hu) (hS.later HW.out)
        obtain ⟨k1, b1, i1, f1, tx1, vb1, rf1, vl1, vf1, cl1, vr1, rfl⟩ := Tm.In_tc ht
        obtain ⟨k2, b2, i2, f2, tx2, vb2, rf2, vl2, vf2, cl2, vr2, rfl⟩ := Tm.In_tc hu
        obtain ⟨e0, e1, e2, e3, e4, e5, e6, e7, e8, e9, e10⟩ := eleven (w := wr) (g := g1) (o := o1 + k * 12 + 1) (fun x hx => by rw [hs.cell (p := ⟨g1, o1 + k * 12 + 1 + x, none⟩) hg1]; exact c1 x hx)
        obtain ⟨d0, d1, d2, d3, d4, d5, d6, d7, d8, d9, d10⟩ := eleven (w := wr) (g := g2) (o := o2 + k * 12 + 1) (fun x hx => by rw [hs.cell (p := ⟨g2, o2 + k * 12 + 1 + x, none⟩) hg2]; exact c2 x hx)
        have a1 : wr.cell? ⟨g1, o1 + k * 12, none⟩ = some (.string n1) := by rw [hs.cell (p := ⟨g1, o1 + k * 12, none⟩) hg1]; exact a1
        have a2 : wr.cell? ⟨g2, o2 + k * 12, none⟩ = some (.string n1) := by rw [hs.cell (p := ⟨g2, o2 + k * 12, none⟩) hg2]; exact a2
        have HN : Hid (l.In w S (some ⟨g1, o1, none⟩) (k + 1) ∧ r.In w S (some ⟨g2, o2, none⟩) (k + 1) ∧ l.eqv r) := ⟨hl', hr', he.2⟩
        unfold tcells at HO
        clear hl hlN HI hl' hr' he ht hu hs c1 c2
        have HX : Hid (∀ W, Below wr.heap.size wr W → W.cell? ⟨g1, o1 + k * 12, none⟩ = some (.string n1) ∧ W.cell? ⟨g2, o2 + k * 12, none⟩ = some (.string n1) ∧ W.cell? ⟨g1, o1 + k * 12 + 1, none⟩ = some (.int .i64 k1) ∧ W.cell? ⟨g1, o1 + k * 12 + 1 + 1, none⟩ = some (.bool b1) ∧ W.cell? ⟨g1, o1 + k * 12 + 1 + 2, none⟩ = some (.int .i64 i1) ∧ W.cell? ⟨g1, o1 + k * 12 + 1 + 3, none⟩ = some (.float .f64 f1) ∧ W.cell? ⟨g1, o1 + k * 12 + 1 + 4, none⟩ = some (.string tx1) ∧ W.cell? ⟨g1, o1 + k * 12 + 1 + 5, none⟩ = some (vb1) ∧ W.cell? ⟨g1, o1 + k * 12 + 1 + 6, none⟩ = some (.int .u64 rf1) ∧ W.cell? ⟨g1, o1 + k * 12 + 1 + 7, none⟩ = some (vl1) ∧ W.cell? ⟨g1, o1 + k * 12 + 1 + 8, none⟩ = some (vf1) ∧ W.cell? ⟨g1, o1 + k * 12 + 1 + 9, none⟩ = some (.string cl1) ∧ W.cell? ⟨g1, o1 + k * 12 + 1 + 10, none⟩ = some (.int .i64 vr1) ∧ W.cell? ⟨g2, o2 + k * 12 + 1, none⟩ = some (.int .i64 k2) ∧ W.cell? ⟨g2, o2 + k * 12 + 1 + 1, none⟩ = some (.bool b2) ∧ W.cell? ⟨g2, o2 + k * 12 + 1 + 2, none⟩ = some (.int .i64 i2) ∧ W.cell? ⟨g2, o2 + k * 12 + 1 + 3, none⟩ = some (.float .f64 f2) ∧ W.cell? ⟨g2, o2 + k * 12 + 1 + 4, none⟩ = some (.string tx2) ∧ W.cell? ⟨g2, o2 + k * 12 + 1 + 5, none⟩ = some (vb2) ∧ W.cell? ⟨g2, o2 + k * 12 + 1 + 6, none⟩ = some (.int .u64 rf2) ∧ W.cell? ⟨g2, o2 + k * 12 + 1 + 7, none⟩ = some (vl2) ∧ W.cell? ⟨g2, o2 + k * 12 + 1 + 8, none⟩ = some (vf2) ∧ W.cell? ⟨g2, o2 + k * 12 + 1 + 9, none⟩ = some (.string cl2) ∧ W.cell? ⟨g2, o2 + k * 12 + 1 + 10, none⟩ = some (.int .i64 vr2)) := fun W hW => by
          have h1 : ∀ j, W.cell? ⟨g1, j, none⟩ = wr.cell? ⟨g1, j, none⟩ := fun j => hW.cell (p := ⟨g1, j, none⟩) (hS.later HW.out _ hg1)
          have h2 : ∀ j, W.cell? ⟨g2, j, none⟩ = wr.cell? ⟨g2, j, none⟩ := fun j => hW.cell (p := ⟨g2, j, none⟩) (hS.later HW.out _ hg2)
          simp only [h1, h2]
          exact ⟨a1, a2, e0, e1, e2, e3, e4, e5, e6, e7, e8, e9, e10, d0, d1, d2, d3, d4, d5, d6, d7, d8, d9, d10⟩
        clear a1 a2 e0 e1 e2 e3 e4 e5 e6 e7 e8 e9 e10 d0 d1 d2 d3 d4 d5 d6 d7 d8 d9 d10
        go_wp2_with fail
        go_region_held3 (fun W => W.cell? ⟨g1, o1 + k * 12, none⟩ = some (.string n1) ∧ W.cell? ⟨g2, o2 + k * 12, none⟩ = some (.string n1) ∧ W.cell? ⟨g1, o1 + k * 12 + 1, none⟩ = some (.int .i64 k1) ∧ W.cell? ⟨g1, o1 + k * 12 + 1 + 1, none⟩ = some (.bool b1) ∧ W.cell? ⟨g1, o1 + k * 12 + 1 + 2, none⟩ = some (.int .i64 i1) ∧ W.cell? ⟨g1, o1 + k * 12 + 1 + 3, none⟩ = some (.float .f64 f1) ∧ W.cell? ⟨g1, o1 + k * 12 + 1 + 4, none⟩ = some (.string tx1) ∧ W.cell? ⟨g1, o1 + k * 12 + 1 + 5, none⟩ = some (vb1) ∧ W.cell? ⟨g1, o1 + k * 12 + 1 + 6, none⟩ = some (.int .u64 rf1) ∧ W.cell? ⟨g1, o1 + k * 12 + 1 + 7, none⟩ = some (vl1) ∧ W.cell? ⟨g1, o1 + k * 12 + 1 + 8, none⟩ = some (vf1) ∧ W.cell? ⟨g1, o1 + k * 12 + 1 + 9, none⟩ = some (.string cl1) ∧ W.cell? ⟨g1, o1 + k * 12 + 1 + 10, none⟩ = some (.int .i64 vr1) ∧ W.cell? ⟨g2, o2 + k * 12 + 1, none⟩ = some (.int .i64 k2) ∧ W.cell? ⟨g2, o2 + k * 12 + 1 + 1, none⟩ = some (.bool b2) ∧ W.cell? ⟨g2, o2 + k * 12 + 1 + 2, none⟩ = some (.int .i64 i2) ∧ W.cell? ⟨g2, o2 + k * 12 + 1 + 3, none⟩ = some (.float .f64 f2) ∧ W.cell? ⟨g2, o2 + k * 12 + 1 + 4, none⟩ = some (.string tx2) ∧ W.cell? ⟨g2, o2 + k * 12 + 1 + 5, none⟩ = some (vb2) ∧ W.cell? ⟨g2, o2 + k * 12 + 1 + 6, none⟩ = some (.int .u64 rf2) ∧ W.cell? ⟨g2, o2 + k * 12 + 1 + 7, none⟩ = some (vl2) ∧ W.cell? ⟨g2, o2 + k * 12 + 1 + 8, none⟩ = some (vf2) ∧ W.cell? ⟨g2, o2 + k * 12 + 1 + 9, none⟩ = some (.string cl2) ∧ W.cell? ⟨g2, o2 + k * 12 + 1 + 10, none⟩ = some (.int .i64 vr2))
          (first | with_reducible exact HX.out w4 HB4.out | with_reducible exact HX.out _ (Below.refl _ _) | with_reducible exact HX.out _ (Below.refl _ _).drew)
          ((first
            | (go_at_call 22; refine (HO.out _ ?_).mono ?_; exact (Below.refl _ _).drew; rintro e w4 ⟨rfl, hb4⟩; have HB4 : Hid (Below wr.heap.size wr w4) := (Below.refl _ _).drew.trans hb4; clear hb4)))
        have HB5 : Hid (Below w.heap.size w w4) := HW.out.trans (HB4.out.mono HW.out.size)
        go_wp2_with fail
        go_roundw
        case rel => exact ⟨k + 1, l, r, by go_num, HL.out, htN.2, HN.out, HB5.out⟩
        case measure => simp [intOf]; omega
end Go.Proofs.Ytkomcebknllaiaa
