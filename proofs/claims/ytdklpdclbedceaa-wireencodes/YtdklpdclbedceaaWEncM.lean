/- Encode, the document's and the program's, in one form; tenonmake.Plain at whatever value; what a term that can be comes to. -/
import Derived.Test.YtdklpdclbedceaaEncK
import Derived.Test.YtdklpdclbedceaaRByt4
import Derived.Test.YtdklpdclbedceaaWG
import Derived.Test.YtdklpdclbedceaaGPlG
import Derived.Test.YtdklpdclbedceaaGSmG
namespace Go.Proofs.Ytdklpdclbedceaa
open Go.RowKit

/-- the bytes that Encode answers: none of a term that can't be -/
def Tm.encE (t : Tm) : List Int := if t.all.e = 0 then t.enc else []
theorem Tm.encE_le {t : Tm} (hb : t.Bdd) : t.encE.length ≤ 1081344000 := by
  unfold Tm.encE
  split
  · rename_i h; exact Tm.enc_le h hb
  · simp
theorem outs_nil (w : World) (base : Nat) (h : base ≤ w.heap.size) : Outs w base none 0 [] := ⟨⟨rfl, .inl ⟨rfl, rfl⟩⟩, h⟩
/-- what both answer -/
def EncE (t : Tm) (w : World) (e : Ending) (w' : World) : Prop := ∃ m a cap, e = .returned (.tuple #[.slice a m cap, .int .i64 t.all.e]) ∧ Hid (m = t.encE.length ∧ Outs w' w.heap.size a cap t.encE ∧ Below w.heap.size w w')
theorem Encode_all (t : Tm) (v : Value) (B : Nat) (w : World) (hB : B ≤ w.heap.size) (h : t.V w (Lo B) v) (hb : t.Bdd) : Calls Try.prog 23 #[v] w (EncE t w) := by
  by_cases he : t.all.e = 0
  · refine (Encode_ok t v B w hB h hb he).mono ?_
    rintro e w' ⟨g, cap, rfl, h1, h2⟩
    have e1 : t.encE = t.enc := by unfold Tm.encE; rw [if_pos he]
    exact ⟨_, _, cap, by rw [he], by rw [e1], by rw [e1]; exact h1, h2⟩
  · refine (Encode_bad t v B w hB h he).mono ?_
    rintro e w' ⟨rfl, h2⟩
    have e1 : t.encE = [] := by unfold Tm.encE; rw [if_neg he]
    exact ⟨0, none, 0, rfl, by rw [e1]; rfl, by rw [e1]; exact outs_nil _ _ h2.size, h2⟩
theorem refEncode_all (t : Tm) (cs : Array Value) (B : Nat → Prop) (w : World) (h : t.In w B cs) (hB : Sub B w) : Calls Try.prog 24 #[.agg cs] w (EncE t w) := by
  by_cases he : t.all.e = 0
  · refine (refEncode_ok t cs B w h hB he).mono ?_
    rintro e w' ⟨g, cap, rfl, h1, h2⟩
    have e1 : t.encE = t.enc := by unfold Tm.encE; rw [if_pos he]
    exact ⟨_, _, cap, by rw [he], by rw [e1], by rw [e1]; exact h1, h2⟩
  · refine (refEncode_bad t cs B w h hB he).mono ?_
    rintro e w' ⟨rfl, h2⟩
    have e1 : t.encE = [] := by unfold Tm.encE; rw [if_neg he]
    exact ⟨0, none, 0, rfl, by rw [e1]; rfl, by rw [e1]; exact outs_nil _ _ h2.size, h2⟩
theorem wsame_at (xs : List Int) (a b : Option Addr) (ca cb : Nat) (w : World) (m n : Nat) (hm : m = xs.length) (hn : n = xs.length) (hl : xs.length ≤ 140737488355328) (ha : Rd w a xs) (hb : Rd w b xs) :
    Calls Try.prog 25 #[.slice a m ca, .slice b n cb] w fun e w' => e = .returned (.bool true) ∧ Below w.heap.size w w' := by subst hm; subst hn; exact wsame_any xs a b ca cb w hl ha hb
theorem full_at (xs : List Int) (a : Option Addr) (cap base : Nat) (c : Int) (w : World) (m : Nat) (hm : m = xs.length) (hl : xs.length ≤ 70368744177664) (h : Outs w base a cap xs) :
    Calls Try.prog 27 #[.slice a m cap, .int .u8 c] w fun e w' => e = .returned (.tuple #[]) ∧ ∃ a', Gr base a a' w w' := by subst hm; exact full_any xs a cap base c w hl h
/-- one row written over, another one made later stands -/
theorem Rd.gr {w w' : World} {base : Nat} {a a' b : Option Addr} {xs : List Int} (h : Rd w b xs) (hg : Gr base a a' w w') (hne : ∀ k, a.map Addr.block = some k → b.map Addr.block ≠ some k) : Rd w' b xs := fun j u hu => by
  obtain ⟨g, rfl, hlt, hc⟩ := h j u hu
  refine ⟨g, rfl, Nat.lt_of_lt_of_le hlt hg.1.size, ?_⟩
  rw [World.cell?_of_block (w := w) (a := ⟨g, j, none⟩) (hg.2.1 g hlt (fun e => hne g e rfl))]
  exact hc

mutual
theorem Tm.pl_tame : (t : Tm) → ∀ n p d deep, (t.wk n p d).e = 0 → deep ≤ n → (t.pl deep).tame = true
  | .mk k b i f tx by' rf l fs c v, n, p, d, deep, h, hd => by
    have ho : Tm.Ok (.mk k b i f tx by' rf l fs c v) := ⟨n, p, d, h⟩
    obtain ⟨p1, p2, -, -⟩ := ho.parts
    have e : (Tm.mk k b i f tx by' rf l fs c v).own p n = 0 := by
      by_cases e : (Tm.mk k b i f tx by' rf l fs c v).own p n ≠ 0
      · rw [Tm.wk, if_pos e] at h; exact absurd h e
      · exact Decidable.not_not.1 e
    have hz := Sp.ent_zero (Tm.own_ent _ _ _ e)
    have hn : n ≤ 64 := hz.2.2.2
    rw [Tm.wk, if_neg (by simp [e])] at h
    simp only [Tm.pl]
    rw [if_neg (by omega), if_pos (by omega)]
    simp only [Tm.tame]
    by_cases k8 : k = 8
    · rw [if_pos k8, if_pos k8]; rw [if_pos k8] at h
      exact TmL.pl_tame l (n + 1) _ _ (deep + 1) h (by omega)
    · rw [if_neg k8] at h; rw [if_neg k8]
      by_cases k9 : k = 9 ∨ k = 10
      · rw [if_pos k9, if_pos k9]; rw [if_pos k9] at h
        exact TmF.pl_tame fs (n + 1) _ _ (deep + 1) h (by omega)
      · rw [if_neg k9]; exact decide_eq_true (by omega)
theorem TmL.pl_tame : (l : TmL) → ∀ n p d deep, (l.wk n p d).e = 0 → deep ≤ n → (l.pl deep).tame = true
  | .nil, _, _, _, _, _, _ => rfl
  | .cons t l, n, p, d, deep, h, hd => by
    rw [TmL.wk] at h
    by_cases e : (t.wk n p d).e ≠ 0
    · rw [if_pos e] at h; exact absurd h e
    · rw [if_neg e] at h
      simp only [TmL.pl, TmL.tame, Tm.pl_tame t n p d deep (Decidable.not_not.1 e) hd, TmL.pl_tame l n _ _ deep h hd, Bool.true_and]
theorem TmF.pl_tame : (l : TmF) → ∀ n p d deep, (l.wk n p d).e = 0 → deep ≤ n → (l.pl deep).tame = true
  | .nil, _, _, _, _, _, _ => rfl
  | .cons m t l, n, p, d, deep, h, hd => by
    rw [TmF.wk] at h
    by_cases e : (t.wk n p d).e ≠ 0
    · rw [if_pos e] at h; exact absurd h e
    · rw [if_neg e] at h
      simp only [TmF.pl, TmF.tame, Tm.pl_tame t n p d deep (Decidable.not_not.1 e) hd, TmF.pl_tame l n _ _ deep h hd, Bool.true_and]
end

set_option maxRecDepth 100000 in
set_option maxHeartbeats 1000000 in
theorem gmPlain_any (t : Tm) (v : Value) (w : World) (S : Nat → Prop) (h : t.V w S v) (hS : Sub S w) (hb : t.Sm) :
    Calls Try.prog 26 #[v] w fun e w' => ∃ k b i f tx ab nb cb rf al nl cl af nf cf c vr, e = .returned (.agg (tcells k b i f tx (.slice ab nb cb) rf (.slice al nl cl) (.slice af nf cf) c vr)) ∧ Below w.heap.size w w' ∧ (t.pl 0).In w' (Fr w w') (tcells k b i f tx (.slice ab nb cb) rf (.slice al nl cl) (.slice af nf cf) c vr) := by
  have HT := (gplain_any t.sz).at (deep := 0) (Nat.le_refl _) h hS hb (by decide) (by decide)
  have HT : Hid _ := HT
  unfold tcells at HT
  clear h hb
  unfold tcells
  go_enter Try.func26, Try.ntmps26
  go_wp2_with fail
  refine (HT.out _ ((Below.refl _ _).alloc (Nat.le_refl _) _)).mono ?_
  rintro e w1 ⟨k1, b1, i1, f1, tx1, ab1, nb1, cb1, rf1, al1, nl1, cl1, af1, nf1, cf1, cc1, vr1, rfl, hb1, hv1⟩
  obtain ⟨hR, hbw, hsz⟩ := box_at1 hb1
  obtain ⟨r0, r1, r2, r3, r4, r5, r6, r7, r8, r9, r10⟩ := tbox hR
  have hf := box_writes hR
  have z0 := hf 0; have z1 := hf 1; have z2 := hf 2; have z3 := hf 3; have z4 := hf 4; have z5 := hf 5; have z6 := hf 6; have z7 := hf 7; have z8 := hf 8; have z9 := hf 9; have z10 := hf 10
  have HE : Hid (Below w.heap.size w (setN w1 w.heap.size 0 [.int .i64 k1, .bool b1, .int .i64 i1, .float .f64 f1, .string tx1, .slice ab1 nb1 cb1, .int .u64 rf1, .slice al1 nl1 cl1, .slice af1 nf1 cf1, .string cc1, .int .i64 vr1]) ∧ (t.pl 0).In (setN w1 w.heap.size 0 [.int .i64 k1, .bool b1, .int .i64 i1, .float .f64 f1, .string tx1, .slice ab1 nb1 cb1, .int .u64 rf1, .slice al1 nl1 cl1, .slice af1 nf1 cf1, .string cc1, .int .i64 vr1]) (Fr w (setN w1 w.heap.size 0 [.int .i64 k1, .bool b1, .int .i64 i1, .float .f64 f1, .string tx1, .slice ab1 nb1 cb1, .int .u64 rf1, .slice al1 nl1 cl1, .slice af1 nf1 cf1, .string cc1, .int .i64 vr1])) #[.int .i64 k1, .bool b1, .int .i64 i1, .float .f64 f1, .string tx1, .slice ab1 nb1 cb1, .int .u64 rf1, .slice al1 nl1 cl1, .slice af1 nf1 cf1, .string cc1, .int .i64 vr1]) := by
    refine ⟨setN_below (Nat.le_refl _) _ _ _ _ hbw, (t.pl 0).In_same (fun k hk => setN_other (by have := hk.1; simp at this; omega) _ _ _) (fun k hk => ⟨by have := hk.1; simp at this; omega, by rw [setN_size]; exact hk.2⟩) _ hv1⟩
  clear hb1 hv1 hR hbw hf
  go_wp2_with fail
  refine bodyPost_ret (v := .agg #[.int .i64 k1, .bool b1, .int .i64 i1, .float .f64 f1, .string tx1, .slice ab1 nb1 cb1, .int .u64 rf1, .slice al1 nl1 cl1, .slice af1 nf1 cf1, .string cc1, .int .i64 vr1]) (by simp [results, Try.results26, go_sem, r0, r1, r2, r3, r4, r5, r6, r7, r8, r9, r10]) rfl ⟨k1, b1, i1, f1, tx1, ab1, nb1, cb1, rf1, al1, nl1, cl1, af1, nf1, cf1, cc1, vr1, rfl, HE.out.1, HE.out.2⟩

end Go.Proofs.Ytdklpdclbedceaa
