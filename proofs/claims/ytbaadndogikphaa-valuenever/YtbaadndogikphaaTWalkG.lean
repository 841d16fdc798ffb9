/- The Go walk through a term (package value: fieldsRule, walk.terms, walk.entries, walk.term) comes to the plain walk. -/
import Derived.Test.YtbaadndogikphaaVOfG
import Derived.Test.YtbaadndogikphaaWalkG
import Derived.Test.YtbaadndogikphaaPart
import Derived.Test.YtbaadndogikphaaCheck
namespace Go.Proofs.Ytbaadndogikphaa
open Go.RowKit

set_option maxRecDepth 100000 in
set_option maxHeartbeats 400000 in
theorem entries1_any (nm : ByteArray) (k : Int) (b : Bool) (i : Int) (f : Nat) (tx : ByteArray) (vb : Value) (rf : Int) (vl vf : Value) (c : ByteArray) (vr : Int) (w : World) :
    Calls Try.prog 84 #[.agg #[.string nm, .int .i64 k, .bool b, .int .i64 i, .float .f64 f, .string tx, vb, .int .u64 rf, vl, vf, .string c, .int .i64 vr]] w fun e w' => e = .returned (.string nm) ∧ Below w.heap.size w w' := by
  go_enter Try.func84, Try.ntmps84
  go_wp2
  go_ret
  exact ⟨rfl, (Below.refl _ _).alloc (Nat.le_refl _) _⟩

set_option maxRecDepth 100000 in
set_option maxHeartbeats 1000000 in
theorem fieldsRuleE_any (fs : TmF) (a : Option Addr) (cap B : Nat) (w : World) (hB : B ≤ w.heap.size) (h : fs.In w (Lo B) a 0) (hlen : fs.len * 168 ≤ 140737488355328) :
    Calls Try.prog 83 #[.slice a fs.len cap, .func (.func 84) #[] #[]] w fun e w' => e = .returned (.int .i64 (Sp.fieldsR fs.names)) ∧ Below w.heap.size w w' := by
  by_cases hl : 4096 < fs.len
  · have hr : Sp.len (fs.len : Int) 4096 = 2 := by unfold Sp.len; rw [if_neg (by omega)]
    have H : Hid (Sp.fieldsR fs.names = 2) := by show _ = _; unfold Sp.fieldsR; rw [if_pos (by rw [TmF.names_len]; exact hl)]
    go_enter Try.func83, Try.ntmps83
    go_wp2_with (go_at_call 49; refine (lengthRule_any _ _ _).mono ?_; rintro e w' ⟨rfl, rfl⟩)
    go_ret
    exact ⟨ret_int H.out.symm, Below.refl _ _⟩
  · have hr : Sp.len (fs.len : Int) 4096 = 0 := by unfold Sp.len; rw [if_pos (by omega)]
    go_enter Try.func83, Try.ntmps83
    go_wp2_with (go_at_call 49; refine (lengthRule_any _ _ _).mono ?_; rintro e w' ⟨rfl, rfl⟩)
    go_loopw [6, 18] (fun ah i wr => ∃ (k : Nat) (l : TmF) (s : ByteArray), ah = .string s ∧ i = .int .i64 k ∧ l.len + k = fs.len ∧ Hid (l.In w (Lo B) a k) ∧ Hid (Sp.named ByteArray.empty fs.names = Sp.named s l.names) ∧ Hid (Below w.heap.size w wr)) (fun _ i _ => fs.len - (intOf i).toNat)
    case atStart => exact ⟨0, fs, _, rfl, rfl, rfl, h, rfl, Below.refl _ _⟩
    case round =>
      obtain ⟨k, l, s, rfl, rfl, hk, HV, HN, HB⟩ := hrel
      cases l with
      | nil =>
        have h1 : fs.len ≤ k := by simp [TmF.len] at hk; omega
        have H : Hid (Sp.fieldsR fs.names = 0) := by
          show _ = _; unfold Sp.fieldsR; rw [if_neg (by rw [TmF.names_len]; exact hl), HN.out]; simp [TmF.names, Sp.named]
        clear hk HN HV h
        go_wp2_with fail
        go_ret
        exact ⟨ret_int H.out.symm, HB.out⟩
      | cons n t l =>
        have hv := HV.out
        simp only [TmF.In] at hv
        obtain ⟨g, o, cs, rfl, hg, c0, hn, hc, ht, hv'⟩ := hv
        have hg : g < B := hg
        have hlt : k < fs.len := by simp [TmF.len] at hk; omega
        have HK : Hid (l.len + (k + 1) = fs.len) := by show _ = _; simp [TmF.len] at hk; omega
        have hcell : ∀ j, wr.cell? ⟨g, j, none⟩ = w.cell? ⟨g, j, none⟩ := fun j => HB.out.cell (p := ⟨g, j, none⟩) (by show g < _; omega)
        have d0 : wr.cell? ⟨g, o + k * 12, none⟩ = some (.string n) := by rw [hcell]; exact c0
        have HT : Hid (TmF.In w (Lo B) l (some ⟨g, o, none⟩) (k + 1)) := hv'
        obtain ⟨k1, b1, i1, f1, tx1, ab1, nb1, cb1, rf1, al1, nl1, cl1, af1, nf1, cf1, cc1, vr1, rfl⟩ := Tm.In_tc' ht
        obtain ⟨e0, e1, e2, e3, e4, e5, e6, e7, e8, e9, e10⟩ := eleven (w := wr) (g := g) (o := o + k * 12 + 1) (fun x hx => by rw [hcell]; exact hc x hx)
        have hn' : n.size ≤ maxLen := by unfold maxLen; omega
        have HG : Hid (∀ o w1, Below (wr.alloc o).heap.size (wr.alloc o) w1 → Below w.heap.size w w1) := fun o w1 h => (HB.out.alloc HB.out.size _).trans (h.mono (by simp; have := HB.out.size; omega))
        clear hk hv' ht c0 h HV hc hcell
        cases hnm : Sp.isNm n with
        | false =>
          have H : Hid (Sp.fieldsR fs.names = 8) := by
            show _ = _; unfold Sp.fieldsR; rw [if_neg (by rw [TmF.names_len]; exact hl), HN.out]; simp [TmF.names, Sp.named, hnm]
          go_wp2_with (first | (go_at_call 84; refine (entries1_any _ _ _ _ _ _ _ _ _ _ _ _ _).mono ?_; rintro e w1 ⟨rfl, hb1⟩) | (go_at_call 81; refine (isName_any _ _ hn').mono ?_; rintro e w' ⟨rfl, rfl⟩))
          go_ret
          exact ⟨ret_int H.out.symm, HG.out _ _ hb1⟩
        | true =>
          cases hle : Sp.leS n s with
          | true =>
            have H : Hid (Sp.fieldsR fs.names = 8) := by
              show _ = _; unfold Sp.fieldsR; rw [if_neg (by rw [TmF.names_len]; exact hl), HN.out]; simp [TmF.names, Sp.named, hnm, hle]
            unfold Sp.leS at hle
            go_wp2_with (first | (go_at_call 84; refine (entries1_any _ _ _ _ _ _ _ _ _ _ _ _ _).mono ?_; rintro e w1 ⟨rfl, hb1⟩) | (go_at_call 81; refine (isName_any _ _ hn').mono ?_; rintro e w' ⟨rfl, rfl⟩))
            go_ret
            exact ⟨ret_int H.out.symm, HG.out _ _ hb1⟩
          | false =>
            have H : Hid (Sp.named ByteArray.empty fs.names = Sp.named n l.names) := by
              show _ = _; rw [HN.out]; simp [TmF.names, Sp.named, hnm, hle]
            unfold Sp.leS at hle
            go_wp2_with (first | (go_at_call 84; refine (entries1_any _ _ _ _ _ _ _ _ _ _ _ _ _).mono ?_; rintro e w1 ⟨rfl, hb1⟩) | (go_at_call 81; refine (isName_any _ _ hn').mono ?_; rintro e w' ⟨rfl, rfl⟩))
            go_roundw
            case rel => exact ⟨k + 1, l, n, rfl, by go_num, HK.out, HT.out, H, HG.out _ _ hb1⟩
            case measure => simp [intOf]; omega
end Go.Proofs.Ytbaadndogikphaa

/- walk.terms and walk.entries. -/
namespace Go.Proofs.Ytbaadndogikphaa
open Go.RowKit

/-- the contract of walk.term at terms of at most N parts -/
def TermC (N : Nat) : Prop := ∀ (t : Tm), t.sz ≤ N → ∀ (b : Nat) (cs : Array Value) (p d n : Int) (w : World), Wk w b p d → t.In w (Lo b) cs → 0 ≤ p → p ≤ 16384 → 1 ≤ n → n ≤ 65 →
  Calls Try.prog 35 #[.pointer (some ⟨b, 0, none⟩), .agg cs, .int .i64 n] w fun e w' => e = .returned (.int .i64 (t.wk n p d).e) ∧ Wk w' b (t.wk n p d).p (t.wk n p d).d ∧ Below b w w'

set_option maxRecDepth 100000 in
set_option maxHeartbeats 1000000 in
theorem terms_any (N : Nat) (HC : TermC N) (L : TmL) (hN : L.sz ≤ N) (b : Nat) (a : Option Addr) (cap : Nat) (p d n : Int) (w : World) (hw : Wk w b p d) (h : L.In w (Lo b) a 0) (hlen : L.len * 152 ≤ 140737488355328) (hp : 0 ≤ p) (hp' : p ≤ 16384) (hn : 1 ≤ n) (hn' : n ≤ 64) :
    Calls Try.prog 55 #[.pointer (some ⟨b, 0, none⟩), .slice a L.len cap, .int .i64 n] w fun e w' => e = .returned (.int .i64 (L.wkR n p d).e) ∧ Wk w' b (L.wkR n p d).p (L.wkR n p d).d ∧ Below b w w' := by
  by_cases hl : 4096 < L.len
  · have hr : Sp.len (L.len : Int) 4096 = 2 := by unfold Sp.len; rw [if_neg (by omega)]
    have H : Hid (L.wkR n p d = ⟨p, d, 2⟩) := by show _ = _; unfold TmL.wkR; rw [if_pos hl]
    clear h HC
    go_enter Try.func55, Try.ntmps55
    go_wp2_with (go_at_call 49; refine (lengthRule_any _ _ _).mono ?_; rintro e w' ⟨rfl, rfl⟩)
    go_ret
    rw [H.out]
    exact ⟨rfl, hw, Below.refl _ _⟩
  · have hr : Sp.len (L.len : Int) 4096 = 0 := by unfold Sp.len; rw [if_pos (by omega)]
    have H : Hid (L.wkR n p d = L.wk (n + 1) p d) := by show _ = _; unfold TmL.wkR; rw [if_neg hl]
    have HCH : Hid (TermC N) := HC
    have H0 : Hid (L.In w (Lo b) a 0 ∧ Wk w b p d) := ⟨h, hw⟩
    clear HC h hw
    go_enter Try.func55, Try.ntmps55
    go_wp2_with (go_at_call 49; refine (lengthRule_any _ _ _).mono ?_; rintro e w' ⟨rfl, rfl⟩)
    go_loopw [19] (fun i wr => ∃ (k : Nat) (l : TmL) (p' d' : Int), i = .int .i64 k ∧ l.len + k = L.len ∧ l.sz ≤ N ∧ 0 ≤ p' ∧ p' ≤ 16384 ∧ Hid (l.In w (Lo b) a k ∧ L.wk (n + 1) p d = l.wk (n + 1) p' d' ∧ Wk wr b p' d' ∧ Below b w wr)) (fun i _ => L.len - (intOf i).toNat)
    case atStart => exact ⟨0, L, p, d, rfl, rfl, hN, hp, hp', H0.out.1, rfl, H0.out.2, Below.refl _ _⟩
    case round =>
      obtain ⟨k, l, p', d', rfl, hk, hlN, hq, hq', HR⟩ := hrel
      clear H0
      cases l with
      | nil =>
        have h1 : L.len ≤ k := by simp [TmL.len] at hk; omega
        clear hk
        go_wp2_with fail
        go_ret
        rw [H.out, HR.out.2.1]
        exact ⟨rfl, HR.out.2.2.1, HR.out.2.2.2⟩
      | cons t l =>
        obtain ⟨hv, HE, hwr, hb⟩ := HR.out
        simp only [TmL.In] at hv
        obtain ⟨g, o, cs, rfl, hg, hc, ht, hv'⟩ := hv
        have hlt : k < L.len := by simp [TmL.len] at hk; omega
        have HK : Hid (l.len + (k + 1) = L.len) := by show _ = _; simp [TmL.len] at hk; omega
        have htN : t.sz ≤ N ∧ l.sz ≤ N := by simp [TmL.sz] at hlN; omega
        have hbl := hwr.lt
        have HT : Hid (TmL.In w (Lo b) l (some ⟨g, o, none⟩) (k + 1)) := hv'
        have HE : Hid _ := HE
        have hbd := t.wk_bd (n + 1) p' d' hq hq'
        have HO : Hid (∀ W, Below wr.heap.size wr W → Calls Try.prog 35 #[.pointer (some ⟨b, 0, none⟩), .agg cs, .int .i64 (n + 1)] W fun e w' => e = .returned (.int .i64 (t.wk (n + 1) p' d').e) ∧ Wk w' b (t.wk (n + 1) p' d').p (t.wk (n + 1) p' d').d ∧ Below b w w') := fun W hW =>
          (HCH.out t htN.1 b cs p' d' (n + 1) W (hwr.same (Same.of_below hW (Nat.le_refl _)) hbl) (t.In_same ((Same.of_below hb (Nat.le_refl _)).trans (Same.of_below hW (by omega))) (fun _ h => h) cs ht) hq hq' (by omega) (by omega)).mono fun e w' h => ⟨h.1, h.2.1, (hb.trans (hW.mono (by omega))).trans h.2.2⟩
        have hcell : ∀ j, wr.cell? ⟨g, j, none⟩ = w.cell? ⟨g, j, none⟩ := fun j => hb.cell (p := ⟨g, j, none⟩) hg
        obtain ⟨k1, b1, i1, f1, tx1, ab1, nb1, cb1, rf1, al1, nl1, cl1, af1, nf1, cf1, cc1, vr1, rfl⟩ := Tm.In_tc' ht
        obtain ⟨e0, e1, e2, e3, e4, e5, e6, e7, e8, e9, e10⟩ := eleven (w := wr) (g := g) (o := o + k * 11) (fun x hx => by rw [hcell]; exact hc x hx)
        unfold tcells at HO
        clear hk hv' ht hwr hb hlN hc hcell
        by_cases he : (t.wk (n + 1) p' d').e ≠ 0
        · have HR' : Hid (TmL.wk (.cons t l) (n + 1) p' d' = t.wk (n + 1) p' d') := by show _ = _; rw [TmL.wk, if_pos he]
          have he' := ne_bool he
          clear he
          go_wp2_with (go_at_call 35; refine (HO.out _ ((Below.refl _ _).alloc (Nat.le_refl _) _)).mono ?_; rintro e w1 ⟨rfl, hk1, hb1⟩)
          go_ret
          rw [H.out, HE.out, HR'.out]
          exact ⟨rfl, hk1, hb1⟩
        · have he0 : (t.wk (n + 1) p' d').e = 0 := Decidable.not_not.1 he
          have HR' : Hid (TmL.wk (.cons t l) (n + 1) p' d' = l.wk (n + 1) (t.wk (n + 1) p' d').p (t.wk (n + 1) p' d').d) := by show _ = _; rw [TmL.wk, if_neg he]
          have hpq := hbd.2.2 he0
          clear he
          go_wp2_with (go_at_call 35; refine (HO.out _ ((Below.refl _ _).alloc (Nat.le_refl _) _)).mono ?_; rintro e w1 ⟨rfl, hk1, hb1⟩)
          go_roundw
          case rel => exact ⟨k + 1, l, _, _, by go_num, HK.out, htN.2, by omega, hpq, HT.out, (HE.out.trans HR'.out), hk1, hb1⟩
          case measure => simp [intOf]; omega
end Go.Proofs.Ytbaadndogikphaa

/- walk.entries. -/
namespace Go.Proofs.Ytbaadndogikphaa
open Go.RowKit

set_option maxRecDepth 100000 in
set_option maxHeartbeats 1000000 in
theorem entries_any (N : Nat) (HC : TermC N) (L : TmF) (hN : L.sz ≤ N) (b : Nat) (a : Option Addr) (cap : Nat) (p d n : Int) (w : World) (hw : Wk w b p d) (h : L.In w (Lo b) a 0) (hlen : L.len * 168 ≤ 140737488355328) (hp : 0 ≤ p) (hp' : p ≤ 16384) (hn : 1 ≤ n) (hn' : n ≤ 64) :
    Calls Try.prog 56 #[.pointer (some ⟨b, 0, none⟩), .slice a L.len cap, .int .i64 n] w fun e w' => e = .returned (.int .i64 (L.wkR n p d).e) ∧ Wk w' b (L.wkR n p d).p (L.wkR n p d).d ∧ Below b w w' := by
  have hbw := hw.lt
  have HFR : Hid (Calls Try.prog 83 #[.slice a L.len cap, .func (.func 84) #[] #[]] w fun e w' => e = .returned (.int .i64 (Sp.fieldsR L.names)) ∧ Below w.heap.size w w') := fieldsRuleE_any L a cap b w (by omega) h hlen
  by_cases hl : Sp.fieldsR L.names ≠ 0
  · have hr := ne_bool hl
    have H : Hid (L.wkR n p d = ⟨p, d, Sp.fieldsR L.names⟩) := by show _ = _; unfold TmF.wkR; rw [if_pos hl]
    clear h HC hl
    go_enter Try.func56, Try.ntmps56
    go_wp2_with (go_at_call 83; refine HFR.out.mono ?_; rintro e w1 ⟨rfl, hb1⟩)
    go_ret
    rw [H.out]
    exact ⟨rfl, hw.same (Same.of_below hb1 (Nat.le_refl _)) hbw, hb1.mono (by omega)⟩
  · have hr : Sp.fieldsR L.names = 0 := Decidable.not_not.1 hl
    have H : Hid (L.wkR n p d = L.wk (n + 1) p d) := by show _ = _; unfold TmF.wkR; rw [if_neg hl]
    have HCH : Hid (TermC N) := HC
    have H0 : Hid (L.In w (Lo b) a 0 ∧ Wk w b p d) := ⟨h, hw⟩
    clear HC h hw
    go_enter Try.func56, Try.ntmps56
    go_wp2_with (go_at_call 83; refine HFR.out.mono ?_; rintro e w1 ⟨rfl, hb1⟩)
    have HW1 : Hid (Wk w1 b p d ∧ Below b w w1) := ⟨H0.out.2.same (Same.of_below hb1 (Nat.le_refl _)) hbw, hb1.mono (by omega)⟩
    clear hb1
    go_loopw [18] (fun i wr => ∃ (k : Nat) (l : TmF) (p' d' : Int), i = .int .i64 k ∧ l.len + k = L.len ∧ l.sz ≤ N ∧ 0 ≤ p' ∧ p' ≤ 16384 ∧ Hid (l.In w (Lo b) a k ∧ L.wk (n + 1) p d = l.wk (n + 1) p' d' ∧ Wk wr b p' d' ∧ Below b w wr)) (fun i _ => L.len - (intOf i).toNat)
    case atStart => exact ⟨0, L, p, d, rfl, rfl, hN, hp, hp', H0.out.1, rfl, HW1.out.1, HW1.out.2⟩
    case round =>
      obtain ⟨k, l, p', d', rfl, hk, hlN, hq, hq', HR⟩ := hrel
      clear H0 HW1 HFR
      cases l with
      | nil =>
        have h1 : L.len ≤ k := by simp [TmF.len] at hk; omega
        clear hk
        go_wp2_with fail
        go_ret
        rw [H.out, HR.out.2.1]
        exact ⟨rfl, HR.out.2.2.1, HR.out.2.2.2⟩
      | cons nm t l =>
        obtain ⟨hv, HE, hwr, hb⟩ := HR.out
        simp only [TmF.In] at hv
        obtain ⟨g, o, cs, rfl, hg, hnc, _, hc, ht, hv'⟩ := hv
        have hlt : k < L.len := by simp [TmF.len] at hk; omega
        have HK : Hid (l.len + (k + 1) = L.len) := by show _ = _; simp [TmF.len] at hk; omega
        have htN : t.sz ≤ N ∧ l.sz ≤ N := by simp [TmF.sz] at hlN; omega
        have hbl := hwr.lt
        have HT : Hid (TmF.In w (Lo b) l (some ⟨g, o, none⟩) (k + 1)) := hv'
        have HE : Hid _ := HE
        have hbd := t.wk_bd (n + 1) p' d' hq hq'
        have HO : Hid (∀ W, Below wr.heap.size wr W → Calls Try.prog 35 #[.pointer (some ⟨b, 0, none⟩), .agg cs, .int .i64 (n + 1)] W fun e w' => e = .returned (.int .i64 (t.wk (n + 1) p' d').e) ∧ Wk w' b (t.wk (n + 1) p' d').p (t.wk (n + 1) p' d').d ∧ Below b w w') := fun W hW =>
          (HCH.out t htN.1 b cs p' d' (n + 1) W (hwr.same (Same.of_below hW (Nat.le_refl _)) hbl) (t.In_same ((Same.of_below hb (Nat.le_refl _)).trans (Same.of_below hW (by omega))) (fun _ h => h) cs ht) hq hq' (by omega) (by omega)).mono fun e w' h => ⟨h.1, h.2.1, (hb.trans (hW.mono (by omega))).trans h.2.2⟩
        have hcell : ∀ j, wr.cell? ⟨g, j, none⟩ = w.cell? ⟨g, j, none⟩ := fun j => hb.cell (p := ⟨g, j, none⟩) hg
        obtain ⟨k1, b1, i1, f1, tx1, ab1, nb1, cb1, rf1, al1, nl1, cl1, af1, nf1, cf1, cc1, vr1, rfl⟩ := Tm.In_tc' ht
        obtain ⟨e0, e1, e2, e3, e4, e5, e6, e7, e8, e9, e10⟩ := eleven (w := wr) (g := g) (o := o + k * 12 + 1) (fun x hx => by rw [hcell]; exact hc x hx)
        have en : wr.cell? ⟨g, o + k * 12, none⟩ = some (.string nm) := by rw [hcell]; exact hnc
        unfold tcells at HO
        clear hk hv' ht hwr hb hlN hc hcell hnc
        by_cases he : (t.wk (n + 1) p' d').e ≠ 0
        · have HR' : Hid (TmF.wk (.cons nm t l) (n + 1) p' d' = t.wk (n + 1) p' d') := by show _ = _; rw [TmF.wk, if_pos he]
          have he' := ne_bool he
          clear he
          go_wp2_with (go_at_call 35; refine (HO.out _ ((Below.refl _ _).alloc (Nat.le_refl _) _)).mono ?_; rintro e w2 ⟨rfl, hk1, hb1⟩)
          go_ret
          rw [H.out, HE.out, HR'.out]
          exact ⟨rfl, hk1, hb1⟩
        · have he0 : (t.wk (n + 1) p' d').e = 0 := Decidable.not_not.1 he
          have HR' : Hid (TmF.wk (.cons nm t l) (n + 1) p' d' = l.wk (n + 1) (t.wk (n + 1) p' d').p (t.wk (n + 1) p' d').d) := by show _ = _; rw [TmF.wk, if_neg he]
          have hpq := hbd.2.2 he0
          clear he
          go_wp2_with (go_at_call 35; refine (HO.out _ ((Below.refl _ _).alloc (Nat.le_refl _) _)).mono ?_; rintro e w2 ⟨rfl, hk1, hb1⟩)
          go_roundw
          case rel => exact ⟨k + 1, l, _, _, by go_num, HK.out, htN.2, by omega, hpq, HT.out, (HE.out.trans HR'.out), hk1, hb1⟩
          case measure => simp [intOf]; omega
end Go.Proofs.Ytbaadndogikphaa

/- walk.term, whole; value.Of. -/
namespace Go.Proofs.Ytbaadndogikphaa
open Go.RowKit

theorem ent_facts {w : World} {b : Nat} {p d n : Int} {o : Obj} (hw : Wk w b p d) {w1 : World} (h : ((w.alloc o).setCell ⟨b, 0, none⟩ (.int .i64 (p + 1))).setCell ⟨b, 1, none⟩ (.int .i64 (max d n)) = w1) :
    w1.heap[w.heap.size]? = some o ∧ Wk w1 b (p + 1) (max d n) ∧ Below b w w1 := by
  have hb := hw.lt
  subst h
  refine ⟨?_, (hw.same (Same.of_below ((Below.refl _ _).alloc (Nat.le_refl _) _) (Nat.le_refl w.heap.size)) hb).set _ _, ?_⟩
  · rw [heap_setCell_other _ _ _ _ (by show w.heap.size ≠ b; omega), heap_setCell_other _ _ _ _ (by show w.heap.size ≠ b; omega)]; exact heap_alloc_new w o
  · exact (((Below.refl _ _).alloc (by omega) _).setCell (p := ⟨b, 0, none⟩) (Nat.le_refl b) _).setCell (p := ⟨b, 1, none⟩) (Nat.le_refl b) _
theorem wk_box {w : World} {b : Nat} {p d : Int} (hw : Wk w b p d) (o : Obj) : Wk (w.alloc o) b p d := hw.same (Same.of_below ((Below.refl _ _).alloc (Nat.le_refl _) _) (Nat.le_refl w.heap.size)) hw.lt

section
variable (bo : Bool) (i : Int) (f : Nat) (tx : ByteArray) (ab : Option Addr) (nb cb : Nat) (rf : Int) (al : Option Addr) (nl cl : Nat) (af : Option Addr) (nf cf : Nat) (c : ByteArray) (vr : Int) (b : Nat) (p d n : Int) (w : World)
set_option maxRecDepth 100000 in
set_option maxHeartbeats 1000000 in
theorem term_err (k : Int) (hw : Wk w b p d) (hp : 0 ≤ p) (hp' : p ≤ 16384) (he : Sp.ent k p n ≠ 0) :
    Calls Try.prog 35 #[.pointer (some ⟨b, 0, none⟩), .agg (tcells k bo i f tx (.slice ab nb cb) rf (.slice al nl cl) (.slice af nf cf) c vr), .int .i64 n] w fun e w' => e = .returned (.int .i64 (Sp.ent k p n)) ∧ Wk w' b (p + 1) (max d n) ∧ Below b w w' := by
  unfold tcells
  have HW : Hid (Wk w b p d) := hw
  clear hw
  have he' := ne_bool he
  clear he
  go_enter Try.func35, Try.ntmps35
  go_wp2_with (go_at_call 48; refine (enter_any b p d _ _ _ (wk_box HW.out _) hp (by omega)).mono ?_; rintro e w1 ⟨rfl, hw1⟩; obtain ⟨hx1, hk1, hb1⟩ := ent_facts HW.out hw1; obtain ⟨t0, t1, t2, t3, t4, t5, t6, t7, t8, t9, t10⟩ := tbox hx1; clear hw1 hx1; have HK1 : Hid _ := hk1; have HB1 : Hid _ := hb1; clear hk1 hb1)
  go_ret
  exact ⟨rfl, HK1.out, HB1.out⟩
set_option maxRecDepth 100000 in
set_option maxHeartbeats 1000000 in
theorem term_plain (k : Int) (hw : Wk w b p d) (hp : 0 ≤ p) (hp' : p ≤ 16384) (he : Sp.ent k p n = 0) (h5 : k ≠ 5) (h6 : k ≠ 6) (h8 : k ≠ 8) (h9 : k ≠ 9) (h10 : k ≠ 10) :
    Calls Try.prog 35 #[.pointer (some ⟨b, 0, none⟩), .agg (tcells k bo i f tx (.slice ab nb cb) rf (.slice al nl cl) (.slice af nf cf) c vr), .int .i64 n] w fun e w' => e = .returned (.int .i64 (0)) ∧ Wk w' b (p + 1) (max d n) ∧ Below b w w' := by
  unfold tcells
  have HW : Hid (Wk w b p d) := hw
  clear hw
  have b5 : (k == 5) = false := by simp [h5]
  have b6 : (k == 6) = false := by simp [h6]
  have b8 : (k == 8) = false := by simp [h8]
  have b9 : (k == 9) = false := by simp [h9]
  have b10 : (k == 10) = false := by simp [h10]
  clear h5 h6 h8 h9 h10
  go_enter Try.func35, Try.ntmps35
  go_wp2_with (go_at_call 48; refine (enter_any b p d _ _ _ (wk_box HW.out _) hp (by omega)).mono ?_; rintro e w1 ⟨rfl, hw1⟩; obtain ⟨hx1, hk1, hb1⟩ := ent_facts HW.out hw1; obtain ⟨t0, t1, t2, t3, t4, t5, t6, t7, t8, t9, t10⟩ := tbox hx1; clear hw1 hx1; have HK1 : Hid _ := hk1; have HB1 : Hid _ := hb1; clear hk1 hb1)
  go_ret
  exact ⟨rfl, HK1.out, HB1.out⟩
set_option maxRecDepth 100000 in
set_option maxHeartbeats 1000000 in
theorem term_5 (hw : Wk w b p d) (hp : 0 ≤ p) (hp' : p ≤ 16384) (he : Sp.ent 5 p n = 0) :
    Calls Try.prog 35 #[.pointer (some ⟨b, 0, none⟩), .agg (tcells 5 bo i f tx (.slice ab nb cb) rf (.slice al nl cl) (.slice af nf cf) c vr), .int .i64 n] w fun e w' => e = .returned (.int .i64 (Sp.len tx.size 65536)) ∧ Wk w' b (p + 1) (max d n) ∧ Below b w w' := by
  unfold tcells
  have HW : Hid (Wk w b p d) := hw
  clear hw
  go_enter Try.func35, Try.ntmps35
  go_wp2_with (first | (go_at_call 48; refine (enter_any b p d _ _ _ (wk_box HW.out _) hp (by omega)).mono ?_; rintro e w1 ⟨rfl, hw1⟩; obtain ⟨hx1, hk1, hb1⟩ := ent_facts HW.out hw1; obtain ⟨t0, t1, t2, t3, t4, t5, t6, t7, t8, t9, t10⟩ := tbox hx1; clear hw1 hx1; have HK1 : Hid _ := hk1; have HB1 : Hid _ := hb1; clear hk1 hb1) | (go_at_call 49; refine (lengthRule_any _ _ _).mono ?_; rintro e w' ⟨rfl, rfl⟩))
  go_ret
  exact ⟨rfl, HK1.out, HB1.out⟩
set_option maxRecDepth 100000 in
set_option maxHeartbeats 1000000 in
theorem term_6 (hw : Wk w b p d) (hp : 0 ≤ p) (hp' : p ≤ 16384) (he : Sp.ent 6 p n = 0) :
    Calls Try.prog 35 #[.pointer (some ⟨b, 0, none⟩), .agg (tcells 6 bo i f tx (.slice ab nb cb) rf (.slice al nl cl) (.slice af nf cf) c vr), .int .i64 n] w fun e w' => e = .returned (.int .i64 (Sp.len nb 65536)) ∧ Wk w' b (p + 1) (max d n) ∧ Below b w w' := by
  unfold tcells
  have HW : Hid (Wk w b p d) := hw
  clear hw
  go_enter Try.func35, Try.ntmps35
  go_wp2_with (first | (go_at_call 48; refine (enter_any b p d _ _ _ (wk_box HW.out _) hp (by omega)).mono ?_; rintro e w1 ⟨rfl, hw1⟩; obtain ⟨hx1, hk1, hb1⟩ := ent_facts HW.out hw1; obtain ⟨t0, t1, t2, t3, t4, t5, t6, t7, t8, t9, t10⟩ := tbox hx1; clear hw1 hx1; have HK1 : Hid _ := hk1; have HB1 : Hid _ := hb1; clear hk1 hb1) | (go_at_call 49; refine (lengthRule_any _ _ _).mono ?_; rintro e w' ⟨rfl, rfl⟩))
  go_ret
  exact ⟨rfl, HK1.out, HB1.out⟩
set_option maxRecDepth 100000 in
set_option maxHeartbeats 1000000 in
theorem term_8 (hw : Wk w b p d) (hp : 0 ≤ p) (hp' : p ≤ 16384) (he : Sp.ent 8 p n = 0) (R : Wr) (h : ∀ W, Below b w W → Wk W b (p + 1) (max d n) → Calls Try.prog 55 #[.pointer (some ⟨b, 0, none⟩), .slice al nl cl, .int .i64 n] W fun e w' => e = .returned (.int .i64 R.e) ∧ Wk w' b R.p R.d ∧ Below b W w') :
    Calls Try.prog 35 #[.pointer (some ⟨b, 0, none⟩), .agg (tcells 8 bo i f tx (.slice ab nb cb) rf (.slice al nl cl) (.slice af nf cf) c vr), .int .i64 n] w fun e w' => e = .returned (.int .i64 (R.e)) ∧ Wk w' b R.p R.d ∧ Below b w w' := by
  unfold tcells
  have HW : Hid (Wk w b p d) := hw
  clear hw
  have HX : Hid _ := h
  clear h
  go_enter Try.func35, Try.ntmps35
  go_wp2_with (first | (go_at_call 48; refine (enter_any b p d _ _ _ (wk_box HW.out _) hp (by omega)).mono ?_; rintro e w1 ⟨rfl, hw1⟩; obtain ⟨hx1, hk1, hb1⟩ := ent_facts HW.out hw1; obtain ⟨t0, t1, t2, t3, t4, t5, t6, t7, t8, t9, t10⟩ := tbox hx1; clear hw1 hx1; have HK1 : Hid _ := hk1; have HB1 : Hid _ := hb1; clear hk1 hb1) | (go_at_call 55; refine (HX.out _ HB1.out HK1.out).mono ?_; rintro e w2 ⟨rfl, hk2, hb2⟩))
  go_ret
  exact ⟨rfl, hk2, HB1.out.trans hb2⟩
set_option maxRecDepth 100000 in
set_option maxHeartbeats 1000000 in
theorem term_9 (hw : Wk w b p d) (hp : 0 ≤ p) (hp' : p ≤ 16384) (he : Sp.ent 9 p n = 0) (R : Wr) (h : ∀ W, Below b w W → Wk W b (p + 1) (max d n) → Calls Try.prog 56 #[.pointer (some ⟨b, 0, none⟩), .slice af nf cf, .int .i64 n] W fun e w' => e = .returned (.int .i64 R.e) ∧ Wk w' b R.p R.d ∧ Below b W w') :
    Calls Try.prog 35 #[.pointer (some ⟨b, 0, none⟩), .agg (tcells 9 bo i f tx (.slice ab nb cb) rf (.slice al nl cl) (.slice af nf cf) c vr), .int .i64 n] w fun e w' => e = .returned (.int .i64 (R.e)) ∧ Wk w' b R.p R.d ∧ Below b w w' := by
  unfold tcells
  have HW : Hid (Wk w b p d) := hw
  clear hw
  have HX : Hid _ := h
  clear h
  go_enter Try.func35, Try.ntmps35
  go_wp2_with (first | (go_at_call 48; refine (enter_any b p d _ _ _ (wk_box HW.out _) hp (by omega)).mono ?_; rintro e w1 ⟨rfl, hw1⟩; obtain ⟨hx1, hk1, hb1⟩ := ent_facts HW.out hw1; obtain ⟨t0, t1, t2, t3, t4, t5, t6, t7, t8, t9, t10⟩ := tbox hx1; clear hw1 hx1; have HK1 : Hid _ := hk1; have HB1 : Hid _ := hb1; clear hk1 hb1) | (go_at_call 56; refine (HX.out _ HB1.out HK1.out).mono ?_; rintro e w2 ⟨rfl, hk2, hb2⟩))
  go_ret
  exact ⟨rfl, hk2, HB1.out.trans hb2⟩
set_option maxRecDepth 100000 in
set_option maxHeartbeats 1000000 in
theorem term_10 (hw : Wk w b p d) (hp : 0 ≤ p) (hp' : p ≤ 16384) (he : Sp.ent 10 p n = 0) (hs : c.size ≤ maxLen) (hh : Sp.headR c vr = 0) (R : Wr) (h : ∀ W, Below b w W → Wk W b (p + 1) (max d n) → Calls Try.prog 56 #[.pointer (some ⟨b, 0, none⟩), .slice af nf cf, .int .i64 n] W fun e w' => e = .returned (.int .i64 R.e) ∧ Wk w' b R.p R.d ∧ Below b W w') :
    Calls Try.prog 35 #[.pointer (some ⟨b, 0, none⟩), .agg (tcells 10 bo i f tx (.slice ab nb cb) rf (.slice al nl cl) (.slice af nf cf) c vr), .int .i64 n] w fun e w' => e = .returned (.int .i64 (R.e)) ∧ Wk w' b R.p R.d ∧ Below b w w' := by
  unfold tcells
  have HW : Hid (Wk w b p d) := hw
  clear hw
  have HX : Hid _ := h
  clear h
  go_enter Try.func35, Try.ntmps35
  go_wp2_with (first | (go_at_call 48; refine (enter_any b p d _ _ _ (wk_box HW.out _) hp (by omega)).mono ?_; rintro e w1 ⟨rfl, hw1⟩; obtain ⟨hx1, hk1, hb1⟩ := ent_facts HW.out hw1; obtain ⟨t0, t1, t2, t3, t4, t5, t6, t7, t8, t9, t10⟩ := tbox hx1; clear hw1 hx1; have HK1 : Hid _ := hk1; have HB1 : Hid _ := hb1; clear hk1 hb1) | (go_at_call 52; refine (headRule_any _ _ _ hs).mono ?_; rintro e w' ⟨rfl, rfl⟩) | (go_at_call 56; refine (HX.out _ HB1.out HK1.out).mono ?_; rintro e w2 ⟨rfl, hk2, hb2⟩))
  go_ret
  exact ⟨rfl, hk2, HB1.out.trans hb2⟩
set_option maxRecDepth 100000 in
set_option maxHeartbeats 1000000 in
theorem term_head (hw : Wk w b p d) (hp : 0 ≤ p) (hp' : p ≤ 16384) (he : Sp.ent 10 p n = 0) (hs : c.size ≤ maxLen) (hh : Sp.headR c vr ≠ 0) :
    Calls Try.prog 35 #[.pointer (some ⟨b, 0, none⟩), .agg (tcells 10 bo i f tx (.slice ab nb cb) rf (.slice al nl cl) (.slice af nf cf) c vr), .int .i64 n] w fun e w' => e = .returned (.int .i64 (Sp.headR c vr)) ∧ Wk w' b (p + 1) (max d n) ∧ Below b w w' := by
  unfold tcells
  have HW : Hid (Wk w b p d) := hw
  clear hw
  have hh' := ne_bool hh
  clear hh
  go_enter Try.func35, Try.ntmps35
  go_wp2_with (first | (go_at_call 48; refine (enter_any b p d _ _ _ (wk_box HW.out _) hp (by omega)).mono ?_; rintro e w1 ⟨rfl, hw1⟩; obtain ⟨hx1, hk1, hb1⟩ := ent_facts HW.out hw1; obtain ⟨t0, t1, t2, t3, t4, t5, t6, t7, t8, t9, t10⟩ := tbox hx1; clear hw1 hx1; have HK1 : Hid _ := hk1; have HB1 : Hid _ := hb1; clear hk1 hb1) | (go_at_call 52; refine (headRule_any _ _ _ hs).mono ?_; rintro e w' ⟨rfl, rfl⟩))
  go_ret
  exact ⟨rfl, HK1.out, HB1.out⟩
end

set_option maxHeartbeats 1000000 in
theorem term_any (N : Nat) : TermC N := by
  induction N with
  | zero => intro t ht; cases t; simp [Tm.sz] at ht
  | succ N ih =>
    intro t hN b cs p d n w hw h hp hp' hn hn'
    cases t with
    | mk k bo i f tx by' rf l fs c vr =>
      have hlN : l.sz ≤ N ∧ fs.sz ≤ N := by simp [Tm.sz] at hN; omega
      simp only [Tm.In] at h
      obtain ⟨ab, cb, al, cl, af, cf, rfl, hbd, hby, hl, hfs⟩ := h
      have hcl : c.size ≤ maxLen := by unfold maxLen; have := hbd.c; omega
      by_cases he : Sp.ent k p n ≠ 0
      · rw [Tm.wk_ent he]; exact term_err bo i f tx ab _ cb rf al _ cl af _ cf c vr b p d n w k hw hp hp' he
      · have he := Decidable.not_not.1 he
        have hz := Sp.ent_zero he
        have HT : ∀ W, Below b w W → Wk W b (p + 1) (max d n) → Calls Try.prog 55 #[.pointer (some ⟨b, 0, none⟩), .slice al l.len cl, .int .i64 n] W fun e w' => e = .returned (.int .i64 (l.wkR n (p + 1) (max d n)).e) ∧ Wk w' b (l.wkR n (p + 1) (max d n)).p (l.wkR n (p + 1) (max d n)).d ∧ Below b W w' := fun W hW hk =>
          terms_any N ih l hlN.1 b al cl (p + 1) (max d n) n W hk (l.In_same (Same.of_below hW (Nat.le_refl _)) (fun _ h => h) al 0 hl) hbd.nl (by omega) (by omega) hn (by omega)
        have HF : ∀ W, Below b w W → Wk W b (p + 1) (max d n) → Calls Try.prog 56 #[.pointer (some ⟨b, 0, none⟩), .slice af fs.len cf, .int .i64 n] W fun e w' => e = .returned (.int .i64 (fs.wkR n (p + 1) (max d n)).e) ∧ Wk w' b (fs.wkR n (p + 1) (max d n)).p (fs.wkR n (p + 1) (max d n)).d ∧ Below b W w' := fun W hW hk =>
          entries_any N ih fs hlN.2 b af cf (p + 1) (max d n) n W hk (fs.In_same (Same.of_below hW (Nat.le_refl _)) (fun _ h => h) af 0 hfs) hbd.nf (by omega) (by omega) hn (by omega)
        by_cases k5 : k = 5
        · subst k5; rw [Tm.wk_5 he]; exact term_5 bo i f tx ab _ cb rf al _ cl af _ cf c vr b p d n w hw hp hp' he
        by_cases k6 : k = 6
        · subst k6; rw [Tm.wk_6 he]; exact term_6 bo i f tx ab _ cb rf al _ cl af _ cf c vr b p d n w hw hp hp' he
        by_cases k8 : k = 8
        · subst k8; rw [Tm.wk_8 he]; exact term_8 bo i f tx ab _ cb rf al _ cl af _ cf c vr b p d n w hw hp hp' he _ HT
        by_cases k9 : k = 9
        · subst k9; rw [Tm.wk_9 he]; exact term_9 bo i f tx ab _ cb rf al _ cl af _ cf c vr b p d n w hw hp hp' he _ HF
        by_cases k10 : k = 10
        · subst k10
          by_cases hh : Sp.headR c vr = 0
          · rw [Tm.wk_10 he hh]; exact term_10 bo i f tx ab _ cb rf al _ cl af _ cf c vr b p d n w hw hp hp' he hcl hh _ HF
          · rw [Tm.wk_10' he hh]; exact term_head bo i f tx ab _ cb rf al _ cl af _ cf c vr b p d n w hw hp hp' he hcl hh
        rw [Tm.wk_else he k5 k6 k8 k9 k10]; exact term_plain bo i f tx ab _ cb rf al _ cl af _ cf c vr b p d n w k hw hp hp' he k5 k6 k8 k9 k10
end Go.Proofs.Ytbaadndogikphaa
