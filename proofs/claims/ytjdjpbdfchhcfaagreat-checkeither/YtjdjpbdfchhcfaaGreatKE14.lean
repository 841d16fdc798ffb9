/- The Go walk through a term (package value: fieldsRule, walk.terms, walk.entries, walk.term) comes to the plain walk. -/
import Derived.Test.YtjdjpbdfchhcfaaGreatKE13
import Derived.Test.YtjdjpbdfchhcfaaGreatKE3
import Derived.Test.YtjdjpbdfchhcfaaGreatKE9
namespace Go.Proofs.YtjdjpbdfchhcfaaGreat
open Go.RowKit

set_option maxRecDepth 100000 in
set_option maxHeartbeats 400000 in
theorem entries1_any (nm : ByteArray) (k : Int) (b : Bool) (i : Int) (f : Nat) (tx : ByteArray) (vb : Value) (rf : Int) (vl vf : Value) (c : ByteArray) (vr : Int) (w : World) :
    Calls Tryz.prog 151 #[.agg #[.string nm, .int .i64 k, .bool b, .int .i64 i, .float .f64 f, .string tx, vb, .int .u64 rf, vl, vf, .string c, .int .i64 vr]] w fun e w' => e = .returned (.string nm) ∧ Below w.heap.size w w' := by
  go_enter Tryz.func151, Tryz.ntmps151
  go_wp2
  go_ret
  exact ⟨rfl, (Below.refl _ _).alloc (Nat.le_refl _) _⟩

set_option maxRecDepth 100000 in
set_option maxHeartbeats 1000000 in
theorem fieldsRuleE_any (fs : TmF) (a : Option Addr) (cap B : Nat) (w : World) (hB : B ≤ w.heap.size) (h : fs.In w (Lo B) a 0) (hlen : fs.len * 168 ≤ 140737488355328) :
    Calls Tryz.prog 150 #[.slice a fs.len cap, .func (.func 151) #[] #[]] w fun e w' => e = .returned (.int .i64 (Sp.fieldsR fs.names)) ∧ Below w.heap.size w w' := by
  by_cases hl : 4096 < fs.len
  · have hr : Sp.len (fs.len : Int) 4096 = 2 := by unfold Sp.len; rw [if_neg (by omega)]
    have H : Hid (Sp.fieldsR fs.names = 2) := by show _ = _; unfold Sp.fieldsR; rw [if_pos (by rw [TmF.names_len]; exact hl)]
    go_enter Tryz.func150, Tryz.ntmps150
    go_wp2_with (go_at_call 117; refine (lengthRule_any _ _ _).mono ?_; rintro e w' ⟨rfl, rfl⟩)
    go_ret
    exact ⟨ret_int H.out.symm, Below.refl _ _⟩
  · have hr : Sp.len (fs.len : Int) 4096 = 0 := by unfold Sp.len; rw [if_pos (by omega)]
    go_enter Tryz.func150, Tryz.ntmps150
    go_wp2_with (go_at_call 117; refine (lengthRule_any _ _ _).mono ?_; rintro e w' ⟨rfl, rfl⟩)
    go_loopw [6, 18] (fun ah i wr => ∃ (k : Nat) (l : TmF) (s : ByteArray), ah = .string s ∧ i = .int .i64 k ∧ l.len + k = fs.len ∧ Hid (l.In w (Lo B) a k) ∧ Hid (Sp.named ByteArray.empty fs.names = Sp.named s l.names) ∧ Hid (Below w.heap.size w wr)) (fun _ i _ => fs.len - (intOf i).toNat)
    case atStart => exact ⟨0, fs, _, rfl, rfl, rfl, h, rfl, Below.refl _ _⟩
    case round =>
      obtain ⟨k, l, s, rfl, rfl, hk, HV, HN, HB⟩ := hrel
      cases l with
      | nil =>
        have h1 : fs.len ≤ k := by simp [TmF.len] at hk; omega
        have H : Hid (Sp.fieldsR fs.names = 0) := by
          show _ = _; unfold Sp.fieldsR; rw [if_neg (by rw [TmF.names_len]; exact hl), HN.out]; simp [TmF.names, Sp.named]
        clear hk HN HV h
        go_wp2_with fail
        go_ret
        exact ⟨ret_int H.out.symm, HB.out⟩
      | cons n t l =>
        have hv := HV.out
        simp only [TmF.In] at hv
        obtain ⟨g, o, cs, rfl, hg, c0, hn, hc, ht, hv'⟩ := hv
        have hg : g < B := hg
        have hlt : k < fs.len := by simp [TmF.len] at hk; omega
        have HK : Hid (l.len + (k + 1) = fs.len) := by show _ = _; simp [TmF.len] at hk; omega
        have hcell : ∀ j, wr.cell? ⟨g, j, none⟩ = w.cell? ⟨g, j, none⟩ := fun j => HB.out.cell (p := ⟨g, j, none⟩) (by show g < _; omega)
        have d0 : wr.cell? ⟨g, o + k * 12, none⟩ = some (.string n) := by rw [hcell]; exact c0
        have HT : Hid (TmF.In w (Lo B) l (some ⟨g, o, none⟩) (k + 1)) := hv'
        obtain ⟨k1, b1, i1, f1, tx1, ab1, nb1, cb1, rf1, al1, nl1, cl1, af1, nf1, cf1, cc1, vr1, rfl⟩ := Tm.In_tc' ht
        obtain ⟨e0, e1, e2, e3, e4, e5, e6, e7, e8, e9, e10⟩ := eleven (w := wr) (g := g) (o := o + k * 12 + 1) (fun x hx => by rw [hcell]; exact hc x hx)
        have hn' : n.size ≤ maxLen := by unfold maxLen; omega
        have HG : Hid (∀ o w1, Below (wr.alloc o).heap.size (wr.alloc o) w1 → Below w.heap.size w w1) := fun o w1 h => (HB.out.alloc HB.out.size _).trans (h.mono (by simp; have := HB.out.size; omega))
        clear hk hv' ht c0 h HV hc hcell
        cases hnm : Sp.isNm n with
        | false =>
          have H : Hid (Sp.fieldsR fs.names = 8) := by
            show _ = _; unfold Sp.fieldsR; rw [if_neg (by rw [TmF.names_len]; exact hl), HN.out]; simp [TmF.names, Sp.named, hnm]
          go_wp2_with (first | (go_at_call 151; refine (entries1_any _ _ _ _ _ _ _ _ _ _ _ _ _).mono ?_; rintro e w1 ⟨rfl, hb1⟩) | (go_at_call 131; refine (isName_any _ _ hn').mono ?_; rintro e w' ⟨rfl, rfl⟩))
          go_ret
          exact ⟨ret_int H.out.symm, HG.out _ _ hb1⟩
        | true =>
          cases hle : Sp.leS n s with
          | true =>
            have H : Hid (Sp.fieldsR fs.names = 8) := by
              show _ = _; unfold Sp.fieldsR; rw [if_neg (by rw [TmF.names_len]; exact hl), HN.out]; simp [TmF.names, Sp.named, hnm, hle]
            unfold Sp.leS at hle
            go_wp2_with (first | (go_at_call 151; refine (entries1_any _ _ _ _ _ _ _ _ _ _ _ _ _).mono ?_; rintro e w1 ⟨rfl, hb1⟩) | (go_at_call 131; refine (isName_any _ _ hn').mono ?_; rintro e w' ⟨rfl, rfl⟩))
            go_ret
            exact ⟨ret_int H.out.symm, HG.out _ _ hb1⟩
          | false =>
            have H : Hid (Sp.named ByteArray.empty fs.names = Sp.named n l.names) := by
              show _ = _; rw [HN.out]; simp [TmF.names, Sp.named, hnm, hle]
            unfold Sp.leS at hle
            go_wp2_with (first | (go_at_call 151; refine (entries1_any _ _ _ _ _ _ _ _ _ _ _ _ _).mono ?_; rintro e w1 ⟨rfl, hb1⟩) | (go_at_call 131; refine (isName_any _ _ hn').mono ?_; rintro e w' ⟨rfl, rfl⟩))
            go_roundw
            case rel => exact ⟨k + 1, l, n, rfl, by go_num, HK.out, HT.out, H, HG.out _ _ hb1⟩
            case measure => simp [intOf]; omega
end Go.Proofs.YtjdjpbdfchhcfaaGreat

/- walk.terms and walk.entries. -/
namespace Go.Proofs.YtjdjpbdfchhcfaaGreat
open Go.RowKit

def TermC (N : Nat) : Prop := ∀ (t : Tm), t.sz ≤ N → ∀ (b : Nat) (cs : Array Value) (p d n : Int) (w : World), Wk w b p d → t.In w (Lo b) cs → 0 ≤ p → p ≤ 16384 → 1 ≤ n → n ≤ 65 →
  Calls Tryz.prog 126 #[.pointer (some ⟨b, 0, none⟩), .agg cs, .int .i64 n] w fun e w' => e = .returned (.int .i64 (t.wk n p d).e) ∧ Wk w' b (t.wk n p d).p (t.wk n p d).d ∧ Below b w w'

set_option maxRecDepth 100000 in
set_option maxHeartbeats 1000000 in
theorem terms_any (N : Nat) (HC : TermC N) (L : TmL) (hN : L.sz ≤ N) (b : Nat) (a : Option Addr) (cap : Nat) (p d n : Int) (w : World) (hw : Wk w b p d) (h : L.In w (Lo b) a 0) (hlen : L.len * 152 ≤ 140737488355328) (hp : 0 ≤ p) (hp' : p ≤ 16384) (hn : 1 ≤ n) (hn' : n ≤ 64) :
    Calls Tryz.prog 134 #[.pointer (some ⟨b, 0, none⟩), .slice a L.len cap, .int .i64 n] w fun e w' => e = .returned (.int .i64 (L.wkR n p d).e) ∧ Wk w' b (L.wkR n p d).p (L.wkR n p d).d ∧ Below b w w' := by
  by_cases hl : 4096 < L.len
  · have hr : Sp.len (L.len : Int) 4096 = 2 := by unfold Sp.len; rw [if_neg (by omega)]
    have H : Hid (L.wkR n p d = ⟨p, d, 2⟩) := by show _ = _; unfold TmL.wkR; rw [if_pos hl]
    clear h HC
    go_enter Tryz.func134, Tryz.ntmps134
    go_wp2_with (go_at_call 117; refine (lengthRule_any _ _ _).mono ?_; rintro e w' ⟨rfl, rfl⟩)
    go_ret
    rw [H.out]
    exact ⟨rfl, hw, Below.refl _ _⟩
  · have hr : Sp.len (L.len : Int) 4096 = 0 := by unfold Sp.len; rw [if_pos (by omega)]
    have H : Hid (L.wkR n p d = L.wk (n + 1) p d) := by show _ = _; unfold TmL.wkR; rw [if_neg hl]
    have HCH : Hid (TermC N) := HC
    have H0 : Hid (L.In w (Lo b) a 0 ∧ Wk w b p d) := ⟨h, hw⟩
    clear HC h hw
    go_enter Tryz.func134, Tryz.ntmps134
    go_wp2_with (go_at_call 117; refine (lengthRule_any _ _ _).mono ?_; rintro e w' ⟨rfl, rfl⟩)
    go_loopw [19] (fun i wr => ∃ (k : Nat) (l : TmL) (p' d' : Int), i = .int .i64 k ∧ l.len + k = L.len ∧ l.sz ≤ N ∧ 0 ≤ p' ∧ p' ≤ 16384 ∧ Hid (l.In w (Lo b) a k ∧ L.wk (n + 1) p d = l.wk (n + 1) p' d' ∧ Wk wr b p' d' ∧ Below b w wr)) (fun i _ => L.len - (intOf i).toNat)
    case atStart => exact ⟨0, L, p, d, rfl, rfl, hN, hp, hp', H0.out.1, rfl, H0.out.2, Below.refl _ _⟩
    case round =>
      obtain ⟨k, l, p', d', rfl, hk, hlN, hq, hq', HR⟩ := hrel
      clear H0
      cases l with
      | nil =>
        have h1 : L.len ≤ k := by simp [TmL.len] at hk; omega
        clear hk
        go_wp2_with fail
        go_ret
        rw [H.out, HR.out.2.1]
        exact ⟨rfl, HR.out.2.2.1, HR.out.2.2.2⟩
      | cons t l =>
        obtain ⟨hv, HE, hwr, hb⟩ := HR.out
        simp only [TmL.In] at hv
        obtain ⟨g, o, cs, rfl, hg, hc, ht, hv'⟩ := hv
        have hlt : k < L.len := by simp [TmL.len] at hk; omega
        have HK : Hid (l.len + (k + 1) = L.len) := by show _ = _; simp [TmL.len] at hk; omega
        have htN : t.sz ≤ N ∧ l.sz ≤ N := by simp [TmL.sz] at hlN; omega
        have hbl := hwr.lt
        have HT : Hid (TmL.In w (Lo b) l (some ⟨g, o, none⟩) (k + 1)) := hv'
        have HE : Hid _ := HE
        have hbd := t.wk_bd (n + 1) p' d' hq hq'
        have HO : Hid (∀ W, Below wr.heap.size wr W → Calls Tryz.prog 126 #[.pointer (some ⟨b, 0, none⟩), .agg cs, .int .i64 (n + 1)] W fun e w' => e = .returned (.int .i64 (t.wk (n + 1) p' d').e) ∧ Wk w' b (t.wk (n + 1) p' d').p (t.wk (n + 1) p' d').d ∧ Below b w w') := fun W hW =>
          (HCH.out t htN.1 b cs p' d' (n + 1) W (hwr.same (Same.of_below hW (Nat.le_refl _)) hbl) (t.In_same ((Same.of_below hb (Nat.le_refl _)).trans (Same.of_below hW (by omega))) (fun _ h => h) cs ht) hq hq' (by omega) (by omega)).mono fun e w' h => ⟨h.1, h.2.1, (hb.trans (hW.mono (by omega))).trans h.2.2⟩
        have hcell : ∀ j, wr.cell? ⟨g, j, none⟩ = w.cell? ⟨g, j, none⟩ := fun j => hb.cell (p := ⟨g, j, none⟩) hg
        obtain ⟨k1, b1, i1, f1, tx1, ab1, nb1, cb1, rf1, al1, nl1, cl1, af1, nf1, cf1, cc1, vr1, rfl⟩ := Tm.In_tc' ht
        obtain ⟨e0, e1, e2, e3, e4, e5, e6, e7, e8, e9, e10⟩ := eleven (w := wr) (g := g) (o := o + k * 11) (fun x hx => by rw [hcell]; exact hc x hx)
        unfold tcells at HO
        clear hk hv' ht hwr hb hlN hc hcell
        by_cases he : (t.wk (n + 1) p' d').e ≠ 0
        · have HR' : Hid (TmL.wk (.cons t l) (n + 1) p' d' = t.wk (n + 1) p' d') := by show _ = _; rw [TmL.wk, if_pos he]
          have he' := ne_bool he
          clear he
          go_wp2_with (go_at_call 126; refine (HO.out _ ((Below.refl _ _).alloc (Nat.le_refl _) _)).mono ?_; rintro e w1 ⟨rfl, hk1, hb1⟩)
          go_ret
          rw [H.out, HE.out, HR'.out]
          exact ⟨rfl, hk1, hb1⟩
        · have he0 : (t.wk (n + 1) p' d').e = 0 := Decidable.not_not.1 he
          have HR' : Hid (TmL.wk (.cons t l) (n + 1) p' d' = l.wk (n + 1) (t.wk (n + 1) p' d').p (t.wk (n + 1) p' d').d) := by show _ = _; rw [TmL.wk, if_neg he]
          have hpq := hbd.2.2 he0
          clear he
          go_wp2_with (go_at_call 126; refine (HO.out _ ((Below.refl _ _).alloc (Nat.le_refl _) _)).mono ?_; rintro e w1 ⟨rfl, hk1, hb1⟩)
          go_roundw
          case rel => exact ⟨k + 1, l, _, _, by go_num, HK.out, htN.2, by omega, hpq, HT.out, (HE.out.trans HR'.out), hk1, hb1⟩
          case measure => simp [intOf]; omega
end Go.Proofs.YtjdjpbdfchhcfaaGreat

/- walk.entries. -/
namespace Go.Proofs.YtjdjpbdfchhcfaaGreat
open Go.RowKit

set_option maxRecDepth 100000 in
set_option maxHeartbeats 1000000 in
theorem entries_any (N : Nat) (HC : TermC N) (L : TmF) (hN : L.sz ≤ N) (b : Nat) (a : Option Addr) (cap : Nat) (p d n : Int) (w : World) (hw : Wk w b p d) (h : L.In w (Lo b) a 0) (hlen : L.len * 168 ≤ 140737488355328) (hp : 0 ≤ p) (hp' : p ≤ 16384) (hn : 1 ≤ n) (hn' : n ≤ 64) :
    Calls Tryz.prog 135 #[.pointer (some ⟨b, 0, none⟩), .slice a L.len cap, .int .i64 n] w fun e w' => e = .returned (.int .i64 (L.wkR n p d).e) ∧ Wk w' b (L.wkR n p d).p (L.wkR n p d).d ∧ Below b w w' := by
  have hbw := hw.lt
  have HFR : Hid (Calls Tryz.prog 150 #[.slice a L.len cap, .func (.func 151) #[] #[]] w fun e w' => e = .returned (.int .i64 (Sp.fieldsR L.names)) ∧ Below w.heap.size w w') := fieldsRuleE_any L a cap b w (by omega) h hlen
  by_cases hl : Sp.fieldsR L.names ≠ 0
  · have hr := ne_bool hl
    have H : Hid (L.wkR n p d = ⟨p, d, Sp.fieldsR L.names⟩) := by show _ = _; unfold TmF.wkR; rw [if_pos hl]
    clear h HC hl
    go_enter Tryz.func135, Tryz.ntmps135
    go_wp2_with (go_at_call 150; refine HFR.out.mono ?_; rintro e w1 ⟨rfl, hb1⟩)
    go_ret
    rw [H.out]
    exact ⟨rfl, hw.same (Same.of_below hb1 (Nat.le_refl _)) hbw, hb1.mono (by omega)⟩
  · have hr : Sp.fieldsR L.names = 0 := Decidable.not_not.1 hl
    have H : Hid (L.wkR n p d = L.wk (n + 1) p d) := by show _ = _; unfold TmF.wkR; rw [if_neg hl]
    have HCH : Hid (TermC N) := HC
    have H0 : Hid (L.In w (Lo b) a 0 ∧ Wk w b p d) := ⟨h, hw⟩
    clear HC h hw
    go_enter Tryz.func135, Tryz.ntmps135
    go_wp2_with (go_at_call 150; refine HFR.out.mono ?_; rintro e w1 ⟨rfl, hb1⟩)
    have HW1 : Hid (Wk w1 b p d ∧ Below b w w1) := ⟨H0.out.2.same (Same.of_below hb1 (Nat.le_refl _)) hbw, hb1.mono (by omega)⟩
    clear hb1
    go_loopw [18] (fun i wr => ∃ (k : Nat) (l : TmF) (p' d' : Int), i = .int .i64 k ∧ l.len + k = L.len ∧ l.sz ≤ N ∧ 0 ≤ p' ∧ p' ≤ 16384 ∧ Hid (l.In w (Lo b) a k ∧ L.wk (n + 1) p d = l.wk (n + 1) p' d' ∧ Wk wr b p' d' ∧ Below b w wr)) (fun i _ => L.len - (intOf i).toNat)
    case atStart => exact ⟨0, L, p, d, rfl, rfl, hN, hp, hp', H0.out.1, rfl, HW1.out.1, HW1.out.2⟩
    case round =>
      obtain ⟨k, l, p', d', rfl, hk, hlN, hq, hq', HR⟩ := hrel
      clear H0 HW1 HFR
      cases l with
      | nil =>
        have h1 : L.len ≤ k := by simp [TmF.len] at hk; omega
        clear hk
        go_wp2_with fail
        go_ret
        rw [H.out, HR.out.2.1]
        exact ⟨rfl, HR.out.2.2.1, HR.out.2.2.2⟩
      | cons nm t l =>
        obtain ⟨hv, HE, hwr, hb⟩ := HR.out
        simp only [TmF.In] at hv
        obtain ⟨g, o, cs, rfl, hg, hnc, _, hc, ht, hv'⟩ := hv
        have hlt : k < L.len := by simp [TmF.len] at hk; omega
        have HK : Hid (l.len + (k + 1) = L.len) := by show _ = _; simp [TmF.len] at hk; omega
        have htN : t.sz ≤ N ∧ l.sz ≤ N := by simp [TmF.sz] at hlN; omega
        have hbl := hwr.lt
        have HT : Hid (TmF.In w (Lo b) l (some ⟨g, o, none⟩) (k + 1)) := hv'
        have HE : Hid _ := HE
        have hbd := t.wk_bd (n + 1) p' d' hq hq'
        have HO : Hid (∀ W, Below wr.heap.size wr W → Calls Tryz.prog 126 #[.pointer (some ⟨b, 0, none⟩), .agg cs, .int .i64 (n + 1)] W fun e w' => e = .returned (.int .i64 (t.wk (n + 1) p' d').e) ∧ Wk w' b (t.wk (n + 1) p' d').p (t.wk (n + 1) p' d').d ∧ Below b w w') := fun W hW =>
          (HCH.out t htN.1 b cs p' d' (n + 1) W (hwr.same (Same.of_below hW (Nat.le_refl _)) hbl) (t.In_same ((Same.of_below hb (Nat.le_refl _)).trans (Same.of_below hW (by omega))) (fun _ h => h) cs ht) hq hq' (by omega) (by omega)).mono fun e w' h => ⟨h.1, h.2.1, (hb.trans (hW.mono (by omega))).trans h.2.2⟩
        have hcell : ∀ j, wr.cell? ⟨g, j, none⟩ = w.cell? ⟨g, j, none⟩ := fun j => hb.cell (p := ⟨g, j, none⟩) hg
        obtain ⟨k1, b1, i1, f1, tx1, ab1, nb1, cb1, rf1, al1, nl1, cl1, af1, nf1, cf1, cc1, vr1, rfl⟩ := Tm.In_tc' ht
        obtain ⟨e0, e1, e2, e3, e4, e5, e6, e7, e8, e9, e10⟩ := eleven (w := wr) (g := g) (o := o + k * 12 + 1) (fun x hx => by rw [hcell]; exact hc x hx)
        have en : wr.cell? ⟨g, o + k * 12, none⟩ = some (.string nm) := by rw [hcell]; exact hnc
        unfold tcells at HO
        clear hk hv' ht hwr hb hlN hc hcell hnc
        by_cases he : (t.wk (n + 1) p' d').e ≠ 0
        · have HR' : Hid (TmF.wk (.cons nm t l) (n + 1) p' d' = t.wk (n + 1) p' d') := by show _ = _; rw [TmF.wk, if_pos he]
          have he' := ne_bool he
          clear he
          go_wp2_with (go_at_call 126; refine (HO.out _ ((Below.refl _ _).alloc (Nat.le_refl _) _)).mono ?_; rintro e w2 ⟨rfl, hk1, hb1⟩)
          go_ret
          rw [H.out, HE.out, HR'.out]
          exact ⟨rfl, hk1, hb1⟩
        · have he0 : (t.wk (n + 1) p' d').e = 0 := Decidable.not_not.1 he
          have HR' : Hid (TmF.wk (.cons nm t l) (n + 1) p' d' = l.wk (n + 1) (t.wk (n + 1) p' d').p (t.wk (n + 1) p' d').d) := by show _ = _; rw [TmF.wk, if_neg he]
          have hpq := hbd.2.2 he0
          clear he
          go_wp2_with (go_at_call 126; refine (HO.out _ ((Below.refl _ _).alloc (Nat.le_refl _) _)).mono ?_; rintro e w2 ⟨rfl, hk1, hb1⟩)
          go_roundw
          case rel => exact ⟨k + 1, l, _, _, by go_num, HK.out, htN.2, by omega, hpq, HT.out, (HE.out.trans HR'.out), hk1, hb1⟩
          case measure => simp [intOf]; omega
end Go.Proofs.YtjdjpbdfchhcfaaGreat

