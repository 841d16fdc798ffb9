/- bytes.Compare at what a reader took; the reader's fields where nothing is wrong. -/
import Derived.Test.YtkomcebknllaiaaK18
namespace Go.Proofs.Ytkomcebknllaiaa
open Go.RowKit

theorem load_rd (l : List Int) (a : Option Addr) (c : Nat) (S : Nat → Prop) (w : World) (ha : RdB w S a l) : (Extern.Bytes.bytesOf (.slice a l.length c)).run Try.prog w = .ok (Sp.txt l) w := by
  cases l with
  | nil => cases a <;> rfl
  | cons x l =>
    obtain ⟨g, o, rfl, _, _⟩ := ha 0 x rfl
    have h := Lib.run_loadBytesX (P := Try.prog) w (x :: l) ⟨g, o, none⟩ ByteArray.empty (fun j z hj => by
      obtain ⟨g', o', e, _, hc⟩ := ha j z hj
      simp only [Option.some.injEq, Addr.mk.injEq, and_true] at e
      obtain ⟨rfl, rfl⟩ := e
      rw [add_at]; exact hc)
    show (Extern.Bytes.loadBytes ⟨g, o, none⟩ (x :: l).length ByteArray.empty).run Try.prog w = _
    rw [h]
    simp [Sp.txt, strOfNums, Lib.bytesOf]
theorem bcmp_rd (x y : List Int) (a b : Option Addr) (c d : Nat) (S : Nat → Prop) (w : World) (ha : RdB w S a x) (hb : RdB w S b y) :
    (callFunc 116 #[.slice a x.length c, .slice b y.length d]).run Try.prog w = .ok (.value (.int .i64 (Sp.cmpS (Sp.txt x) (Sp.txt y)))) w := by
  rw [run_callFunc_extern Try.func116 (by kernel_rfl) (by kernel_rfl) (by kernel_rfl) (e := Extern.BytealgCompare.compare) (by kernel_rfl)]
  have e : (Extern.BytealgCompare.compare #[.slice a x.length c, .slice b y.length d]).run Try.prog w = .ok (.int .i64 (Sp.cmpS (Sp.txt x) (Sp.txt y))) w := by
    change Sem.run Try.prog (do pure (goInt (Extern.BytealgCompare.cmp (← Extern.Bytes.bytesOf (.slice a x.length c)) (← Extern.Bytes.bytesOf (.slice b y.length d))))) w = _
    simp only [Sem.run_bind, load_rd x a c S w ha, load_rd y b d S w hb, Result.andThen_ok, Sem.run_pure, Lib.cmp_eq]
    rfl
  rw [e]; rfl
set_option maxRecDepth 100000 in
set_option maxHeartbeats 400000 in
theorem bytesCmp_rd (x y : List Int) (a b : Option Addr) (c d m n : Nat) (hm : m = x.length) (hn : n = y.length) (S : Nat → Prop) (w : World) (ha : RdB w S a x) (hb : RdB w S b y) :
    Calls Try.prog 76 #[.slice a m c, .slice b n d] w fun e w' => e = .returned (.int .i64 (Sp.cmpS (Sp.txt x) (Sp.txt y))) ∧ w = w' := by
  subst hm
  subst hn
  have hr := bcmp_rd x y a b c d S w ha hb
  clear ha hb
  go_enter Try.func76, Try.ntmps76
  go_wp2
  go_ret
  exact ⟨rfl, rfl⟩

/-- the contract of the reader's value where it can be read, so deep -/
def VC (xs : List Int) (f : Nat) : Prop := ∀ (b : Nat) (a : Option Addr) (cap at' p : Nat) (t : Tm) (p2 a2 : Nat) (w : World) (d : Int), d = 65 - (f : Int) → Rdr w b a xs cap at' p → Sp.rdV xs f at' p = .ok (t, p2) a2 →
  Calls Try.prog 98 #[.pointer (some ⟨b, 0, none⟩), .int .i64 d] w fun e w' => e = .returned (.tuple #[]) ∧ Rdr w' b a xs cap a2 p2 ∧ But b w w'
theorem rn_ok {xs : List Int} {s : Nat} : ∀ k i n v a, Sp.rn xs s k i n = .ok v a → a ≤ xs.length
  | 0, i, n, v, a, h => by simp [Sp.rn] at h
  | k + 1, i, n, v, a, h => by
    rw [Sp.rn] at h
    cases hx : xs[s + i]? with
    | none => rw [hx] at h; simp at h
    | some c =>
      rw [hx] at h
      simp only at h
      have hl := (List.getElem?_eq_some_iff.1 hx).1
      split at h
      · simp at h
      · split at h
        · injection h with _ h; omega
        · exact rn_ok k _ _ v a h
theorem rdN_ok {xs : List Int} {at' start : Nat} {l : List Int} {a2 : Nat} (h : Sp.rdN xs at' start = .ok l a2) : ∃ n a, Sp.rn xs at' 10 0 0 = .ok n a ∧ n ≤ 32 ∧ a + n ≤ xs.length ∧ l = (xs.drop a).take n ∧ a2 = a + n ∧ Sp.isNm (Sp.txt l) = true := by
  unfold Sp.rdN at h
  cases hr : Sp.rn xs at' 10 0 0 with
  | bad q e => rw [hr] at h; simp at h
  | ok n a =>
    rw [hr] at h
    simp only at h
    split at h
    · simp at h
    · rename_i h32
      unfold Sp.tk at h
      split at h
      · simp at h
      · rename_i l' a' heq
        split at heq
        · rename_i hle
          injection heq with e1 e2
          subst e1; subst e2
          split at h
          · rename_i hnm
            injection h with e1 e2
            subst e1; subst e2
            exact ⟨n, a, rfl, by omega, hle, rfl, rfl, hnm⟩
          · simp at h
        · simp at heq
theorem cnt_ok {xs : List Int} {at' start most n a : Nat} (h : Sp.cnt xs at' start most = .ok n a) : Sp.rn xs at' 10 0 0 = .ok n a ∧ n ≤ most := by
  unfold Sp.cnt at h
  cases hr : Sp.rn xs at' 10 0 0 with
  | bad q e => rw [hr] at h; simp at h
  | ok n' a' =>
    rw [hr] at h
    simp only at h
    split at h
    · simp at h
    · injection h with e1 e2; subst e1; subst e2; exact ⟨rfl, by omega⟩

set_option maxRecDepth 100000 in
set_option maxHeartbeats 2000000 in
theorem dfields_ok (f : Nat) (xs : List Int) (hby : By xs) (HC : VC xs f) (start : Nat) (depth : Int) (hd : depth + 1 = 65 - (f : Int)) (hf : f ≤ 64) (b : Nat) (a : Option Addr) (cap at' p : Nat) (L : TmF) (p2 a2 : Nat) (w : World) (h : Rdr w b a xs cap at' p) (hr : Sp.rdD xs start (Sp.rdV xs f) at' p = .ok (L, p2) a2) :
    Calls Try.prog 121 #[.pointer (some ⟨b, 0, none⟩), .int .i64 (start : Int), .int .i64 depth] w fun e w' => e = .returned (.tuple #[]) ∧ Rdr w' b a xs cap a2 p2 ∧ But b w w' := by
  unfold Sp.rdD at hr
  cases hc : Sp.cnt xs at' start 4096 with
  | bad q e => rw [hc] at hr; simp at hr
  | ok n a1 =>
    rw [hc] at hr
    simp only at hr
    obtain ⟨hrn, hn4⟩ := cnt_ok hc
    have HCT : Hid (Calls Try.prog 120 #[.pointer (some ⟨b, 0, none⟩), .int .i64 (start : Int), .int .i64 4096] w fun e w' => e = .returned (.int .i64 (n : Int)) ∧ Rdr w' b a xs cap a1 p ∧ But b w w') := count_ok n a1 start 4096 b a xs cap at' p w h hby hrn hn4 (by decide)
    have HR : Hid (Sp.rdF xs start (Sp.rdV xs f) n [] a1 p = .ok (L, p2) a2) := hr
    have HCH : Hid (VC xs f ∧ By xs) := ⟨HC, hby⟩
    have hwd : IntKind.i64.wrap (depth + 1) = depth + 1 := Go.wrap_small _ (by omega) (by omega)
    clear h hr hc hrn HC hby
    go_enter Try.func121, Try.ntmps121
    go_wp2_with fail
    refine HCT.out.mono ?_
    rintro e w1 ⟨rfl, hr1, hb1⟩
    have HR1 : Hid (Rdr w1 b a xs cap a1 p ∧ But b w w1) := ⟨hr1, hb1⟩
    clear hr1 hb1 HCT
    go_wp2_with fail
    go_loopw [6, 11] (fun u x wr => ∃ (k j pp aa : Nat) (ahd : List Int) (l : TmF) (a9 : Option Addr) (m9 cap9 : Nat), u = .slice a9 m9 cap9 ∧ x = .int .i64 (k : Int) ∧ k + j = n ∧ Hid (m9 = ahd.length ∧ RdB wr (Lo b) a9 ahd ∧ Sp.rdF xs start (Sp.rdV xs f) j ahd aa pp = .ok (l, p2) a2 ∧ Rdr wr b a xs cap aa pp ∧ But b w wr)) (fun _ x _ => n - (intOf x).toNat)
    case atStart => exact ⟨0, n, p, a1, [], L, none, 0, 0, rfl, rfl, by omega, rfl, fun j u hu => by simp at hu, HR.out, HR1.out⟩
    case round =>
      obtain ⟨k, j, pp, aa, ahd, l, a9, m9, cap9, rfl, rfl, hkj, HI⟩ := hrel
      clear HR HR1
      cases j with
      | zero =>
        have h1 : ¬ ((k : Int) < (n : Int)) := by omega
        obtain ⟨_, _, hrf, hrd, hbl⟩ := HI.out
        rw [Sp.rdF] at hrf
        injection hrf with e1 e2
        injection e1 with e3 e4
        subst e4
        subst e2
        have HF : Hid (Rdr wr b a xs cap aa pp ∧ But b w wr) := ⟨hrd, hbl⟩
        clear hrd hbl HI
        go_wp2_with fail
        go_end0
        exact ⟨rfl, HF.out⟩
      | succ j =>
        have h1 : (k : Int) < (n : Int) := by omega
        obtain ⟨hm9, hrb, hrf, hrd, hbl⟩ := HI.out
        rw [Sp.rdF] at hrf
        cases hn : Sp.rdN xs aa start with
        | bad q e => rw [hn] at hrf; simp at hrf
        | ok nm a0 =>
          rw [hn] at hrf
          simp only at hrf
          by_cases hc : Sp.cmpS (Sp.txt nm) (Sp.txt ahd) ≤ 0
          · rw [if_pos hc] at hrf; simp at hrf
          · rw [if_neg hc] at hrf
            cases hv : Sp.rdV xs f a0 pp with
            | bad q e => rw [hv] at hrf; simp at hrf
            | ok tp av =>
              obtain ⟨t, p1⟩ := tp
              rw [hv] at hrf
              simp only at hrf
              cases hq : Sp.rdF xs start (Sp.rdV xs f) j nm av p1 with
              | bad q e => rw [hq] at hrf; simp at hrf
              | ok lp a3 =>
                obtain ⟨l3, p3⟩ := lp
                rw [hq] at hrf
                simp only at hrf
                injection hrf with e1 e2
                injection e1 with e3 e4
                subst e4
                subst e2
                obtain ⟨nn, an, hrn, hn32, hle, rfl, rfl, hnm⟩ := rdN_ok hn
                have HNM : Hid (Calls Try.prog 122 #[.pointer (some ⟨b, 0, none⟩), .int .i64 (start : Int)] wr fun e w' => ∃ a' cap', e = .returned (.slice a' nn cap') ∧ RdB w' (Lo b) a' ((xs.drop an).take nn) ∧ Rdr w' b a xs cap (an + nn) pp ∧ But b wr w') := rname_ok nn an start b a xs cap aa pp wr hrd HCH.out.2 hrn hn32 hle hnm
                have HLN : Hid (nn = ((xs.drop an).take nn).length) := by show _ = _; rw [List.length_take, List.length_drop]; omega
                have HVV : Hid (Sp.rdV xs f (an + nn) pp = .ok (t, p1) av) := hv
                have HQ : Hid (Sp.rdF xs start (Sp.rdV xs f) j ((xs.drop an).take nn) av p1 = .ok (l3, p3) a3) := hq
                have HCM : Hid (¬ Sp.cmpS (Sp.txt ((xs.drop an).take nn)) (Sp.txt ahd) ≤ 0) := hc
                have HBL : Hid (But b w wr) := hbl
                have HM9 : Hid (m9 = ahd.length ∧ RdB wr (Lo b) a9 ahd) := ⟨hm9, hrb⟩
                clear hm9 hrb hrd hbl HI hn hc hv hq hrn hnm hle
                go_wp2_with fail
                refine HNM.out.mono ?_
                rintro e w2 ⟨a7, cap7, rfl, hrd2, hr2, hb2⟩
                have HR2 : Hid (RdB w2 (Lo b) a7 ((xs.drop an).take nn) ∧ Rdr w2 b a xs cap (an + nn) pp ∧ But b wr w2) := ⟨hrd2, hr2, hb2⟩
                have HCP : Hid (Calls Try.prog 76 #[.slice a7 nn cap7, .slice a9 m9 cap9] w2 fun e w' => e = .returned (.int .i64 (Sp.cmpS (Sp.txt ((xs.drop an).take nn)) (Sp.txt ahd))) ∧ w2 = w') := bytesCmp_rd _ ahd a7 a9 cap7 cap9 nn m9 HLN.out HM9.out.1 (Lo b) w2 hrd2 (HM9.out.2.same hb2.same (fun _ h => h))
                clear hrd2 hr2 hb2 HNM
                generalize Sp.cmpS (Sp.txt ((xs.drop an).take nn)) (Sp.txt ahd) = cm at HCP HCM
                have hcm : ¬ cm ≤ 0 := by have := HCM.out; omega
                clear HCM
                go_wp2_with fail
                refine HCP.out.mono ?_
                rintro e w3 ⟨rfl, rfl⟩
                clear HCP
                go_wp2_with fail
                refine (HCH.out.1 b a cap (an + nn) pp t p1 av w2 _ (by omega) HR2.out.2.1 HVV.out).mono ?_
                rintro e w4 ⟨rfl, hr4, hb4⟩
                have HR4 : Hid (Rdr w4 b a xs cap av p1 ∧ But b w2 w4) := ⟨hr4, hb4⟩
                clear hr4 hb4
                go_wp2_with fail
                go_roundw
                case rel => exact ⟨k + 1, j, p1, av, (xs.drop an).take nn, l3, a7, nn, cap7, rfl, by go_num, by omega, HLN.out, HR2.out.1.same HR4.out.2.same (fun _ h => h), HQ.out, HR4.out.1, HBL.out.trans (HR2.out.2.2.trans HR4.out.2)⟩
                case measure => simp [intOf]; omega
end Go.Proofs.Ytkomcebknllaiaa

/- The reader's value where nothing is wrong, kind by kind. -/
namespace Go.Proofs.Ytkomcebknllaiaa
open Go.RowKit

section
variable (d : Int) (b : Nat) (a : Option Addr) (xs : List Int) (cap at' p : Nat) (w : World) (h : Rdr w b a xs cap at' p) (hp : p < 16384) (hd : d ≤ 64)
include h hp hd
set_option maxRecDepth 100000 in
set_option maxHeartbeats 2000000 in
theorem dval_1 (hx : xs[at']? = some 1) : Calls Try.prog 98 #[.pointer (some ⟨b, 0, none⟩), .int .i64 d] w fun e w' => e = .returned (.tuple #[]) ∧ Rdr w' b a xs cap (at' + 1) (p + 1) ∧ But b w w' := by
  have HK : Hid (Calls Try.prog 117 #[.pointer (some ⟨b, 0, none⟩), .int .i64 d] w fun e w' => e = .returned (.int .u8 1) ∧ Rdr w' b a xs cap (at' + 1) (p + 1) ∧ But b w w') := kind_ok 1 d b a xs cap at' p w h hx hp hd
  obtain ⟨c0, c1, c2, f1, f2, rd, cp, ln, le, np⟩ := h
  clear rd hx
  go_enter Try.func98, Try.ntmps98
  go_wp2_with fail
  refine HK.out.mono ?_
  rintro e w1 ⟨rfl, hr1, hb1⟩
  have HR1 : Hid (Rdr w1 b a xs cap (at' + 1) (p + 1) ∧ But b w w1) := ⟨hr1, hb1⟩
  clear hr1 hb1 HK
  go_wp2_with fail
  go_end0
  exact ⟨rfl, HR1.out⟩
set_option maxRecDepth 100000 in
set_option maxHeartbeats 2000000 in
theorem dval_2 (hx : xs[at']? = some 2) (c : Int) (hc : xs[at' + 1]? = some c) (hc1 : c ≤ 1) : Calls Try.prog 98 #[.pointer (some ⟨b, 0, none⟩), .int .i64 d] w fun e w' => e = .returned (.tuple #[]) ∧ Rdr w' b a xs cap (at' + 2) (p + 1) ∧ But b w w' := by
  have HX : Hid (xs[at' + 1]? = some c) := hc
  have HK : Hid (Calls Try.prog 117 #[.pointer (some ⟨b, 0, none⟩), .int .i64 d] w fun e w' => e = .returned (.int .u8 2) ∧ Rdr w' b a xs cap (at' + 1) (p + 1) ∧ But b w w') := kind_ok 2 d b a xs cap at' p w h hx hp hd
  obtain ⟨c0, c1, c2, f1, f2, rd, cp, ln, le, np⟩ := h
  clear rd hx hc
  go_enter Try.func98, Try.ntmps98
  go_wp2_with fail
  refine HK.out.mono ?_
  rintro e w1 ⟨rfl, hr1, hb1⟩
  have HR1 : Hid (Rdr w1 b a xs cap (at' + 1) (p + 1) ∧ But b w w1) := ⟨hr1, hb1⟩
  clear hr1 hb1 HK
  go_wp2_with fail
  refine (rbool_ok c b a xs cap (at' + 1) (p + 1) w1 HR1.out.1 HX.out hc1).mono ?_
  rintro e w2 ⟨rfl, hr2, hb2⟩
  have HR2 : Hid (Rdr w2 b a xs cap (at' + 2) (p + 1) ∧ But b w1 w2) := ⟨hr2, hb2⟩
  clear hr2 hb2
  go_wp2_with fail
  go_end0
  exact ⟨rfl, HR2.out.1, HR1.out.2.trans HR2.out.2⟩
set_option maxRecDepth 100000 in
set_option maxHeartbeats 2000000 in
theorem dval_3 (hx : xs[at']? = some 3) (hby : By xs) (n a2 : Nat) (hn : Sp.rn xs (at' + 1) 10 0 0 = .ok n a2) : Calls Try.prog 98 #[.pointer (some ⟨b, 0, none⟩), .int .i64 d] w fun e w' => e = .returned (.tuple #[]) ∧ Rdr w' b a xs cap a2 (p + 1) ∧ But b w w' := by
  have HX : Hid (By xs ∧ Sp.rn xs (at' + 1) 10 0 0 = .ok n a2) := ⟨hby, hn⟩
  have HK : Hid (Calls Try.prog 117 #[.pointer (some ⟨b, 0, none⟩), .int .i64 d] w fun e w' => e = .returned (.int .u8 3) ∧ Rdr w' b a xs cap (at' + 1) (p + 1) ∧ But b w w') := kind_ok 3 d b a xs cap at' p w h hx hp hd
  obtain ⟨c0, c1, c2, f1, f2, rd, cp, ln, le, np⟩ := h
  clear rd hx hby hn
  go_enter Try.func98, Try.ntmps98
  go_wp2_with fail
  refine HK.out.mono ?_
  rintro e w1 ⟨rfl, hr1, hb1⟩
  have HR1 : Hid (Rdr w1 b a xs cap (at' + 1) (p + 1) ∧ But b w w1) := ⟨hr1, hb1⟩
  clear hr1 hb1 HK
  go_wp2_with fail
  refine (rnumber_ok n a2 b a xs cap (at' + 1) (p + 1) w1 HR1.out.1 HX.out.1 HX.out.2).mono ?_
  rintro e w2 ⟨rfl, hr2, hb2⟩
  have HR2 : Hid (Rdr w2 b a xs cap a2 (p + 1) ∧ But b w1 w2) := ⟨hr2, hb2⟩
  clear hr2 hb2
  go_wp2_with fail
  go_end0
  exact ⟨rfl, HR2.out.1, HR1.out.2.trans HR2.out.2⟩
set_option maxRecDepth 100000 in
set_option maxHeartbeats 2000000 in
theorem dval_7 (hx : xs[at']? = some 7) (hby : By xs) (n a2 : Nat) (hn : Sp.rn xs (at' + 1) 10 0 0 = .ok n a2) : Calls Try.prog 98 #[.pointer (some ⟨b, 0, none⟩), .int .i64 d] w fun e w' => e = .returned (.tuple #[]) ∧ Rdr w' b a xs cap a2 (p + 1) ∧ But b w w' := by
  have HX : Hid (By xs ∧ Sp.rn xs (at' + 1) 10 0 0 = .ok n a2) := ⟨hby, hn⟩
  have HK : Hid (Calls Try.prog 117 #[.pointer (some ⟨b, 0, none⟩), .int .i64 d] w fun e w' => e = .returned (.int .u8 7) ∧ Rdr w' b a xs cap (at' + 1) (p + 1) ∧ But b w w') := kind_ok 7 d b a xs cap at' p w h hx hp hd
  obtain ⟨c0, c1, c2, f1, f2, rd, cp, ln, le, np⟩ := h
  clear rd hx hby hn
  go_enter Try.func98, Try.ntmps98
  go_wp2_with fail
  refine HK.out.mono ?_
  rintro e w1 ⟨rfl, hr1, hb1⟩
  have HR1 : Hid (Rdr w1 b a xs cap (at' + 1) (p + 1) ∧ But b w w1) := ⟨hr1, hb1⟩
  clear hr1 hb1 HK
  go_wp2_with fail
  refine (rnumber_ok n a2 b a xs cap (at' + 1) (p + 1) w1 HR1.out.1 HX.out.1 HX.out.2).mono ?_
  rintro e w2 ⟨rfl, hr2, hb2⟩
  have HR2 : Hid (Rdr w2 b a xs cap a2 (p + 1) ∧ But b w1 w2) := ⟨hr2, hb2⟩
  clear hr2 hb2
  go_wp2_with fail
  go_end0
  exact ⟨rfl, HR2.out.1, HR1.out.2.trans HR2.out.2⟩
set_option maxRecDepth 100000 in
set_option maxHeartbeats 2000000 in
theorem dval_4 (hx : xs[at']? = some 4) (hl : at' + 1 + 8 ≤ xs.length) : Calls Try.prog 98 #[.pointer (some ⟨b, 0, none⟩), .int .i64 d] w fun e w' => e = .returned (.tuple #[]) ∧ Rdr w' b a xs cap (at' + 1 + 8) (p + 1) ∧ But b w w' := by
  have HX : Hid (at' + 1 + 8 ≤ xs.length) := hl
  have HK : Hid (Calls Try.prog 117 #[.pointer (some ⟨b, 0, none⟩), .int .i64 d] w fun e w' => e = .returned (.int .u8 4) ∧ Rdr w' b a xs cap (at' + 1) (p + 1) ∧ But b w w') := kind_ok 4 d b a xs cap at' p w h hx hp hd
  obtain ⟨c0, c1, c2, f1, f2, rd, cp, ln, le, np⟩ := h
  clear rd hx hl
  go_enter Try.func98, Try.ntmps98
  go_wp2_with fail
  refine HK.out.mono ?_
  rintro e w1 ⟨rfl, hr1, hb1⟩
  have HR1 : Hid (Rdr w1 b a xs cap (at' + 1) (p + 1) ∧ But b w w1) := ⟨hr1, hb1⟩
  clear hr1 hb1 HK
  go_wp2_with fail
  refine (take_ok 8 b a xs cap (at' + 1) (p + 1) w1 HR1.out.1 HX.out).mono ?_
  rintro e w2 ⟨_, _, rfl, _, hr2, hb2⟩
  have HR2 : Hid (Rdr w2 b a xs cap (at' + 1 + 8) (p + 1) ∧ But b w1 w2) := ⟨hr2, hb2⟩
  clear hr2 hb2
  go_wp2_with fail
  go_end0
  exact ⟨rfl, HR2.out.1, HR1.out.2.trans HR2.out.2⟩
set_option maxRecDepth 100000 in
set_option maxHeartbeats 2000000 in
theorem dval_5 (hx : xs[at']? = some 5) (hby : By xs) (n a2 : Nat) (hn : Sp.rn xs (at' + 1) 10 0 0 = .ok n a2) (hm : n ≤ 65536) (hl : a2 + n ≤ xs.length) : Calls Try.prog 98 #[.pointer (some ⟨b, 0, none⟩), .int .i64 d] w fun e w' => e = .returned (.tuple #[]) ∧ Rdr w' b a xs cap (a2 + n) (p + 1) ∧ But b w w' := by
  have HX : Hid (By xs ∧ Sp.rn xs (at' + 1) 10 0 0 = .ok n a2 ∧ n ≤ 65536 ∧ a2 + n ≤ xs.length) := ⟨hby, hn, hm, hl⟩
  have HK : Hid (Calls Try.prog 117 #[.pointer (some ⟨b, 0, none⟩), .int .i64 d] w fun e w' => e = .returned (.int .u8 5) ∧ Rdr w' b a xs cap (at' + 1) (p + 1) ∧ But b w w') := kind_ok 5 d b a xs cap at' p w h hx hp hd
  obtain ⟨c0, c1, c2, f1, f2, rd, cp, ln, le, np⟩ := h
  clear rd hx hby hn hl
  go_enter Try.func98, Try.ntmps98
  go_wp2_with fail
  refine HK.out.mono ?_
  rintro e w1 ⟨rfl, hr1, hb1⟩
  have HR1 : Hid (Rdr w1 b a xs cap (at' + 1) (p + 1) ∧ But b w w1) := ⟨hr1, hb1⟩
  clear hr1 hb1 HK
  go_wp2_with fail
  refine (count_ok n a2 at' 65536 b a xs cap (at' + 1) (p + 1) w1 HR1.out.1 HX.out.1 HX.out.2.1 HX.out.2.2.1 (by decide)).mono ?_
  rintro e w3 ⟨rfl, hr3, hb3⟩
  have HR3 : Hid (Rdr w3 b a xs cap a2 (p + 1) ∧ But b w1 w3) := ⟨hr3, hb3⟩
  clear hr3 hb3
  go_wp2_with fail
  refine (take_ok n b a xs cap a2 (p + 1) w3 HR3.out.1 HX.out.2.2.2).mono ?_
  rintro e w2 ⟨_, _, rfl, _, hr2, hb2⟩
  have HR2 : Hid (Rdr w2 b a xs cap (a2 + n) (p + 1) ∧ But b w3 w2) := ⟨hr2, hb2⟩
  clear hr2 hb2
  go_wp2_with fail
  go_end0
  exact ⟨rfl, HR2.out.1, HR1.out.2.trans (HR3.out.2.trans HR2.out.2)⟩
set_option maxRecDepth 100000 in
set_option maxHeartbeats 2000000 in
theorem dval_6 (hx : xs[at']? = some 6) (hby : By xs) (n a2 : Nat) (hn : Sp.rn xs (at' + 1) 10 0 0 = .ok n a2) (hm : n ≤ 65536) (hl : a2 + n ≤ xs.length) : Calls Try.prog 98 #[.pointer (some ⟨b, 0, none⟩), .int .i64 d] w fun e w' => e = .returned (.tuple #[]) ∧ Rdr w' b a xs cap (a2 + n) (p + 1) ∧ But b w w' := by
  have HX : Hid (By xs ∧ Sp.rn xs (at' + 1) 10 0 0 = .ok n a2 ∧ n ≤ 65536 ∧ a2 + n ≤ xs.length) := ⟨hby, hn, hm, hl⟩
  have HK : Hid (Calls Try.prog 117 #[.pointer (some ⟨b, 0, none⟩), .int .i64 d] w fun e w' => e = .returned (.int .u8 6) ∧ Rdr w' b a xs cap (at' + 1) (p + 1) ∧ But b w w') := kind_ok 6 d b a xs cap at' p w h hx hp hd
  obtain ⟨c0, c1, c2, f1, f2, rd, cp, ln, le, np⟩ := h
  clear rd hx hby hn hl
  go_enter Try.func98, Try.ntmps98
  go_wp2_with fail
  refine HK.out.mono ?_
  rintro e w1 ⟨rfl, hr1, hb1⟩
  have HR1 : Hid (Rdr w1 b a xs cap (at' + 1) (p + 1) ∧ But b w w1) := ⟨hr1, hb1⟩
  clear hr1 hb1 HK
  go_wp2_with fail
  refine (count_ok n a2 at' 65536 b a xs cap (at' + 1) (p + 1) w1 HR1.out.1 HX.out.1 HX.out.2.1 HX.out.2.2.1 (by decide)).mono ?_
  rintro e w3 ⟨rfl, hr3, hb3⟩
  have HR3 : Hid (Rdr w3 b a xs cap a2 (p + 1) ∧ But b w1 w3) := ⟨hr3, hb3⟩
  clear hr3 hb3
  go_wp2_with fail
  refine (take_ok n b a xs cap a2 (p + 1) w3 HR3.out.1 HX.out.2.2.2).mono ?_
  rintro e w2 ⟨_, _, rfl, _, hr2, hb2⟩
  have HR2 : Hid (Rdr w2 b a xs cap (a2 + n) (p + 1) ∧ But b w3 w2) := ⟨hr2, hb2⟩
  clear hr2 hb2
  go_wp2_with fail
  go_end0
  exact ⟨rfl, HR2.out.1, HR1.out.2.trans (HR3.out.2.trans HR2.out.2)⟩
set_option maxRecDepth 100000 in
set_option maxHeartbeats 2000000 in
theorem dval_9 (hx : xs[at']? = some 9) (hby : By xs) (f : Nat) (HC : VC xs f) (hdf : d + 1 = 65 - (f : Int)) (hf : f ≤ 64) (L : TmF) (p2 a2 : Nat) (hr : Sp.rdD xs at' (Sp.rdV xs f) (at' + 1) (p + 1) = .ok (L, p2) a2) : Calls Try.prog 98 #[.pointer (some ⟨b, 0, none⟩), .int .i64 d] w fun e w' => e = .returned (.tuple #[]) ∧ Rdr w' b a xs cap a2 p2 ∧ But b w w' := by
  have HX : Hid (By xs ∧ VC xs f ∧ Sp.rdD xs at' (Sp.rdV xs f) (at' + 1) (p + 1) = .ok (L, p2) a2) := ⟨hby, HC, hr⟩
  have HK : Hid (Calls Try.prog 117 #[.pointer (some ⟨b, 0, none⟩), .int .i64 d] w fun e w' => e = .returned (.int .u8 9) ∧ Rdr w' b a xs cap (at' + 1) (p + 1) ∧ But b w w') := kind_ok 9 d b a xs cap at' p w h hx hp hd
  obtain ⟨c0, c1, c2, f1, f2, rd, cp, ln, le, np⟩ := h
  clear rd hx hby HC hr
  go_enter Try.func98, Try.ntmps98
  go_wp2_with fail
  refine HK.out.mono ?_
  rintro e w1 ⟨rfl, hr1, hb1⟩
  have HR1 : Hid (Rdr w1 b a xs cap (at' + 1) (p + 1) ∧ But b w w1) := ⟨hr1, hb1⟩
  clear hr1 hb1 HK
  go_wp2_with fail
  refine (dfields_ok f xs HX.out.1 HX.out.2.1 at' d hdf hf b a cap (at' + 1) (p + 1) L p2 a2 w1 HR1.out.1 HX.out.2.2).mono ?_
  rintro e w2 ⟨rfl, hr2, hb2⟩
  have HR2 : Hid (Rdr w2 b a xs cap a2 p2 ∧ But b w1 w2) := ⟨hr2, hb2⟩
  clear hr2 hb2
  go_wp2_with fail
  go_end0
  exact ⟨rfl, HR2.out.1, HR1.out.2.trans HR2.out.2⟩
set_option maxRecDepth 100000 in
set_option maxHeartbeats 2000000 in
theorem dval_10 (hx : xs[at']? = some 10) (hby : By xs) (f : Nat) (HC : VC xs f) (hdf : d + 1 = 65 - (f : Int)) (hf : f ≤ 64) (L : TmF) (p2 a2 : Nat) (n a3 v a4 : Nat) (hn : Sp.rn xs (at' + 1) 10 0 0 = .ok n a3) (hn32 : n ≤ 32) (hl : a3 + n ≤ xs.length) (hnm : Sp.isNm (Sp.txt ((xs.drop a3).take n)) = true) (hv : Sp.rn xs (a3 + n) 10 0 0 = .ok v a4) (hv1 : 1 ≤ v ∧ v ≤ 1000) (hr : Sp.rdD xs at' (Sp.rdV xs f) a4 (p + 1) = .ok (L, p2) a2) : Calls Try.prog 98 #[.pointer (some ⟨b, 0, none⟩), .int .i64 d] w fun e w' => e = .returned (.tuple #[]) ∧ Rdr w' b a xs cap a2 p2 ∧ But b w w' := by
  have HX : Hid (By xs ∧ VC xs f ∧ Sp.rdD xs at' (Sp.rdV xs f) a4 (p + 1) = .ok (L, p2) a2) := ⟨hby, HC, hr⟩
  have HY : Hid (Sp.rn xs (at' + 1) 10 0 0 = .ok n a3 ∧ a3 + n ≤ xs.length ∧ Sp.isNm (Sp.txt ((xs.drop a3).take n)) = true ∧ Sp.rn xs (a3 + n) 10 0 0 = .ok v a4) := ⟨hn, hl, hnm, hv⟩
  have HK : Hid (Calls Try.prog 117 #[.pointer (some ⟨b, 0, none⟩), .int .i64 d] w fun e w' => e = .returned (.int .u8 10) ∧ Rdr w' b a xs cap (at' + 1) (p + 1) ∧ But b w w') := kind_ok 10 d b a xs cap at' p w h hx hp hd
  obtain ⟨c0, c1, c2, f1, f2, rd, cp, ln, le, np⟩ := h
  clear rd hx hby HC hr hn hl hnm hv
  go_enter Try.func98, Try.ntmps98
  go_wp2_with fail
  refine HK.out.mono ?_
  rintro e w1 ⟨rfl, hr1, hb1⟩
  have HR1 : Hid (Rdr w1 b a xs cap (at' + 1) (p + 1) ∧ But b w w1) := ⟨hr1, hb1⟩
  clear hr1 hb1 HK
  go_wp2_with fail
  refine (rname_ok n a3 at' b a xs cap (at' + 1) (p + 1) w1 HR1.out.1 HX.out.1 HY.out.1 hn32 HY.out.2.1 HY.out.2.2.1).mono ?_
  rintro e w3 ⟨_, _, rfl, _, hr3, hb3⟩
  have HR3 : Hid (Rdr w3 b a xs cap (a3 + n) (p + 1) ∧ But b w1 w3) := ⟨hr3, hb3⟩
  clear hr3 hb3
  go_wp2_with fail
  refine (version_ok v a4 at' b a xs cap (a3 + n) (p + 1) w3 HR3.out.1 HX.out.1 HY.out.2.2.2 hv1).mono ?_
  rintro e w4 ⟨rfl, hr4, hb4⟩
  have HR4 : Hid (Rdr w4 b a xs cap a4 (p + 1) ∧ But b w3 w4) := ⟨hr4, hb4⟩
  clear hr4 hb4
  go_wp2_with fail
  refine (dfields_ok f xs HX.out.1 HX.out.2.1 at' d hdf hf b a cap a4 (p + 1) L p2 a2 w4 HR4.out.1 HX.out.2.2).mono ?_
  rintro e w2 ⟨rfl, hr2, hb2⟩
  have HR2 : Hid (Rdr w2 b a xs cap a2 p2 ∧ But b w4 w2) := ⟨hr2, hb2⟩
  clear hr2 hb2
  go_wp2_with fail
  go_end0
  exact ⟨rfl, HR2.out.1, HR1.out.2.trans (HR3.out.2.trans (HR4.out.2.trans HR2.out.2))⟩
end
end Go.Proofs.Ytkomcebknllaiaa
