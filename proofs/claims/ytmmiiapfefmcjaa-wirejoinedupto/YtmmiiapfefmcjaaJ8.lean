/- Reading values, plainly: the term that bytes begin with, or at which place they are wrong, and why. -/
import Derived.Test.YtmmiiapfefmcjaaJ7
namespace Go.Proofs.Ytmmiiapfefmcjaa
open Go.RowKit

/-- a term that has no parts, of one kind -/
def lfT (k : Int) (b : Bool) (i : Int) (f : Nat) (tx by' : ByteArray) (rf : Int) : Tm := .mk k b i f tx by' rf .nil .nil ByteArray.empty 0
namespace Sp
/-- the number of which fold made this one -/
def unfold' (n : Nat) : Int := if n % 2 = 1 then -((n / 2 : Nat) : Int) - 1 else ((n / 2 : Nat) : Int)
/-- how many there are -/
def cnt (xs : List Int) (at' start most : Nat) : Rs Nat := match rn xs at' 10 0 0 with
  | .bad q e => .bad q e
  | .ok n a => if most < n then .bad start 2 else .ok n a
/-- so many bytes -/
def tk (xs : List Int) (at' n : Nat) : Rs (List Int) := if at' + n ≤ xs.length then .ok ((xs.drop at').take n) (at' + n) else .bad xs.length 4
/-- a name of the part that begins at start -/
def rdN (xs : List Int) (at' start : Nat) : Rs (List Int) := match rn xs at' 10 0 0 with
  | .bad q e => .bad q e
  | .ok n a => if 32 < n then .bad start 8 else match tk xs a n with
    | .bad q e => .bad q e
    | .ok l a2 => if isNm (txt l) then .ok l a2 else .bad start 8
/-- n values, one behind the other -/
def rdL (step : Nat → Nat → Rs (Tm × Nat)) : Nat → Nat → Nat → Rs (TmL × Nat)
  | 0, at', p => .ok (.nil, p) at'
  | n + 1, at', p => match step at' p with
    | .bad q e => .bad q e
    | .ok (t, p1) a1 => match rdL step n a1 p1 with
      | .bad q e => .bad q e
      | .ok (l, p2) a2 => .ok (.cons t l, p2) a2
/-- n fields of the part that begins at start, each name above the one ahead -/
def rdF (xs : List Int) (start : Nat) (step : Nat → Nat → Rs (Tm × Nat)) : Nat → List Int → Nat → Nat → Rs (TmF × Nat)
  | 0, _, at', p => .ok (.nil, p) at'
  | n + 1, ahead, at', p => match rdN xs at' start with
    | .bad q e => .bad q e
    | .ok nm a0 => if cmpS (txt nm) (txt ahead) ≤ 0 then .bad start 8 else match step a0 p with
      | .bad q e => .bad q e
      | .ok (t, p1) a1 => match rdF xs start step n nm a1 p1 with
        | .bad q e => .bad q e
        | .ok (l, p2) a2 => .ok (.cons (txt nm) t l, p2) a2
/-- fields with their number ahead -/
def rdD (xs : List Int) (start : Nat) (step : Nat → Nat → Rs (Tm × Nat)) (at' p : Nat) : Rs (TmF × Nat) := match cnt xs at' start 4096 with
  | .bad q e => .bad q e
  | .ok n a => rdF xs start step n [] a p
/-- what stands behind a value's first byte k, which stands at s -/
def rdB (xs : List Int) (step : Nat → Nat → Rs (Tm × Nat)) (k : Int) (s p : Nat) : Rs (Tm × Nat) :=
  if k = 1 then .ok (lfT 1 false 0 0 ByteArray.empty ByteArray.empty 0, p) (s + 1)
  else if k = 2 then match xs[s + 1]? with
    | none => .bad xs.length 4
    | some c => if 1 < c then .bad (s + 1) 30 else .ok (lfT 2 (c == 1) 0 0 ByteArray.empty ByteArray.empty 0, p) (s + 2)
  else if k = 3 then match rn xs (s + 1) 10 0 0 with
    | .bad q e => .bad q e
    | .ok n a => .ok (lfT 3 false (unfold' n) 0 ByteArray.empty ByteArray.empty 0, p) a
  else if k = 4 then match tk xs (s + 1) 8 with
    | .bad q e => .bad q e
    | .ok l a => .ok (lfT 4 false 0 (l.foldl (fun n x => n * 256 + x.toNat) 0) ByteArray.empty ByteArray.empty 0, p) a
  else if k = 5 ∨ k = 6 then match cnt xs (s + 1) s 65536 with
    | .bad q e => .bad q e
    | .ok n a => match tk xs a n with
      | .bad q e => .bad q e
      | .ok l a2 => .ok (lfT k false 0 0 (if k = 5 then txt l else ByteArray.empty) (if k = 6 then txt l else ByteArray.empty) 0, p) a2
  else if k = 7 then match rn xs (s + 1) 10 0 0 with
    | .bad q e => .bad q e
    | .ok n a => .ok (lfT 7 false 0 0 ByteArray.empty ByteArray.empty n, p) a
  else if k = 8 then match cnt xs (s + 1) s 4096 with
    | .bad q e => .bad q e
    | .ok n a => match rdL step n a p with
      | .bad q e => .bad q e
      | .ok (l, p2) a2 => .ok (.mk 8 false 0 0 ByteArray.empty ByteArray.empty 0 l .nil ByteArray.empty 0, p2) a2
  else if k = 9 then match rdD xs s step (s + 1) p with
    | .bad q e => .bad q e
    | .ok (l, p2) a2 => .ok (.mk 9 false 0 0 ByteArray.empty ByteArray.empty 0 .nil l ByteArray.empty 0, p2) a2
  else if k = 10 then match rdN xs (s + 1) s with
    | .bad q e => .bad q e
    | .ok c a => match rn xs a 10 0 0 with
      | .bad q e => .bad q e
      | .ok v a1 => if v < 1 ∨ 1000 < v then .bad s 1 else match rdD xs s step a1 p with
        | .bad q e => .bad q e
        | .ok (l, p2) a2 => .ok (.mk 10 false 0 0 ByteArray.empty ByteArray.empty 0 .nil l (txt c) v, p2) a2
  else .bad s 30
/-- the value that begins at at', p parts having begun; it may lie f deep from here on -/
def rdV (xs : List Int) : Nat → Nat → Nat → Rs (Tm × Nat)
  | 0, at', _ => if xs.length ≤ at' then .bad xs.length 4 else .bad at' 2
  | f + 1, at', p => match xs[at']? with
    | none => .bad xs.length 4
    | some k => if 16384 ≤ p then .bad at' 2 else rdB xs (rdV xs f) k at' (p + 1)
end Sp
end Go.Proofs.Ytmmiiapfefmcjaa

/- bytes.Compare at what a reader took; the reader's fields where nothing is wrong. -/
namespace Go.Proofs.Ytmmiiapfefmcjaa
open Go.RowKit

theorem load_rd (l : List Int) (a : Option Addr) (c : Nat) (S : Nat → Prop) (w : World) (ha : RdB w S a l) : (Extern.Bytes.bytesOf (.slice a l.length c)).run Try.prog w = .ok (Sp.txt l) w := by
  cases l with
  | nil => cases a <;> rfl
  | cons x l =>
    obtain ⟨g, o, rfl, _, _⟩ := ha 0 x rfl
    have h := Lib.run_loadBytesX (P := Try.prog) w (x :: l) ⟨g, o, none⟩ ByteArray.empty (fun j z hj => by
      obtain ⟨g', o', e, _, hc⟩ := ha j z hj
      simp only [Option.some.injEq, Addr.mk.injEq, and_true] at e
      obtain ⟨rfl, rfl⟩ := e
      rw [add_at]; exact hc)
    show (Extern.Bytes.loadBytes ⟨g, o, none⟩ (x :: l).length ByteArray.empty).run Try.prog w = _
    rw [h]
    simp [Sp.txt, strOfNums, Lib.bytesOf]
theorem bcmp_rd (x y : List Int) (a b : Option Addr) (c d : Nat) (S : Nat → Prop) (w : World) (ha : RdB w S a x) (hb : RdB w S b y) :
    (callFunc 109 #[.slice a x.length c, .slice b y.length d]).run Try.prog w = .ok (.value (.int .i64 (Sp.cmpS (Sp.txt x) (Sp.txt y)))) w := by
  rw [run_callFunc_extern Try.func109 (by kernel_rfl) (by kernel_rfl) (by kernel_rfl) (e := Extern.BytealgCompare.compare) (by kernel_rfl)]
  have e : (Extern.BytealgCompare.compare #[.slice a x.length c, .slice b y.length d]).run Try.prog w = .ok (.int .i64 (Sp.cmpS (Sp.txt x) (Sp.txt y))) w := by
    change Sem.run Try.prog (do pure (goInt (Extern.BytealgCompare.cmp (← Extern.Bytes.bytesOf (.slice a x.length c)) (← Extern.Bytes.bytesOf (.slice b y.length d))))) w = _
    simp only [Sem.run_bind, load_rd x a c S w ha, load_rd y b d S w hb, Result.andThen_ok, Sem.run_pure, Lib.cmp_eq]
    rfl
  rw [e]; rfl
set_option maxRecDepth 100000 in
set_option maxHeartbeats 400000 in
theorem bytesCmp_rd (x y : List Int) (a b : Option Addr) (c d m n : Nat) (hm : m = x.length) (hn : n = y.length) (S : Nat → Prop) (w : World) (ha : RdB w S a x) (hb : RdB w S b y) :
    Calls Try.prog 72 #[.slice a m c, .slice b n d] w fun e w' => e = .returned (.int .i64 (Sp.cmpS (Sp.txt x) (Sp.txt y))) ∧ w = w' := by
  subst hm
  subst hn
  have hr := bcmp_rd x y a b c d S w ha hb
  clear ha hb
  go_enter Try.func72, Try.ntmps72
  go_wp2
  go_ret
  exact ⟨rfl, rfl⟩

/-- the contract of the reader's value where it can be read, so deep -/
def VC (xs : List Int) (f : Nat) : Prop := ∀ (b : Nat) (a : Option Addr) (cap at' p : Nat) (t : Tm) (p2 a2 : Nat) (w : World) (d : Int), d = 65 - (f : Int) → Rdr w b a xs cap at' p → Sp.rdV xs f at' p = .ok (t, p2) a2 →
  Calls Try.prog 83 #[.pointer (some ⟨b, 0, none⟩), .int .i64 d] w fun e w' => e = .returned (.tuple #[]) ∧ Rdr w' b a xs cap a2 p2 ∧ But b w w'
theorem rdN_ok {xs : List Int} {at' start : Nat} {l : List Int} {a2 : Nat} (h : Sp.rdN xs at' start = .ok l a2) : ∃ n a, Sp.rn xs at' 10 0 0 = .ok n a ∧ n ≤ 32 ∧ a + n ≤ xs.length ∧ l = (xs.drop a).take n ∧ a2 = a + n ∧ Sp.isNm (Sp.txt l) = true := by
  unfold Sp.rdN at h
  cases hr : Sp.rn xs at' 10 0 0 with
  | bad q e => rw [hr] at h; simp at h
  | ok n a =>
    rw [hr] at h
    simp only at h
    split at h
    · simp at h
    · rename_i h32
      unfold Sp.tk at h
      split at h
      · simp at h
      · rename_i l' a' heq
        split at heq
        · rename_i hle
          injection heq with e1 e2
          subst e1; subst e2
          split at h
          · rename_i hnm
            injection h with e1 e2
            subst e1; subst e2
            exact ⟨n, a, rfl, by omega, hle, rfl, rfl, hnm⟩
          · simp at h
        · simp at heq
theorem cnt_ok {xs : List Int} {at' start most n a : Nat} (h : Sp.cnt xs at' start most = .ok n a) : Sp.rn xs at' 10 0 0 = .ok n a ∧ n ≤ most := by
  unfold Sp.cnt at h
  cases hr : Sp.rn xs at' 10 0 0 with
  | bad q e => rw [hr] at h; simp at h
  | ok n' a' =>
    rw [hr] at h
    simp only at h
    split at h
    · simp at h
    · injection h with e1 e2; subst e1; subst e2; exact ⟨rfl, by omega⟩

set_option maxRecDepth 100000 in
set_option maxHeartbeats 2000000 in
theorem dfields_ok (f : Nat) (xs : List Int) (hby : By xs) (HC : VC xs f) (start : Nat) (depth : Int) (hd : depth + 1 = 65 - (f : Int)) (hf : f ≤ 64) (b : Nat) (a : Option Addr) (cap at' p : Nat) (L : TmF) (p2 a2 : Nat) (w : World) (h : Rdr w b a xs cap at' p) (hr : Sp.rdD xs start (Sp.rdV xs f) at' p = .ok (L, p2) a2) :
    Calls Try.prog 114 #[.pointer (some ⟨b, 0, none⟩), .int .i64 (start : Int), .int .i64 depth] w fun e w' => e = .returned (.tuple #[]) ∧ Rdr w' b a xs cap a2 p2 ∧ But b w w' := by
  unfold Sp.rdD at hr
  cases hc : Sp.cnt xs at' start 4096 with
  | bad q e => rw [hc] at hr; simp at hr
  | ok n a1 =>
    rw [hc] at hr
    simp only at hr
    obtain ⟨hrn, hn4⟩ := cnt_ok hc
    have HCT : Hid (Calls Try.prog 113 #[.pointer (some ⟨b, 0, none⟩), .int .i64 (start : Int), .int .i64 4096] w fun e w' => e = .returned (.int .i64 (n : Int)) ∧ Rdr w' b a xs cap a1 p ∧ But b w w') := count_ok n a1 start 4096 b a xs cap at' p w h hby hrn hn4 (by decide)
    have HR : Hid (Sp.rdF xs start (Sp.rdV xs f) n [] a1 p = .ok (L, p2) a2) := hr
    have HCH : Hid (VC xs f ∧ By xs) := ⟨HC, hby⟩
    have hwd : IntKind.i64.wrap (depth + 1) = depth + 1 := Go.wrap_small _ (by omega) (by omega)
    clear h hr hc hrn HC hby
    go_enter Try.func114, Try.ntmps114
    go_wp2_with fail
    refine HCT.out.mono ?_
    rintro e w1 ⟨rfl, hr1, hb1⟩
    have HR1 : Hid (Rdr w1 b a xs cap a1 p ∧ But b w w1) := ⟨hr1, hb1⟩
    clear hr1 hb1 HCT
    go_wp2_with fail
    go_loopw [6, 11] (fun u x wr => ∃ (k j pp aa : Nat) (ahd : List Int) (l : TmF) (a9 : Option Addr) (m9 cap9 : Nat), u = .slice a9 m9 cap9 ∧ x = .int .i64 (k : Int) ∧ k + j = n ∧ Hid (m9 = ahd.length ∧ RdB wr (Lo b) a9 ahd ∧ Sp.rdF xs start (Sp.rdV xs f) j ahd aa pp = .ok (l, p2) a2 ∧ Rdr wr b a xs cap aa pp ∧ But b w wr)) (fun _ x _ => n - (intOf x).toNat)
    case atStart => exact ⟨0, n, p, a1, [], L, none, 0, 0, rfl, rfl, by omega, rfl, fun j u hu => by simp at hu, HR.out, HR1.out⟩
    case round =>
      obtain ⟨k, j, pp, aa, ahd, l, a9, m9, cap9, rfl, rfl, hkj, HI⟩ := hrel
      clear HR HR1
      cases j with
      | zero =>
        have h1 : ¬ ((k : Int) < (n : Int)) := by omega
        obtain ⟨_, _, hrf, hrd, hbl⟩ := HI.out
        rw [Sp.rdF] at hrf
        injection hrf with e1 e2
        injection e1 with e3 e4
        subst e4
        subst e2
        have HF : Hid (Rdr wr b a xs cap aa pp ∧ But b w wr) := ⟨hrd, hbl⟩
        clear hrd hbl HI
        go_wp2_with fail
        go_end0
        exact ⟨rfl, HF.out⟩
      | succ j =>
        have h1 : (k : Int) < (n : Int) := by omega
        obtain ⟨hm9, hrb, hrf, hrd, hbl⟩ := HI.out
        rw [Sp.rdF] at hrf
        cases hn : Sp.rdN xs aa start with
        | bad q e => rw [hn] at hrf; simp at hrf
        | ok nm a0 =>
          rw [hn] at hrf
          simp only at hrf
          by_cases hc : Sp.cmpS (Sp.txt nm) (Sp.txt ahd) ≤ 0
          · rw [if_pos hc] at hrf; simp at hrf
          · rw [if_neg hc] at hrf
            cases hv : Sp.rdV xs f a0 pp with
            | bad q e => rw [hv] at hrf; simp at hrf
            | ok tp av =>
              obtain ⟨t, p1⟩ := tp
              rw [hv] at hrf
              simp only at hrf
              cases hq : Sp.rdF xs start (Sp.rdV xs f) j nm av p1 with
              | bad q e => rw [hq] at hrf; simp at hrf
              | ok lp a3 =>
                obtain ⟨l3, p3⟩ := lp
                rw [hq] at hrf
                simp only at hrf
                injection hrf with e1 e2
                injection e1 with e3 e4
                subst e4
                subst e2
                obtain ⟨nn, an, hrn, hn32, hle, rfl, rfl, hnm⟩ := rdN_ok hn
                have HNM : Hid (Calls Try.prog 115 #[.pointer (some ⟨b, 0, none⟩), .int .i64 (start : Int)] wr fun e w' => ∃ a' cap', e = .returned (.slice a' nn cap') ∧ RdB w' (Lo b) a' ((xs.drop an).take nn) ∧ Rdr w' b a xs cap (an + nn) pp ∧ But b wr w') := rname_ok nn an start b a xs cap aa pp wr hrd HCH.out.2 hrn hn32 hle hnm
                have HLN : Hid (nn = ((xs.drop an).take nn).length) := by show _ = _; rw [List.length_take, List.length_drop]; omega
                have HVV : Hid (Sp.rdV xs f (an + nn) pp = .ok (t, p1) av) := hv
                have HQ : Hid (Sp.rdF xs start (Sp.rdV xs f) j ((xs.drop an).take nn) av p1 = .ok (l3, p3) a3) := hq
                have HCM : Hid (¬ Sp.cmpS (Sp.txt ((xs.drop an).take nn)) (Sp.txt ahd) ≤ 0) := hc
                have HBL : Hid (But b w wr) := hbl
                have HM9 : Hid (m9 = ahd.length ∧ RdB wr (Lo b) a9 ahd) := ⟨hm9, hrb⟩
                clear hm9 hrb hrd hbl HI hn hc hv hq hrn hnm hle
                go_wp2_with fail
                refine HNM.out.mono ?_
                rintro e w2 ⟨a7, cap7, rfl, hrd2, hr2, hb2⟩
                have HR2 : Hid (RdB w2 (Lo b) a7 ((xs.drop an).take nn) ∧ Rdr w2 b a xs cap (an + nn) pp ∧ But b wr w2) := ⟨hrd2, hr2, hb2⟩
                have HCP : Hid (Calls Try.prog 72 #[.slice a7 nn cap7, .slice a9 m9 cap9] w2 fun e w' => e = .returned (.int .i64 (Sp.cmpS (Sp.txt ((xs.drop an).take nn)) (Sp.txt ahd))) ∧ w2 = w') := bytesCmp_rd _ ahd a7 a9 cap7 cap9 nn m9 HLN.out HM9.out.1 (Lo b) w2 hrd2 (HM9.out.2.same hb2.same (fun _ h => h))
                clear hrd2 hr2 hb2 HNM
                generalize Sp.cmpS (Sp.txt ((xs.drop an).take nn)) (Sp.txt ahd) = cm at HCP HCM
                have hcm : ¬ cm ≤ 0 := by have := HCM.out; omega
                clear HCM
                go_wp2_with fail
                refine HCP.out.mono ?_
                rintro e w3 ⟨rfl, rfl⟩
                clear HCP
                go_wp2_with fail
                refine (HCH.out.1 b a cap (an + nn) pp t p1 av w2 _ (by omega) HR2.out.2.1 HVV.out).mono ?_
                rintro e w4 ⟨rfl, hr4, hb4⟩
                have HR4 : Hid (Rdr w4 b a xs cap av p1 ∧ But b w2 w4) := ⟨hr4, hb4⟩
                clear hr4 hb4
                go_wp2_with fail
                go_roundw
                case rel => exact ⟨k + 1, j, p1, av, (xs.drop an).take nn, l3, a7, nn, cap7, rfl, by go_num, by omega, HLN.out, HR2.out.1.same HR4.out.2.same (fun _ h => h), HQ.out, HR4.out.1, HBL.out.trans (HR2.out.2.2.trans HR4.out.2)⟩
                case measure => simp [intOf]; omega
end Go.Proofs.Ytmmiiapfefmcjaa

/- A list of values that is being built: its first ones are those of a list of terms, what is left stands behind. -/
namespace Go.Proofs.Ytmmiiapfefmcjaa
open Go.RowKit

/-- the blocks that are new in w' -/
def Fr (w w' : World) : Nat → Prop := fun k => w.heap.size ≤ k ∧ k < w'.heap.size
/-- the blocks from b on of w', but for g -/
def Own (b : Nat) (w' : World) (g : Nat) : Nat → Prop := fun k => b ≤ k ∧ k < w'.heap.size ∧ k ≠ g

def VPre (w : World) (S : Nat → Prop) : TmL → List Value → TmL → Prop
  | L, [], l => L = l
  | .cons t L, x :: xs, l => t.V w S x ∧ VPre w S L xs l
  | .nil, _ :: _, _ => False
def FPre (w : World) (S : Nat → Prop) : TmF → List Value → TmF → Prop
  | L, [], l => L = l
  | .cons n t L, y :: x :: xs, l => y = .string n ∧ n.size ≤ maxLen ∧ t.V w S x ∧ FPre w S L xs l
  | _, _, _ => False

theorem VPre_nil {w : World} {S : Nat → Prop} (L l : TmL) : VPre w S L [] l ↔ L = l := by cases L <;> rfl
theorem FPre_nil {w : World} {S : Nat → Prop} (L l : TmF) : FPre w S L [] l ↔ L = l := by cases L <;> rfl
theorem VPre.same {w w' : World} {S S' : Nat → Prop} (hs : Same S w w') (hS : ∀ k, S k → S' k) : (L : TmL) → ∀ xs l, VPre w S L xs l → VPre w' S' L xs l
  | L, [], l, h => (VPre_nil L l).2 ((VPre_nil L l).1 h)
  | .nil, x :: xs, l, h => by simp [VPre] at h
  | .cons t L, x :: xs, l, h => by
    simp only [VPre] at h ⊢
    exact ⟨t.V_same hs hS x h.1, VPre.same hs hS L xs l h.2⟩
theorem VPre.snoc {w : World} {S : Nat → Prop} : (L : TmL) → ∀ xs t l x, VPre w S L xs (.cons t l) → t.V w S x → VPre w S L (xs ++ [x]) l
  | L, [], t, l, x, h, hx => by
    obtain rfl := (VPre_nil _ _).1 h
    simp only [List.nil_append, VPre]
    exact ⟨hx, trivial⟩
  | .nil, y :: ys, t, l, x, h, hx => by simp [VPre] at h
  | .cons u L, y :: ys, t, l, x, h, hx => by
    simp only [List.cons_append, VPre] at h ⊢
    exact ⟨h.1, VPre.snoc L ys t l x h.2 hx⟩
theorem VPre.done {w : World} {S S' : Nat → Prop} (hS : ∀ k, S k → S' k) (g : Nat) (hg : S' g) : (L : TmL) → ∀ (xs : List Value) (j : Nat), VPre w S L xs .nil → (∀ i x, xs[i]? = some x → w.cell? ⟨g, j + i, none⟩ = some x) → L.V w S' (some ⟨g, 0, none⟩) j
  | .nil, _, _, _, _ => by simp [TmL.V]
  | .cons t L, [], j, h, _ => by simp [VPre] at h
  | .cons t L, x :: xs, j, h, hc => by
    simp only [VPre, TmL.V] at h ⊢
    refine ⟨g, 0, x, rfl, hg, by simpa using hc 0 x rfl, t.V_same (Same.refl _ _) hS x h.1, VPre.done hS g hg L xs (j + 1) h.2 ?_⟩
    intro i y hi
    have := hc (i + 1) y (by simpa using hi)
    rw [show j + 1 + i = j + (i + 1) by omega]; exact this
theorem VPre.len {w : World} {S : Nat → Prop} : (L : TmL) → ∀ xs l, VPre w S L xs l → L.len = xs.length + l.len
  | L, [], l, h => by
    obtain rfl := (VPre_nil _ _).1 h; simp
  | .nil, x :: xs, l, h => by simp [VPre] at h
  | .cons t L, x :: xs, l, h => by
    simp only [VPre] at h
    have := VPre.len L xs l h.2
    simp [TmL.len]; omega

theorem FPre.same {w w' : World} {S S' : Nat → Prop} (hs : Same S w w') (hS : ∀ k, S k → S' k) : (L : TmF) → ∀ xs l, FPre w S L xs l → FPre w' S' L xs l
  | L, [], l, h => (FPre_nil L l).2 ((FPre_nil L l).1 h)
  | .nil, x :: xs, l, h => by cases xs <;> simp [FPre] at h
  | .cons n t L, [x], l, h => by simp [FPre] at h
  | .cons n t L, y :: x :: xs, l, h => by
    simp only [FPre] at h ⊢
    exact ⟨h.1, h.2.1, t.V_same hs hS x h.2.2.1, FPre.same hs hS L xs l h.2.2.2⟩
theorem FPre.snoc {w : World} {S : Nat → Prop} : (L : TmF) → ∀ xs n t l x, FPre w S L xs (.cons n t l) → n.size ≤ maxLen → t.V w S x → FPre w S L (xs ++ [.string n, x]) l
  | L, [], n, t, l, x, h, hn, hx => by
    obtain rfl := (FPre_nil _ _).1 h
    simp only [List.nil_append, FPre]
    exact ⟨trivial, hn, hx, trivial⟩
  | .nil, y :: ys, n, t, l, x, h, hn, hx => by cases ys <;> simp [FPre] at h
  | .cons m u L, [y], n, t, l, x, h, hn, hx => by simp [FPre] at h
  | .cons m u L, y :: z :: ys, n, t, l, x, h, hn, hx => by
    simp only [List.cons_append, FPre] at h ⊢
    exact ⟨h.1, h.2.1, h.2.2.1, FPre.snoc L ys n t l x h.2.2.2 hn hx⟩
theorem FPre.done {w : World} {S S' : Nat → Prop} (hS : ∀ k, S k → S' k) (g : Nat) (hg : S' g) : (L : TmF) → ∀ (xs : List Value) (j : Nat), FPre w S L xs .nil → (∀ i x, xs[i]? = some x → w.cell? ⟨g, j * 2 + i, none⟩ = some x) → L.V w S' (some ⟨g, 0, none⟩) j
  | .nil, _, _, _, _ => by simp [TmF.V]
  | .cons n t L, [], j, h, _ => by simp [FPre] at h
  | .cons n t L, [x], j, h, _ => by simp [FPre] at h
  | .cons n t L, y :: x :: xs, j, h, hc => by
    simp only [FPre, TmF.V] at h ⊢
    obtain ⟨rfl, hn, hx, h⟩ := h
    refine ⟨g, 0, x, rfl, hg, by simpa using hc 0 _ rfl, by simpa using hc 1 x rfl, hn, t.V_same (Same.refl _ _) hS x hx, FPre.done hS g hg L xs (j + 1) h ?_⟩
    intro i y hi
    have := hc (i + 2) y (by simpa using hi)
    rw [show (j + 1) * 2 + i = j * 2 + (i + 2) by omega]; exact this

/-- the eleven cells of a term, one by one -/
theorem eleven {w : World} {g o : Nat} {k : Int} {b : Bool} {i : Int} {f : Nat} {tx : ByteArray} {vb : Value} {rf : Int} {vl vf : Value} {c : ByteArray} {vr : Int}
    (h : ∀ x, x < 11 → w.cell? ⟨g, o + x, none⟩ = (tcells k b i f tx vb rf vl vf c vr)[x]?) :
    w.cell? ⟨g, o, none⟩ = some (.int .i64 k) ∧ w.cell? ⟨g, o + 1, none⟩ = some (.bool b) ∧ w.cell? ⟨g, o + 2, none⟩ = some (.int .i64 i) ∧ w.cell? ⟨g, o + 3, none⟩ = some (.float .f64 f) ∧ w.cell? ⟨g, o + 4, none⟩ = some (.string tx) ∧ w.cell? ⟨g, o + 5, none⟩ = some vb ∧ w.cell? ⟨g, o + 6, none⟩ = some (.int .u64 rf) ∧ w.cell? ⟨g, o + 7, none⟩ = some vl ∧ w.cell? ⟨g, o + 8, none⟩ = some vf ∧ w.cell? ⟨g, o + 9, none⟩ = some (.string c) ∧ w.cell? ⟨g, o + 10, none⟩ = some (.int .i64 vr) :=
  ⟨h 0 (by decide), h 1 (by decide), h 2 (by decide), h 3 (by decide), h 4 (by decide), h 5 (by decide), h 6 (by decide), h 7 (by decide), h 8 (by decide), h 9 (by decide), h 10 (by decide)⟩
end Go.Proofs.Ytmmiiapfefmcjaa

