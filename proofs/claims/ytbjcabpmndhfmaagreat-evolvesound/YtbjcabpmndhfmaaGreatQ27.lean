/- Plain mathematics: how many parts a term has; which terms are of a type, and where it shows that one is not. -/
import Derived.Test.YtbjcabpmndhfmaaGreatQ26
import Derived.Test.YtbjcabpmndhfmaaGreatQ19
import Derived.Test.YtbjcabpmndhfmaaGreatQ12
import Derived.Lib.Bytealg
import Derived.Test.YtbjcabpmndhfmaaGreatQ8
namespace Go.Proofs.YtbjcabpmndhfmaaGreat
open Go.RowKit

mutual
def Tm.pn : Tm → Int | .mk k _ _ _ _ _ _ l fs _ _ => 1 + (if k = 8 then l.pn else if k = 9 ∨ k = 10 then fs.pn else 0)
def TmL.pn : TmL → Int | .nil => 0 | .cons t l => t.pn + l.pn
def TmF.pn : TmF → Int | .nil => 0 | .cons _ t l => t.pn + l.pn
end
/-- each can be by itself -/
def TmL.gd : TmL → Prop | .nil => True | .cons t l => t.all.e = 0 ∧ l.gd
def TmF.gd : TmF → Prop | .nil => True | .cons _ t l => t.all.e = 0 ∧ l.gd
theorem Tm.good_of {t : Tm} {n p d : Int} (h : (t.wk n p d).e = 0) (hn : 1 ≤ n) (hp : 0 ≤ p) : t.all.e = 0 := by
  obtain ⟨N, D, h1, h2, hF⟩ := t.fit n p d h
  rcases hF n p d with ⟨a1, a2, a3⟩ | ⟨_, a2⟩
  · rcases hF 1 0 0 with ⟨_, _, b3⟩ | ⟨b1, _⟩
    · unfold Tm.all; rw [b3]
    · omega
  · rw [h] at a2; cases a2
mutual
theorem Tm.wk_pn : (t : Tm) → ∀ n p d, (t.wk n p d).e = 0 → (t.wk n p d).p = p + t.pn
  | .mk k b i f tx by' rf l fs c v, n, p, d, h => by
    rw [Tm.wk] at h ⊢
    by_cases h0 : (Tm.mk k b i f tx by' rf l fs c v).own p n ≠ 0
    · rw [if_pos h0] at h; exact absurd h h0
    rw [if_neg h0] at h ⊢
    rw [Tm.pn]
    by_cases h8 : k = 8
    · rw [if_pos h8] at h ⊢; rw [if_pos h8, TmL.wk_pn l _ _ _ h]; omega
    rw [if_neg h8] at h ⊢
    by_cases h9 : k = 9 ∨ k = 10
    · rw [if_pos h9] at h ⊢; rw [if_neg h8, if_pos h9, TmF.wk_pn fs _ _ _ h]; omega
    rw [if_neg h9, if_neg h8, if_neg h9]; simp
theorem TmL.wk_pn : (l : TmL) → ∀ n p d, (l.wk n p d).e = 0 → (l.wk n p d).p = p + l.pn
  | .nil, n, p, d, h => by simp [TmL.wk, TmL.pn]
  | .cons t l, n, p, d, h => by
    rw [TmL.wk] at h ⊢
    by_cases he : (t.wk n p d).e ≠ 0
    · rw [if_pos he] at h; exact absurd h he
    rw [if_neg he] at h ⊢
    rw [TmL.wk_pn l _ _ _ h, Tm.wk_pn t _ _ _ (Decidable.not_not.1 he), TmL.pn]; omega
theorem TmF.wk_pn : (l : TmF) → ∀ n p d, (l.wk n p d).e = 0 → (l.wk n p d).p = p + l.pn
  | .nil, n, p, d, h => by simp [TmF.wk, TmF.pn]
  | .cons m t l, n, p, d, h => by
    rw [TmF.wk] at h ⊢
    by_cases he : (t.wk n p d).e ≠ 0
    · rw [if_pos he] at h; exact absurd h he
    rw [if_neg he] at h ⊢
    rw [TmF.wk_pn l _ _ _ h, Tm.wk_pn t _ _ _ (Decidable.not_not.1 he), TmF.pn]; omega
end
mutual
theorem Tm.pn_pos : (t : Tm) → 1 ≤ t.pn
  | .mk k b i f tx by' rf l fs c v => by
    have h1 := TmL.pn_pos l; have h2 := TmF.pn_pos fs
    rw [Tm.pn]; split
    · omega
    · split <;> omega
theorem TmL.pn_pos : (l : TmL) → 0 ≤ l.pn
  | .nil => by simp [TmL.pn]
  | .cons t l => by have h1 := Tm.pn_pos t; have h2 := TmL.pn_pos l; rw [TmL.pn]; omega
theorem TmF.pn_pos : (l : TmF) → 0 ≤ l.pn
  | .nil => by simp [TmF.pn]
  | .cons m t l => by have h1 := Tm.pn_pos t; have h2 := TmF.pn_pos l; rw [TmF.pn]; omega
end
theorem Tm.good_pn {t : Tm} (h : t.all.e = 0) : t.szN = t.pn ∧ t.pn ≤ 16384 := by
  have h1 := t.wk_pn 1 0 0 h
  obtain ⟨N, D, h2, h3, hF⟩ := t.fit 1 0 0 h
  unfold Tm.szN
  rw [if_neg (by rw [h]; decide)]
  have h4 : t.all.p = t.pn := by have : t.all.p = 0 + t.pn := h1; omega
  refine ⟨h4, ?_⟩
  rcases hF 1 0 0 with ⟨a1, _, a3⟩ | ⟨_, a2⟩
  · have : t.all.p = 0 + N := by show (t.wk 1 0 0).p = _; rw [a3]
    omega
  · have h5 : (t.wk 1 0 0).e = 0 := h
    rw [h5] at a2; cases a2
theorem TmL.gd_of : (l : TmL) → ∀ n p d, (l.wk n p d).e = 0 → 1 ≤ n → 0 ≤ p → l.gd
  | .nil, n, p, d, h, _, _ => trivial
  | .cons t l, n, p, d, h, hn, hp => by
    rw [TmL.wk] at h
    by_cases he : (t.wk n p d).e ≠ 0
    · rw [if_pos he] at h; exact absurd h he
    rw [if_neg he] at h
    have he := Decidable.not_not.1 he
    have h1 := t.wk_pn _ _ _ he
    have h2 := t.pn_pos
    exact ⟨Tm.good_of he hn hp, TmL.gd_of l _ _ _ h hn (by omega)⟩
theorem TmF.gd_of : (l : TmF) → ∀ n p d, (l.wk n p d).e = 0 → 1 ≤ n → 0 ≤ p → l.gd
  | .nil, n, p, d, h, _, _ => trivial
  | .cons m t l, n, p, d, h, hn, hp => by
    rw [TmF.wk] at h
    by_cases he : (t.wk n p d).e ≠ 0
    · rw [if_pos he] at h; exact absurd h he
    rw [if_neg he] at h
    have he := Decidable.not_not.1 he
    have h1 := t.wk_pn _ _ _ he
    have h2 := t.pn_pos
    exact ⟨Tm.good_of he hn hp, TmF.gd_of l _ _ _ h hn (by omega)⟩
/-- a good term's parts are good, and not too many -/
theorem Tm.good_parts {k : Int} {b : Bool} {i : Int} {f : Nat} {tx by' : ByteArray} {rf : Int} {l : TmL} {fs : TmF} {c : ByteArray} {v : Int} (h : (Tm.mk k b i f tx by' rf l fs c v).all.e = 0) :
    (k = 8 → l.gd ∧ l.pn < 16384) ∧ (k = 9 ∨ k = 10 → fs.gd ∧ fs.pn < 16384) := by
  have hp := (Tm.good_pn h).2
  rw [Tm.pn] at hp
  unfold Tm.all at h
  rw [Tm.wk] at h
  by_cases h0 : (Tm.mk k b i f tx by' rf l fs c v).own 0 1 ≠ 0
  · rw [if_pos h0] at h; exact absurd h h0
  rw [if_neg h0] at h
  refine ⟨fun h8 => ?_, fun h9 => ?_⟩
  · rw [if_pos h8] at h hp; exact ⟨TmL.gd_of l _ _ _ h (by decide) (by decide), by omega⟩
  · have h8 : k ≠ 8 := by omega
    rw [if_neg h8, if_pos h9] at h hp; exact ⟨TmF.gd_of fs _ _ _ h (by decide) (by decide), by omega⟩

def Tm.knd : Tm → Int | .mk k _ _ _ _ _ _ _ _ _ _ => k
def Tm.lst : Tm → TmL | .mk _ _ _ _ _ _ _ l _ _ _ => l
def Tm.flds : Tm → TmF | .mk _ _ _ _ _ _ _ _ fs _ _ => fs
def Tm.cls : Tm → ByteArray | .mk _ _ _ _ _ _ _ _ _ c _ => c
/-- a list's values against one type; next: the number of the next value -/
def Sp.hasL (f : Tm → Bool × Int) : TmL → Int → Bool × Int
  | .nil, _ => (true, 0)
  | .cons x l, next => if (f x).1 then Sp.hasL f l (next + x.pn) else (false, next + (f x).2)
/-- a dict's fields against the names, lacks and types of a dict's type, by at most so many steps -/
def Sp.hasD (op : Bool) : Nat → List ByteArray → List Bool → List (Tm → Bool × Int) → TmF → Int → Bool × Int
  | 0, _, _, _, _, _ => (true, 0)
  | _ + 1, [], _, _, .nil, _ => (true, 0)
  | N + 1, [], _, _, .cons _ x l, next => if op then Sp.hasD op N [] [] [] l (next + x.pn) else (false, 0)
  | N + 1, _ :: ns, k :: ks, _ :: fs, .nil, next => if k then Sp.hasD op N ns ks fs .nil next else (false, 0)
  | N + 1, n :: ns, k :: ks, f :: fs, .cons m x l, next =>
    if Sp.cmpS n m < 0 then (if k then Sp.hasD op N ns ks fs (.cons m x l) next else (false, 0))
    else if 0 < Sp.cmpS n m then (if op then Sp.hasD op N (n :: ns) (k :: ks) (f :: fs) l (next + x.pn) else (false, 0))
    else if (f x).1 then Sp.hasD op N ns ks fs l (next + x.pn) else (false, next + (f x).2)
  | _ + 1, _ :: _, _, _, _, _ => (true, 0)
mutual
/-- whether a term is of a type; and, counted from the term's own number, where it shows that it is not -/
def Ty.has : Ty → Tm → Bool × Int
  | .mk k o t p n l op c, v =>
    if k = 1 then (true, 0)
    else if k = 3 then (decide (v.knd = o), 0)
    else if k = 4 then (v.sameB t, 0)
    else if k = 5 then (if v.knd = 8 then p.hasHead v.lst else (false, 0))
    else if k = 6 then (if v.knd = 9 then Sp.hasD op (n.length + v.flds.len) n l p.fns v.flds 1 else (false, 0))
    else if k = 7 then (p.hasAny v, 0)
    else if k = 8 then (decide (v.knd = 10) && decide (Sp.cmpS v.cls c = 0), 0)
    else (false, 0)
def TyL.hasHead : TyL → TmL → Bool × Int
  | .nil, _ => (true, 0)
  | .cons t _, l => Sp.hasL t.has l 1
def TyL.hasAny : TyL → Tm → Bool
  | .nil, _ => false
  | .cons t l, v => (t.has v).1 || l.hasAny v
def TyL.fns : TyL → List (Tm → Bool × Int)
  | .nil => []
  | .cons t l => t.has :: l.fns
end
end Go.Proofs.YtbjcabpmndhfmaaGreat

/- strings.Compare, check.withField. -/
namespace Go.Proofs.YtbjcabpmndhfmaaGreat
open Go.RowKit

theorem strCmp_run (a b : ByteArray) (w : World) : (callFunc 107 #[.string a, .string b]).run Tryz.prog w = .ok (.value (.int .i64 (Sp.cmpS a b))) w := by
  rw [run_callFunc_extern Tryz.func107 (by kernel_rfl) (by kernel_rfl) (by kernel_rfl) (e := Extern.BytealgCompare.compare) (by kernel_rfl), Lib.run_compareString]; rfl
set_option maxRecDepth 100000 in
set_option maxHeartbeats 400000 in
theorem strCompare_any (a b : ByteArray) (w : World) : Calls Tryz.prog 88 #[.string a, .string b] w fun e w' => e = .returned (.int .i64 (Sp.cmpS a b)) ∧ w = w' := by
  have hr := strCmp_run a b
  go_enter Tryz.func88, Tryz.ntmps88
  go_wp2
  go_ret
  exact ⟨rfl, rfl⟩
set_option maxRecDepth 100000 in
set_option maxHeartbeats 400000 in
theorem withField_any (a b : ByteArray) (x : Value) (w : World) : Calls Tryz.prog 69 #[.string a, .agg #[.string b, x]] w fun e w' => e = .returned (.int .i64 (Sp.cmpS a b)) ∧ Below w.heap.size w w' := by
  have HC : Hid (∀ W, Calls Tryz.prog 88 #[.string a, .string b] W fun e w' => e = .returned (.int .i64 (Sp.cmpS a b)) ∧ W = w') := fun W => strCompare_any a b W
  have HB : Hid (Below w.heap.size w (w.alloc (.cells #[.string b, x] 127))) := (Below.refl _ _).alloc (Nat.le_refl _) _
  go_enter Tryz.func69, Tryz.ntmps69
  go_wp2_with fail
  refine (HC.out _).mono ?_
  rintro e w1 ⟨rfl, rfl⟩
  go_wp2_with fail
  go_ret
  exact ⟨rfl, HB.out⟩
end Go.Proofs.YtbjcabpmndhfmaaGreat

/- tenonref07.parts. -/
namespace Go.Proofs.YtbjcabpmndhfmaaGreat
open Go.RowKit

theorem TmF.vals_pn : (l : TmF) → l.vals.pn = l.pn
  | .nil => rfl
  | .cons n t l => by rw [TmF.vals, TmL.pn, TmF.pn, TmF.vals_pn l]
theorem Tm.parts_pn (t : Tm) : t.pn = 1 + t.parts.pn := by
  cases t with
  | mk k b i f tx by' rf l fs c v =>
    simp only [Tm.pn, Tm.parts]
    by_cases h8 : k = 8
    · rw [if_pos h8, if_pos h8]
    · rw [if_neg h8, if_neg h8]
      by_cases h9 : k = 9 ∨ k = 10
      · rw [if_pos h9, if_pos h9, TmF.vals_pn]
      · rw [if_neg h9, if_neg h9]; rfl
theorem Tm.In_size {t : Tm} {w : World} {B : Nat → Prop} {cs : Array Value} (h : t.In w B cs) : cs.size = 11 := by
  obtain ⟨_, _, _, _, _, _, _, _, _, _, _, _, _, _, _, _, _, rfl⟩ := Tm.In_tc' h; rfl
def RPartC (N : Nat) : Prop := ∀ (t : Tm), t.sz ≤ N → t.pn ≤ 16384 → ∀ (cs : Array Value) (B : Nat → Prop) (w : World), t.In w B cs → Sub B w →
  Calls Tryz.prog 79 #[.agg cs] w fun e w' => e = .returned (.int .i64 t.pn) ∧ Below w.heap.size w w'

set_option maxRecDepth 100000 in
set_option maxHeartbeats 4000000 in
theorem rparts_step (N : Nat) (HC : RPartC N) (t : Tm) (hN : t.sz ≤ N + 1) (hpn : t.pn ≤ 16384) (cs : Array Value) (B : Nat → Prop) (w : World) (h : t.In w B cs) (hB : Sub B w) :
    Calls Tryz.prog 79 #[.agg cs] w fun e w' => e = .returned (.int .i64 t.pn) ∧ Below w.heap.size w w' := by
  have hsz := Tm.In_size h
  have HBW : Hid (Below w.heap.size w (w.alloc (.cells cs 38))) := (Below.refl _ _).alloc (Nat.le_refl _) _
  have HL : Hid ((loadVar 38 ⟨w.heap.size, 0, none⟩).run Tryz.prog (w.alloc (.cells cs 38)) = .ok (.agg cs) (w.alloc (.cells cs 38))) := yldT hsz (fun x hx => by rw [Nat.zero_add, cell_of_row _ _ _ _ _ _ (heap_alloc_new w _)])
  have HP : Hid (Calls Tryz.prog 55 #[.agg cs] (w.alloc (.cells cs 38)) fun e w' => ∃ a cap, e = .returned (.slice a t.parts.len cap) ∧ Below (w.alloc (.cells cs 38)).heap.size (w.alloc (.cells cs 38)) w' ∧ t.parts.In w' (Up B (w.alloc (.cells cs 38)) w') a 0 ∧ t.parts.len ≤ 140737488355328) :=
    parts_any t cs B _ (t.In_same (hB.same HBW.out) (fun _ h => h) cs h) (hB.later HBW.out)
  have hps := Tm.parts_sz t
  have hpe := Tm.parts_pn t
  have HB : Hid (Sub B w) := hB
  have HCH : Hid (RPartC N) := HC
  clear h hB HC
  generalize t.parts = P at *
  have hPN : P.sz ≤ N := by omega
  generalize t.pn = pn at *
  clear hps hN
  go_enter Tryz.func79, Tryz.ntmps79
  go_wp2_with ((with_reducible refine ld_row ?_ ?_ HL.out ?_); rfl; rfl)
  refine HP.out.mono ?_
  rintro e w1 ⟨a, cap, rfl, hb1, hin1, hlen⟩
  have H1 : Hid (Below w.heap.size w w1 ∧ P.In w1 (Lo w1.heap.size) a 0) := ⟨HBW.out.trans (hb1.mono (by simp)), P.In_same (Same.refl _ _) (fun k hk => by
    rcases hk with hk | hk
    · have := HB.out k hk; have := hb1.size; simp at this; show k < w1.heap.size; omega
    · exact hk.2) a 0 hin1⟩
  clear hb1 hin1
  go_wp2_with fail
  go_loopw [3, 5] (fun n x wr => ∃ (k : Nat) (l : TmL) (q : Int), n = .int .i64 q ∧ x = .int .i64 k ∧ l.len + k = P.len ∧ l.sz ≤ N ∧ 0 ≤ q ∧ q + l.pn = pn ∧ Hid (Below w1.heap.size w1 wr ∧ l.In w1 (Lo w1.heap.size) a k)) (fun _ x _ => P.len - (intOf x).toNat)
  case atStart => exact ⟨0, P, 1, rfl, rfl, rfl, hPN, by decide, by omega, ⟨Below.refl _ _, H1.out.2⟩⟩
  case round =>
    obtain ⟨k, l, q, rfl, rfl, hlk, hlN, hq0, hqs, HK⟩ := hrel
    cases l with
    | nil =>
      have h1 : P.len ≤ k := by simp [TmL.len] at hlk; omega
      have hq : q = pn := by simp [TmL.pn] at hqs; omega
      have HF : Hid (Below w.heap.size w wr) := H1.out.1.trans (HK.out.1.mono H1.out.1.size)
      clear hlk HK hqs
      subst hq
      go_wp2_with fail
      go_ret
      exact ⟨rfl, HF.out⟩
    | cons v l =>
      obtain ⟨hbw, hin⟩ := HK.out
      simp only [TmL.In] at hin
      obtain ⟨g, o, cs', rfl, hgg, hc, hti, hin'⟩ := hin
      have hk1 : k < P.len := by simp only [TmL.len] at hlk; omega
      have HLK : Hid (l.len + (k + 1) = P.len) := by show _ = _; simp only [TmL.len] at hlk; omega
      have htN : v.sz ≤ N ∧ l.sz ≤ N := by simp [TmL.sz] at hlN; omega
      have hvp := v.pn_pos
      have hlp := l.pn_pos
      have hqs' : q + v.pn + l.pn = pn := by simp only [TmL.pn] at hqs; omega
      have hs : Same (Lo w1.heap.size) w1 wr := fun k hk => hbw.block k hk
      have hs' := Tm.In_size hti
      have HLE : Hid ((loadVar 38 ⟨g, o + k * 11, none⟩).run Tryz.prog wr = .ok (.agg cs') wr) := yldT hs' (fun x hx => by rw [hs.cell (p := ⟨g, o + k * 11 + x, none⟩) hgg]; exact hc x hx)
      have HCT : Hid (Calls Tryz.prog 79 #[.agg cs'] wr fun e w' => e = .returned (.int .i64 v.pn) ∧ Below wr.heap.size wr w') := HCH.out v htN.1 (by omega) cs' (Lo w1.heap.size) wr (v.In_same hs (fun _ h => h) cs' hti) (fun k hk => Nat.lt_of_lt_of_le hk hbw.size)
      have HN : Hid (Below w1.heap.size w1 wr ∧ l.In w1 (Lo w1.heap.size) (some ⟨g, o, none⟩) (k + 1)) := ⟨hbw, hin'⟩
      have hi0 : (0 : Int) ≤ (k : Int) := Int.natCast_nonneg _
      have hi1 : (k : Int) < (P.len : Int) := by omega
      clear hlk hlN hqs HK hbw hc hti hin' hs hs' hgg
      generalize v.pn = vp at *
      go_wp2_with ((with_reducible refine ld_row ?_ ?_ HLE.out ?_); rfl; rfl)
      refine HCT.out.mono ?_
      rintro e w2 ⟨rfl, hb2⟩
      have H2 : Hid (Below w1.heap.size w1 w2) := HN.out.1.trans (hb2.mono HN.out.1.size)
      clear hb2
      go_wp2_with fail
      go_roundw
      case rel => exact ⟨k + 1, l, q + vp, by go_num, by go_num, HLK.out, htN.2, by omega, by omega, ⟨H2.out, HN.out.2⟩⟩
      case measure => simp [intOf]; omega
theorem rparts_any : ∀ N, RPartC N
  | 0 => fun t h => by cases t; simp [Tm.sz] at h
  | N + 1 => fun t hN hpn cs B w h hB => rparts_step N (rparts_any N) t hN hpn cs B w h hB
end Go.Proofs.YtbjcabpmndhfmaaGreat

/- Plain mathematics: how many parts a list of two has, and how deep it is. Nothing of the program stands here. -/
namespace Go.Proofs.YtbjcabpmndhfmaaGreat

def mkL (l : TmL) : Tm := .mk 8 false 0 0 ByteArray.empty ByteArray.empty 0 l .nil ByteArray.empty 0
def mkD (fs : TmF) : Tm := .mk 9 false 0 0 ByteArray.empty ByteArray.empty 0 .nil fs ByteArray.empty 0
def tt : Tm := .mk 2 true 0 0 ByteArray.empty ByteArray.empty 0 .nil .nil ByteArray.empty 0
def none1 : Tm := .mk 1 false 0 0 ByteArray.empty ByteArray.empty 0 .nil .nil ByteArray.empty 0
def nmA : ByteArray := ⟨#[97]⟩
def pairT (s t : Tm) : Tm := mkL (.cons s (.cons (mkD (.cons nmA t .nil)) .nil))
def ttT (t : Tm) : Tm := mkL (.cons tt (.cons t .nil))

/-- what the statement asks of the numbers -/
def SzGood (n deep e m far f all most g o h p i : Int) : Prop :=
  ((e ≠ 0 ∨ f ≠ 0) ∧ g ≠ 0 ∧ all = 0 ∧ most = 0) ∨
  (e = 0 ∧ f = 0 ∧ (1 ≤ n ∧ n ≤ 16384) ∧ (1 ≤ m ∧ m ≤ 16384) ∧ (1 ≤ deep ∧ deep ≤ 64) ∧ (1 ≤ far ∧ far ≤ 64) ∧ ((16384 < n + m + 2 ∨ 64 < max deep (far + 1) + 1) ∧ g = 2)) ∨
  (e = 0 ∧ f = 0 ∧ (1 ≤ n ∧ n ≤ 16384) ∧ (1 ≤ m ∧ m ≤ 16384) ∧ (1 ≤ deep ∧ deep ≤ 64) ∧ (1 ≤ far ∧ far ≤ 64) ∧ n + m + 2 ≤ 16384 ∧ max deep (far + 1) + 1 ≤ 64 ∧ g = 0 ∧ all = n + m + 2 ∧ most = max deep (far + 1) + 1 ∧ o = p ∧ h = 0 ∧ i = 0)
end Go.Proofs.YtbjcabpmndhfmaaGreat

