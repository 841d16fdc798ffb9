/- Plain mathematics of ways: steps, which can be, a way's text, and the way of a text. Nothing of the program stands here. -/
import Derived.Test.YtghnipbcbbphbaaDoorSpec
import Derived.Lib.ItoaNum
import Derived.Lib.AtoiAll
import Derived.Lib.AtoiAllCases
namespace Go.Proofs.YtghnipbcbbphbaaDoor

/-- a step: its name, whether it is an index, the index -/
structure Stp where
  name : ByteArray
  at' : Bool
  idx : Int
deriving DecidableEq

def Stp.rule (x : Stp) : Int :=
  if x.at' then (if x.name.size = 0 then (if x.idx < 0 ∨ 4096 ≤ x.idx then 1 else 0) else 8)
  else (if Sp.isNm x.name then (if x.idx = 0 then 0 else 1) else 8)

/-- the first error of the first steps of a way -/
def Sp.rules : List Stp → Int
  | [] => 0
  | x :: l => if x.rule = 0 then Sp.rules l else x.rule
def Sp.wayR (l : List Stp) : Int := if 64 < l.length then 2 else Sp.rules l

theorem Sp.rules_app (l : List Stp) (x : Stp) (r : List Stp) (h : Sp.rules l = 0) : Sp.rules (l ++ x :: r) = if x.rule = 0 then Sp.rules r else x.rule := by
  induction l with
  | nil => rfl
  | cons y l ih =>
    rw [List.cons_append, Sp.rules]
    rw [Sp.rules] at h
    by_cases hy : y.rule = 0
    · rw [if_pos hy] at h ⊢; exact ih h
    · rw [if_neg hy] at h; exact absurd h hy
theorem Sp.rules_at (l : List Stp) (k : Nat) (hk : k < l.length) (h : Sp.rules (l.take k) = 0) : Sp.rules l = if l[k].rule = 0 then Sp.rules (l.drop (k + 1)) else l[k].rule := by
  have e : l = l.take k ++ l[k] :: l.drop (k + 1) := by
    rw [← List.drop_eq_getElem_cons hk, List.take_append_drop]
  conv => lhs; rw [e]
  exact Sp.rules_app _ _ _ h
theorem Sp.rules_take (l : List Stp) (k : Nat) (hk : k < l.length) (h : Sp.rules (l.take k) = 0) : Sp.rules (l.take (k + 1)) = l[k].rule := by
  rw [List.take_succ_eq_append_getElem hk, Sp.rules_app _ _ _ h]
  by_cases e : l[k].rule = 0
  · rw [if_pos e, e]; rfl
  · rw [if_neg e]
theorem Sp.rules_all {l : List Stp} (h : Sp.rules l = 0) : ∀ x ∈ l, x.rule = 0 := by
  induction l with
  | nil => intro x hx; cases hx
  | cons y l ih =>
    rw [Sp.rules] at h
    by_cases hy : y.rule = 0
    · rw [if_pos hy] at h
      intro x hx
      rcases List.mem_cons.1 hx with rfl | hx
      · exact hy
      · exact ih h x hx
    · rw [if_neg hy] at h; exact absurd h hy
theorem Stp.rule_at {x : Stp} (h : x.rule = 0) (ha : x.at' = true) : x.name.size = 0 ∧ 0 ≤ x.idx ∧ x.idx < 4096 := by
  rw [Stp.rule, if_pos ha] at h
  by_cases h1 : x.name.size = 0
  · rw [if_pos h1] at h
    by_cases h2 : x.idx < 0 ∨ 4096 ≤ x.idx
    · rw [if_pos h2] at h; omega
    · omega
  · rw [if_neg h1] at h; omega
theorem Stp.rule_nm {x : Stp} (h : x.rule = 0) (ha : x.at' = false) : Sp.isNm x.name = true ∧ x.idx = 0 := by
  rw [Stp.rule, if_neg (by rw [ha]; decide)] at h
  cases h1 : Sp.isNm x.name with
  | false => rw [h1, if_neg (by decide)] at h; omega
  | true =>
    rw [h1, if_pos rfl] at h
    by_cases h2 : x.idx = 0
    · exact ⟨rfl, h2⟩
    · rw [if_neg h2] at h; omega
theorem Sp.isNm_size {s : ByteArray} (h : Sp.isNm s = true) : 1 ≤ s.size ∧ s.size ≤ 32 := by
  unfold Sp.isNm at h
  simp at h
  exact h.1

/-- the text of the step of that number -/
def Stp.txt (i : Nat) (x : Stp) : List UInt8 := if x.at' then 91 :: (Lib.itoa x.idx ++ [93]) else if i = 0 then x.name.data.toList else 46 :: x.name.data.toList
def Sp.wtxt (l : List Stp) : Nat → List UInt8
  | 0 => []
  | k + 1 => Sp.wtxt l k ++ (match l[k]? with | some x => x.txt k | none => [])
theorem Sp.wtxt_succ (l : List Stp) (k : Nat) (hk : k < l.length) : Sp.wtxt l (k + 1) = Sp.wtxt l k ++ l[k].txt k := by
  rw [Sp.wtxt, List.getElem?_eq_getElem hk]
def Sp.wtext (l : List Stp) : List UInt8 := if Sp.wayR l = 0 then Sp.wtxt l l.length else []

/-- the number that digits say -/
def Sp.num (l : List UInt8) : Nat := l.foldl (fun n c => 10 * n + (c.toNat - 48)) 0
theorem Sp.num_snoc (l : List UInt8) (c : UInt8) : Sp.num (l ++ [c]) = 10 * Sp.num l + (c.toNat - 48) := by simp [Sp.num]
def Sp.digs (l : List UInt8) : Prop := ∀ c ∈ l, 48 ≤ c.toNat ∧ c.toNat ≤ 57

theorem Sp.foldl_le (l : List UInt8) : ∀ n, n ≤ l.foldl (fun n (c : UInt8) => 10 * n + (c.toNat - 48)) n := by
  induction l with
  | nil => intro n; exact Nat.le_refl _
  | cons c l ih => intro n; exact Nat.le_trans (by omega) (ih (10 * n + (c.toNat - 48)))
theorem Sp.num_take_le (l : List UInt8) (k : Nat) : Sp.num (l.take k) ≤ Sp.num l := by
  conv => rhs; rw [← List.take_append_drop k l]
  unfold Sp.num
  rw [List.foldl_append]
  exact Sp.foldl_le _ _
theorem Sp.num_pos (c : UInt8) (l : List UInt8) (hc : 49 ≤ c.toNat) : 1 ≤ Sp.num (c :: l) := by
  unfold Sp.num
  rw [List.foldl_cons]
  exact Nat.le_trans (by omega) (Sp.foldl_le l _)

/-- digits without a zero ahead are the numeral of the number that they say -/
theorem Sp.dec_num : ∀ (n : Nat) (l : List UInt8), l.length = n + 1 → Sp.digs l → (1 < l.length → l.head? ≠ some 48) → Lib.decDigits (Sp.num l) = l
  | 0, l, hn, hd, _ => by
    match l, hn with
    | [c], _ =>
      have hc := hd c (by simp)
      have e : Sp.num [c] = c.toNat - 48 := by simp [Sp.num]
      rw [e, Lib.decDigits_one (by omega)]
      congr 1
      rw [show 48 + (c.toNat - 48) = c.toNat by omega]
      exact UInt8.ofNat_toNat
  | n + 1, l, hn, hd, hz => by
    have hne : l ≠ [] := by intro e; rw [e] at hn; simp at hn
    obtain ⟨r, c, rfl⟩ : ∃ r c, l = r ++ [c] := ⟨l.dropLast, l.getLast hne, (List.dropLast_concat_getLast hne).symm⟩
    have hr : r.length = n + 1 := by simp at hn; omega
    have hc := hd c (by simp)
    have ih := Sp.dec_num n r hr (fun x hx => hd x (by simp [hx])) (fun h1 => by
      have := hz (by simp; omega)
      match r, hr with
      | x :: r, _ => simpa using this)
    have hp : 1 ≤ Sp.num r := by
      match r, hr with
      | x :: r, _ =>
        refine Sp.num_pos x r ?_
        have hx := hd x (by simp)
        have := hz (by simp)
        have h48 : x ≠ 48 := by simpa using this
        have : x.toNat ≠ 48 := fun e => h48 (UInt8.toNat_inj.1 (by rw [e]; rfl))
        omega
    rw [Sp.num_snoc, Lib.decDigits, dif_neg (by omega)]
    rw [show (10 * Sp.num r + (c.toNat - 48)) / 10 = Sp.num r by omega, ih, show (10 * Sp.num r + (c.toNat - 48)) % 10 = c.toNat - 48 by omega]
    congr 2
    rw [show 48 + (c.toNat - 48) = c.toNat by omega]
    exact UInt8.ofNat_toNat

theorem Sp.pu10 : ∀ (l : List UInt8) (acc : Nat), Sp.digs l → acc < 18446744073709551616 → Lib.parseUint10 acc l = if l.foldl (fun n c => 10 * n + (c.toNat - 48)) acc < 18446744073709551616 then .ok (l.foldl (fun n c => 10 * n + (c.toNat - 48)) acc) else .range
  | [], acc, _, ha => by simp [Lib.parseUint10, ha]
  | c :: l, acc, hd, ha => by
    have hc := hd c (by simp)
    rw [Lib.parseUint10, if_pos hc, List.foldl_cons]
    have hle := Sp.foldl_le l (10 * acc + (c.toNat - 48))
    by_cases h1 : 1844674407370955162 ≤ acc
    · rw [if_pos h1, if_neg (by omega)]
    · rw [if_neg h1]
      by_cases h2 : 18446744073709551616 ≤ acc * 10 + (c.toNat - 48)
      · rw [if_pos h2, if_neg (by omega)]
      · rw [if_neg h2, Sp.pu10 l _ (fun x hx => hd x (by simp [hx])) (by omega), show acc * 10 + (c.toNat - 48) = 10 * acc + (c.toNat - 48) by omega]
theorem Sp.atoi_digs (l : List UInt8) (hne : l ≠ []) (hd : Sp.digs l) : Lib.atoiAll l = if Sp.num l < 9223372036854775808 then .ok (Sp.num l : Int) else .range := by
  match l, hne with
  | c :: r, _ =>
    have hc := hd c (by simp)
    have hp := Sp.pu10 (c :: r) 0 hd (by omega)
    rw [Lib.atoiAll_plain c r (by omega) (by omega), Lib.parseMag, if_neg (by simp), hp]
    change Lib.signless (if Sp.num (c :: r) < _ then .ok (Sp.num (c :: r)) else .range) = _
    by_cases h1 : Sp.num (c :: r) < 18446744073709551616
    · rw [if_pos h1]
      by_cases h2 : Sp.num (c :: r) < 9223372036854775808
      · rw [if_pos h2, Lib.signless]; simp; omega
      · rw [if_neg h2, Lib.signless]; simp; omega
    · rw [if_neg h1, if_neg (by omega), Lib.signless]

/-- where the run of bytes of a sort ends that begins there -/
def Sp.span (p : Int → Bool) (s : ByteArray) (i : Nat) : Nat :=
  if h : i < s.size then (if p (Sp.byte s i) then Sp.span p s (i + 1) else i) else i
termination_by s.size - i
theorem Sp.span_go {p : Int → Bool} {s : ByteArray} {i : Nat} (h : i < s.size) (hp : p (Sp.byte s i) = true) : Sp.span p s i = Sp.span p s (i + 1) := by
  rw [Sp.span, dif_pos h, if_pos hp]
theorem Sp.span_stop {p : Int → Bool} {s : ByteArray} {i : Nat} (h : i < s.size) (hp : p (Sp.byte s i) = false) : Sp.span p s i = i := by
  rw [Sp.span, dif_pos h, if_neg (by simp [hp])]
theorem Sp.span_end {p : Int → Bool} {s : ByteArray} {i : Nat} (h : ¬ i < s.size) : Sp.span p s i = i := by
  rw [Sp.span, dif_neg h]
theorem Sp.span_bd (p : Int → Bool) (s : ByteArray) : ∀ (n i : Nat), s.size - i ≤ n → i ≤ s.size → i ≤ Sp.span p s i ∧ Sp.span p s i ≤ s.size ∧ (∀ j, i ≤ j → j < Sp.span p s i → p (Sp.byte s j) = true)
  | 0, i, hn, hi => by
    rw [Sp.span_end (by omega)]
    exact ⟨Nat.le_refl _, hi, fun j h1 h2 => by omega⟩
  | n + 1, i, hn, hi => by
    by_cases h : i < s.size
    · cases hp : p (Sp.byte s i) with
      | true =>
        rw [Sp.span_go h hp]
        obtain ⟨h1, h2, h3⟩ := Sp.span_bd p s n (i + 1) (by omega) (by omega)
        refine ⟨by omega, h2, fun j hj1 hj2 => ?_⟩
        by_cases e : j = i
        · rw [e]; exact hp
        · exact h3 j (by omega) hj2
      | false =>
        rw [Sp.span_stop h hp]
        exact ⟨Nat.le_refl _, hi, fun j h1 h2 => by omega⟩
    · rw [Sp.span_end h]
      exact ⟨Nat.le_refl _, hi, fun j h1 h2 => by omega⟩

/-- how a reading ends: with the place of an error, or with a step and the place behind it -/
inductive PRes where
  | err (at' : Nat) (e : Int)
  | ok (x : Stp) (next : Nat)
/-- the bytes from a place up to another one -/
def Sp.cutL (s : ByteArray) (i j : Nat) : List UInt8 := (s.extract i j).data.toList

def Sp.nb (c : Int) : Bool := Sp.letter c || Sp.digit c || c == 95

def Sp.rdIdx (s : ByteArray) (i : Nat) : PRes :=
  let j := Sp.span Sp.digit s (i + 1)
  if j = s.size then .err j 4
  else if j = i + 1 ∨ (i + 2 < j ∧ Sp.byte s (i + 1) = 48) ∨ Sp.byte s j ≠ 93 then .err i 3
  else if 4096 ≤ Sp.num (Sp.cutL s (i + 1) j) then .err i 1
  else .ok ⟨ByteArray.empty, true, (Sp.num (Sp.cutL s (i + 1) j) : Int)⟩ (j + 1)
def Sp.rdName (s : ByteArray) (i : Nat) : PRes :=
  let j := Sp.span Sp.nb s i
  if i = s.size then .err i 4
  else if j = i then .err i 3
  else if Sp.isNm (s.extract i j) then .ok ⟨s.extract i j, false, 0⟩ j
  else .err i 8
def Sp.rdStep (s : ByteArray) (i ahead : Nat) : PRes :=
  if i ≠ 0 ∧ Sp.byte s i ≠ 46 ∧ Sp.byte s i ≠ 91 then .err i 3
  else if 64 ≤ ahead then .err i 2
  else if Sp.byte s i = 91 then Sp.rdIdx s i
  else if i = 0 then Sp.rdName s 0
  else Sp.rdName s (i + 1)
/-- how the reading of a way ends: with a place and an error, or the way -/
inductive PWay where
  | err (at' : Nat) (e : Int)
  | ok (l : List Stp)
def Sp.rdWay (s : ByteArray) : Nat → Nat → List Stp → PWay
  | 0, _, acc => .ok acc
  | f + 1, i, acc => if i < s.size then (match Sp.rdStep s i acc.length with | .err n e => .err n e | .ok x n => Sp.rdWay s f n (acc ++ [x])) else .ok acc

theorem Sp.rdIdx_bd {s : ByteArray} {i : Nat} (hi : i < s.size) : (∀ n e, Sp.rdIdx s i = .err n e → n ≤ s.size ∧ 1 ≤ e ∧ e ≤ 8) ∧ (∀ x n, Sp.rdIdx s i = .ok x n → i < n ∧ n ≤ s.size ∧ x.rule = 0) := by
  obtain ⟨h1, h2, _⟩ := Sp.span_bd Sp.digit s _ (i + 1) (Nat.le_refl _) (by omega)
  unfold Sp.rdIdx
  generalize Sp.span Sp.digit s (i + 1) = j at h1 h2 ⊢
  simp only
  by_cases c1 : j = s.size
  · rw [if_pos c1]
    exact ⟨fun n e h => by injection h with h h'; subst h h'; omega, fun x n h => by cases h⟩
  · rw [if_neg c1]
    by_cases c2 : j = i + 1 ∨ (i + 2 < j ∧ Sp.byte s (i + 1) = 48) ∨ Sp.byte s j ≠ 93
    · rw [if_pos c2]
      exact ⟨fun n e h => by injection h with h h'; subst h h'; omega, fun x n h => by cases h⟩
    · rw [if_neg c2]
      by_cases c3 : 4096 ≤ Sp.num (Sp.cutL s (i + 1) j)
      · rw [if_pos c3]
        exact ⟨fun n e h => by injection h with h h'; subst h h'; omega, fun x n h => by cases h⟩
      · rw [if_neg c3]
        refine ⟨fun n e h => (by cases h), fun x n h => ?_⟩
        injection h with h h'
        subst h h'
        refine ⟨by omega, by omega, ?_⟩
        rw [Stp.rule, if_pos rfl, if_pos (show ByteArray.empty.size = 0 from rfl), if_neg (by show ¬ ((Sp.num (Sp.cutL s (i + 1) j) : Int) < 0 ∨ 4096 ≤ (Sp.num (Sp.cutL s (i + 1) j) : Int)); omega)]
theorem Sp.rdName_bd {s : ByteArray} {i : Nat} (hi : i ≤ s.size) : (∀ n e, Sp.rdName s i = .err n e → n ≤ s.size ∧ 1 ≤ e ∧ e ≤ 8) ∧ (∀ x n, Sp.rdName s i = .ok x n → i < n ∧ n ≤ s.size ∧ x.rule = 0) := by
  obtain ⟨h1, h2, _⟩ := Sp.span_bd Sp.nb s _ i (Nat.le_refl _) hi
  unfold Sp.rdName
  generalize Sp.span Sp.nb s i = j at h1 h2 ⊢
  simp only
  by_cases c1 : i = s.size
  · rw [if_pos c1]
    exact ⟨fun n e h => by injection h with h h'; subst h h'; omega, fun x n h => by cases h⟩
  · rw [if_neg c1]
    by_cases c2 : j = i
    · rw [if_pos c2]
      exact ⟨fun n e h => by injection h with h h'; subst h h'; omega, fun x n h => by cases h⟩
    · rw [if_neg c2]
      cases c3 : Sp.isNm (s.extract i j) with
      | false =>
        rw [if_neg (by decide)]
        exact ⟨fun n e h => by injection h with h h'; subst h h'; omega, fun x n h => by cases h⟩
      | true =>
        rw [if_pos rfl]
        refine ⟨fun n e h => (by cases h), fun x n h => ?_⟩
        injection h with h h'
        subst h h'
        refine ⟨by omega, h2, ?_⟩
        rw [Stp.rule, if_neg (show ¬ (false = true) by decide), if_pos c3, if_pos rfl]
theorem Sp.rdStep_bd {s : ByteArray} {i ahead : Nat} (hi : i < s.size) : (∀ n e, Sp.rdStep s i ahead = .err n e → n ≤ s.size ∧ 1 ≤ e ∧ e ≤ 8) ∧ (∀ x n, Sp.rdStep s i ahead = .ok x n → i < n ∧ n ≤ s.size ∧ x.rule = 0 ∧ ahead < 64) := by
  unfold Sp.rdStep
  by_cases c1 : i ≠ 0 ∧ Sp.byte s i ≠ 46 ∧ Sp.byte s i ≠ 91
  · rw [if_pos c1]
    exact ⟨fun n e h => by injection h with h h'; subst h h'; omega, fun x n h => by cases h⟩
  · rw [if_neg c1]
    by_cases c2 : 64 ≤ ahead
    · rw [if_pos c2]
      exact ⟨fun n e h => by injection h with h h'; subst h h'; omega, fun x n h => by cases h⟩
    · rw [if_neg c2]
      by_cases c3 : Sp.byte s i = 91
      · rw [if_pos c3]
        exact ⟨(Sp.rdIdx_bd hi).1, fun x n h => by have := (Sp.rdIdx_bd hi).2 x n h; omega⟩
      · rw [if_neg c3]
        by_cases c4 : i = 0
        · rw [if_pos c4]
          exact ⟨(Sp.rdName_bd (by omega)).1, fun x n h => by have := (Sp.rdName_bd (by omega)).2 x n h; omega⟩
        · rw [if_neg c4]
          exact ⟨(Sp.rdName_bd (by omega)).1, fun x n h => by have := (Sp.rdName_bd (by omega)).2 x n h; omega⟩

theorem Sp.size_ext (s : ByteArray) (i j : Nat) (hj : j ≤ s.size) : (s.extract i j).size = j - i := by rw [ByteArray.size_extract]; omega
theorem Sp.byte_ext (s : ByteArray) (i j k : Nat) (hj : j ≤ s.size) (h : i + k < j) : Sp.byte (s.extract i j) k = Sp.byte s (i + k) := by
  unfold Sp.byte
  have h1 : k < (s.extract i j).data.size := by have := Sp.size_ext s i j hj; show k < (s.extract i j).size; omega
  have h2 : i + k < s.data.size := by show i + k < s.size; omega
  rw [Array.getD, dif_pos h1, Array.getD, dif_pos h2]
  have := ByteArray.getElem_extract (b := s) (start := i) (stop := j) (i := k) h1
  exact congrArg (fun x : UInt8 => (x.toNat : Int)) this
theorem Sp.ext_ext (s : ByteArray) (i k : Nat) (h : i + k ≤ s.size) : (s.extract i s.size).extract 0 k = s.extract i (i + k) := by
  rw [ByteArray.extract_extract]
  congr 1
  omega
theorem Sp.span_ext (p : Int → Bool) (s : ByteArray) (i : Nat) (hi : i ≤ s.size) : ∀ n k, s.size - i - k ≤ n → k ≤ s.size - i → i + Sp.span p (s.extract i s.size) k = Sp.span p s (i + k)
  | 0, k, hn, hk => by
    rw [Sp.span_end (s := s) (by omega), Sp.span_end (by rw [Sp.size_ext s i s.size (Nat.le_refl _)]; omega)]
  | n + 1, k, hn, hk => by
    have hz := Sp.size_ext s i s.size (Nat.le_refl _)
    by_cases h : i + k < s.size
    · have hb := Sp.byte_ext s i s.size k (Nat.le_refl _) h
      cases hp : p (Sp.byte s (i + k)) with
      | true =>
        rw [Sp.span_go h hp, Sp.span_go (by omega) (by rw [hb]; exact hp)]
        exact Sp.span_ext p s i hi n (k + 1) (by omega) (by omega)
      | false => rw [Sp.span_stop h hp, Sp.span_stop (by omega) (by rw [hb]; exact hp)]
    · rw [Sp.span_end h, Sp.span_end (by omega)]
theorem Sp.run_ext (p : Int → Bool) (s : ByteArray) (i : Nat) (hi : i ≤ s.size) : (s.extract i s.size).extract 0 (Sp.span p (s.extract i s.size) 0) = s.extract i (Sp.span p s i) := by
  have e := Sp.span_ext p s i hi _ 0 (Nat.le_refl _) (by omega)
  obtain ⟨_, h2, _⟩ := Sp.span_bd p s _ i (Nat.le_refl _) hi
  rw [Sp.ext_ext s i _ (by rw [e]; exact h2), e, Nat.add_zero]
theorem Sp.cutL_at (s : ByteArray) (i j k : Nat) (hj : j ≤ s.size) (h : i + k < j) : ∃ c : UInt8, (Sp.cutL s i j)[k]? = some c ∧ (c.toNat : Int) = Sp.byte s (i + k) := by
  have hz := Sp.size_ext s i j hj
  have h1 : k < (s.extract i j).data.toList.length := by rw [Array.length_toList]; show k < (s.extract i j).size; omega
  refine ⟨(s.extract i j).data.toList[k], List.getElem?_eq_getElem h1, ?_⟩
  rw [← Sp.byte_ext s i j k hj h]
  unfold Sp.byte
  rw [Array.getD, dif_pos (by rw [← Array.length_toList]; exact h1)]
  simp
theorem Sp.cutL_len (s : ByteArray) (i j : Nat) (hj : j ≤ s.size) : (Sp.cutL s i j).length = j - i := by
  unfold Sp.cutL; rw [Array.length_toList]; exact Sp.size_ext s i j hj
theorem Sp.cutL_digs (s : ByteArray) (i j : Nat) (hj : j ≤ s.size) (hd : ∀ k, i ≤ k → k < j → Sp.digit (Sp.byte s k) = true) : Sp.digs (Sp.cutL s i j) := by
  intro c hc
  obtain ⟨k, hk, e⟩ := List.mem_iff_getElem.1 hc
  have hl := Sp.cutL_len s i j hj
  obtain ⟨c', h1, h2⟩ := Sp.cutL_at s i j k hj (by omega)
  rw [List.getElem?_eq_getElem hk, e] at h1
  injection h1 with h1
  subst h1
  have := hd (i + k) (by omega) (by omega)
  unfold Sp.digit at this
  rw [← h2] at this
  have := of_decide_eq_true this
  omega
theorem Sp.cutL_head (s : ByteArray) (i j : Nat) (hj : j ≤ s.size) (h : i < j) (hb : Sp.byte s i ≠ 48) : (Sp.cutL s i j).head? ≠ some 48 := by
  obtain ⟨c, h1, h2⟩ := Sp.cutL_at s i j 0 hj (by omega)
  rw [List.head?_eq_getElem?, h1]
  intro e
  injection e with e
  subst e
  exact hb h2.symm
end Go.Proofs.YtghnipbcbbphbaaDoor
