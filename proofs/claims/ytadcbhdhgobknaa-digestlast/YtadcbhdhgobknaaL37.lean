/- Plain mathematics: two terms that can be are the same just if their keys are one. -/
import Derived.Test.YtadcbhdhgobknaaL28
import Derived.Test.YtadcbhdhgobknaaL31
import Derived.Test.YtadcbhdhgobknaaL36
import Derived.Test.YtadcbhdhgobknaaL20
namespace Go.Proofs.Ytadcbhdhgobknaa

theorem cmpS_zero {a b : ByteArray} : Sp.cmpS a b = 0 ↔ a = b := by
  unfold Sp.cmpS
  rw [cmp_eq_zero]
  constructor
  · intro h
    have h2 : a.data = b.data := Array.ext' h
    cases a; cases b; simp at h2; rw [h2]
  · rintro rfl; rfl
theorem cmpI_zero' {a b : Int} : Sp.cmpI a b = 0 ↔ a = b := ⟨cmpI_zero, fun h => by rw [h]; exact cmpI_self b⟩
theorem rank_inj {a b : Bool} : Sp.rank a = Sp.rank b ↔ a = b := by cases a <;> cases b <;> simp [Sp.rank]
theorem frank_inj {a b : Nat} (ha : a < 18446744073709551616) (hb : b < 18446744073709551616) : Sp.frank a = Sp.frank b ↔ a = b := by
  unfold Sp.frank; constructor
  · intro h; split at h <;> split at h <;> omega
  · rintro rfl; rfl
mutual
theorem Tm.cmp_sm : (s t : Tm) → s.Ok → s.Bdd → t.Bdd → (s.cmp t = 0 ↔ s.sm t = true)
  | .mk k b i f tx by' rf l fs c v, .mk k2 b2 i2 f2 tx2 by2 rf2 l2 fs2 c2 v2, ho, hs, ht => by
    obtain ⟨p1, p2, p3, p4⟩ := ho.parts
    rw [Tm.sm, Bool.and_eq_true, decide_eq_true_eq]
    by_cases hk : k = k2
    · subst hk
      simp only [Tm.Bdd] at hs ht
      have hk : k = 1 ∨ k = 2 ∨ k = 3 ∨ k = 4 ∨ k = 5 ∨ k = 6 ∨ k = 7 ∨ k = 8 ∨ k = 9 ∨ k = 10 := by omega
      rcases hk with rfl | rfl | rfl | rfl | rfl | rfl | rfl | rfl | rfl | rfl
      · rw [Tm.cmp_1]; simp
      · rw [Tm.cmp_2, cmpI_zero', rank_inj]; simp
      · rw [Tm.cmp_3, cmpI_zero']; simp
      · rw [Tm.cmp_4, cmpI_zero', frank_inj hs.2.1 ht.2.1]; simp
      · rw [Tm.cmp_5, cmpS_zero]; simp
      · rw [Tm.cmp_6, cmpS_zero]; simp
      · rw [Tm.cmp_7, cmpI_zero']; simp
      · rw [Tm.cmp_8, TmL.cmp_sm l l2 (p3 rfl) hs.2.2.2.2.1 ht.2.2.2.2.1]; simp
      · rw [Tm.cmp_9, TmF.cmp_sm fs fs2 (p4 (Or.inl rfl)) hs.2.2.2.2.2 ht.2.2.2.2.2]; simp
      · have hf := TmF.cmp_sm fs fs2 (p4 (Or.inr rfl)) hs.2.2.2.2.2 ht.2.2.2.2.2
        rw [Tm.cmp_10]
        by_cases e1 : Sp.cmpS c c2 = 0
        · rw [if_neg (by simp [e1])]
          have e1' := cmpS_zero.1 e1
          by_cases e2 : Sp.cmpI v v2 = 0
          · rw [if_neg (by simp [e2]), hf]
            have e2' := cmpI_zero'.1 e2
            simp [e1', e2']
          · rw [if_pos e2]
            have : v ≠ v2 := fun h => e2 (cmpI_zero'.2 h)
            simp [e2, this]
        · rw [if_pos e1]
          have : c ≠ c2 := fun h => e1 (cmpS_zero.2 h)
          simp [e1, this]
    · have e : Sp.cmpI k k2 ≠ 0 := fun h => hk (cmpI_zero'.1 h)
      rw [Tm.cmp_ne e]
      simp [e, hk]
theorem TmL.cmp_sm : (l r : TmL) → l.Ok → l.Bdd → r.Bdd → (l.cmp r = 0 ↔ l.sm r = true)
  | .nil, .nil, _, _, _ => by simp [TmL.cmp, TmL.sm]
  | .nil, .cons _ _, _, _, _ => by simp [TmL.cmp, TmL.sm]
  | .cons _ _, .nil, _, _, _ => by simp [TmL.cmp, TmL.sm]
  | .cons t l, .cons u r, ho, hs, ht => by
    simp only [TmL.Bdd] at hs ht
    have h1 := Tm.cmp_sm t u ho.head.1 hs.1 ht.1
    have h2 := TmL.cmp_sm l r ho.head.2 hs.2 ht.2
    rw [TmL.cmp, TmL.sm, Bool.and_eq_true, ← h1, ← h2]
    by_cases e : t.cmp u = 0
    · rw [if_neg (by simp [e])]; simp [e]
    · rw [if_pos e]; simp [e]
theorem TmF.cmp_sm : (l r : TmF) → l.Ok → l.Bdd → r.Bdd → (l.cmp r = 0 ↔ l.sm r = true)
  | .nil, .nil, _, _, _ => by simp [TmF.cmp, TmF.sm]
  | .nil, .cons _ _ _, _, _, _ => by simp [TmF.cmp, TmF.sm]
  | .cons _ _ _, .nil, _, _, _ => by simp [TmF.cmp, TmF.sm]
  | .cons n t l, .cons m u r, ho, hs, ht => by
    simp only [TmF.Bdd] at hs ht
    have h1 := Tm.cmp_sm t u ho.head.1 hs.1 ht.1
    have h2 := TmF.cmp_sm l r ho.head.2 hs.2 ht.2
    rw [TmF.cmp, TmF.sm, Bool.and_eq_true, Bool.and_eq_true, decide_eq_true_eq, ← h1, ← h2]
    by_cases e0 : Sp.cmpS n m = 0
    · rw [if_neg (by simp [e0])]
      have e0' := cmpS_zero.1 e0
      by_cases e : t.cmp u = 0
      · rw [if_neg (by simp [e])]; simp [e, e0']
      · rw [if_pos e]; simp [e]
    · rw [if_pos e0]
      have : n ≠ m := fun h => e0 (cmpS_zero.2 h)
      simp [e0, this]
end
/-- a value's key: its bytes as a text, none of one that can't be -/
def Tm.key (t : Tm) : ByteArray := Sp.txt t.encE
theorem Tm.encE_by (t : Tm) : By t.encE := by
  unfold Tm.encE; split
  · rename_i h; exact Tm.enc_by t (Tm.ok_all h)
  · exact By.nil
theorem key_iff (x y : Tm) : x.key = y.key ↔ x.encE = y.encE := by
  constructor
  · intro h
    have := congrArg Sp.bts h
    unfold Tm.key at this
    rwa [bts_txt x.encE_by, bts_txt y.encE_by] at this
  · intro h; unfold Tm.key; rw [h]
theorem key_same {x y : Tm} (hx : x.all.e = 0) (hy : y.all.e = 0) (bx : x.Bdd) (b_y : y.Bdd) : decide (x.key = y.key) = x.sameB y := by
  have h1 := Tm.cmp_sm x y (Tm.ok_all hx) bx b_y
  have h2 := sm_iff hx hy bx b_y
  have e1 : x.encE = x.enc := by unfold Tm.encE; rw [if_pos hx]
  have e2 : y.encE = y.enc := by unfold Tm.encE; rw [if_pos hy]
  unfold Tm.sameB
  have : (x.key = y.key) ↔ (x.all.e = 0 ∧ y.all.e = 0 ∧ x.cmp y = 0) := by
    rw [key_iff, e1, e2, h1, h2, decide_eq_true_eq]
    exact ⟨fun h => ⟨hx, hy, h⟩, fun h => h.2.2⟩
  exact decide_eq_decide.2 this
/-- the sum over the first k bytes -/
def Sp.fnv (xs : List Int) : Nat → Int
  | 0 => 14695981039346656037
  | k + 1 => IntKind.u64.wrap (bits .xor .u64 (Sp.fnv xs k) (IntKind.u64.wrap (xs.getD k 0)) * 1099511628211)
/-- a value's sum: 0 of one that can't be -/
def Tm.sum (t : Tm) : Int := if t.all.e = 0 then Sp.fnv t.encE t.encE.length else 0
end Go.Proofs.Ytadcbhdhgobknaa

/- digest.Key and digest.Sum. -/
namespace Go.Proofs.Ytadcbhdhgobknaa
open Go.RowKit

theorem outs_rdO' {w : World} {base : Nat} {a : Option Addr} {cap : Nat} {xs : List Int} (h : Outs w base a cap xs) : RdB w (Lo w.heap.size) a xs := by
  cases a with
  | none =>
    intro j u hu
    have hp : 0 < xs.length := by have := (List.getElem?_eq_some_iff.1 hu).1; omega
    obtain ⟨g, e⟩ := h.some hp
    simp at e
  | some p =>
    intro j u hu
    have hp : 0 < xs.length := by have := (List.getElem?_eq_some_iff.1 hu).1; omega
    obtain ⟨g, e⟩ := h.some hp
    injection e with e
    subst e
    exact (outs_rd h).1 j u hu

set_option maxRecDepth 100000 in
set_option maxHeartbeats 1000000 in
theorem Key_any (t : Tm) (v : Value) (B : Nat) (w : World) (hB : B ≤ w.heap.size) (h : t.V w (Lo B) v) (hb : t.Bdd) :
    Calls Try.prog 29 #[v] w fun e w' => e = .returned (.tuple #[.string t.key, .int .i64 t.all.e]) ∧ Below w.heap.size w w' := by
  have HE : Hid (∀ W, Below w.heap.size w W → Calls Try.prog 55 #[v] W (EncE t W)) := fun W hW =>
    Encode_all t v B W (Nat.le_trans hB hW.size) (t.V_same (fun k hk => hW.block k (Nat.lt_of_lt_of_le hk hB)) (fun _ h => h) v h) hb
  clear h hb
  go_enter Try.func29, Try.ntmps29
  go_wp2_with fail
  refine (HE.out _ (Below.refl _ _)).mono ?_
  rintro e w1 ⟨m, a, cap, rfl, H⟩
  have hcv : ∀ W, Below w1.heap.size w1 W → (convert 23 9 (.slice a m cap)).run Try.prog W = .ok (.string t.key) W := fun W hW => by
    obtain ⟨rfl, ho, _⟩ := H.out
    exact conv_rd t.encE a cap _ W ((outs_rdO' ho).same (B' := Lo w1.heap.size) (fun k hk => hW.block k hk) (fun _ h => h))
  have hcv1 := hcv w1 (Below.refl _ _)
  have hcv2 := hcv w1.drew (Below.refl _ _).drew
  have hcv : Hid _ := hcv
  go_wp2_with fail
  go_ret2
  exact ⟨rfl, H.out.2.2⟩

end Go.Proofs.Ytadcbhdhgobknaa

/- digest.Map's Put, Get and Delete of a key that is a value. -/
namespace Go.Proofs.Ytadcbhdhgobknaa
open Go.RowKit

theorem key_size {t : Tm} (h : t.Bdd) : t.key.size ≤ maxLen := by
  have h1 := Tm.encE_le h
  have h2 : t.key.size = t.encE.length := by unfold Tm.key; exact txt_size _
  rw [h2]
  exact Nat.le_trans h1 (by decide)
theorem keyE (k : Tm) (kv : Value) (w : World) (hk : k.V w (Lo w.heap.size) kv) (bk : k.Bdd) : Calls Try.prog 29 #[kv] w (KeyE k.key k.all.e w) := Key_any k kv w.heap.size w (Nat.le_refl _) hk bk
theorem Put_any (G : List (ByteArray × Tm)) (mb : Nat) (k t : Tm) (kv v : Value) (w : World) (h : DM w mb G) (hk : k.V w (Lo w.heap.size) kv) (bk : k.Bdd) (hv : t.V w (Lo w.heap.size) v) (bt : t.Bdd) :
    Calls Try.prog 33 #[.pointer (some ⟨mb, 0, none⟩), kv, v] w (PutE G k.key k.all.e t mb w) := by
  have hK := keyE k kv w hk bk
  by_cases he : k.all.e = 0
  · rw [he] at hK ⊢
    by_cases ht : t.all.e = 0
    · exact Put_ok G mb kv v k.key t (key_size bk) w h hK hv ht bt
    · exact Put_badVal G mb kv v k.key t w h hK hv ht
  · exact Put_badKey G mb kv v k.key k.all.e t w h hK he
theorem Get_val (G : List (ByteArray × Tm)) (mb : Nat) (k : Tm) (kv : Value) (w : World) (h : DM w mb G) (hk : k.V w (Lo w.heap.size) kv) (bk : k.Bdd) :
    Calls Try.prog 35 #[.pointer (some ⟨mb, 0, none⟩), kv] w (GetE G k.key k.all.e w) := Get_any G mb kv k.key k.all.e (key_size bk) w h (keyE k kv w hk bk)
theorem Delete_val (G : List (ByteArray × Tm)) (mb : Nat) (k : Tm) (kv : Value) (w : World) (h : DM w mb G) (hk : k.V w (Lo w.heap.size) kv) (bk : k.Bdd) :
    Calls Try.prog 34 #[.pointer (some ⟨mb, 0, none⟩), kv] w (DelE G k.key k.all.e mb w) := Delete_any G mb kv k.key k.all.e (key_size bk) w h (keyE k kv w hk bk)
end Go.Proofs.Ytadcbhdhgobknaa

/- Plain mathematics of what a Map keeps while others are put and taken away. -/
namespace Go.Proofs.Ytadcbhdhgobknaa
open Go.RowKit

def TmL.nth : TmL → Nat → Option Tm
  | .nil, _ => none
  | .cons t _, 0 => some t
  | .cons _ l, j + 1 => l.nth j
theorem TmL.nth_some : ∀ (L : TmL) (j : Nat), j < L.len → ∃ t, L.nth j = some t
  | .nil, j, h => by simp [TmL.len] at h
  | .cons t l, 0, _ => ⟨t, rfl⟩
  | .cons t l, j + 1, h => TmL.nth_some l j (by simp only [TmL.len] at h; omega)
theorem TmL.In_nth {w : World} {B : Nat → Prop} : ∀ (L : TmL) (a : Option Addr) (j0 j : Nat) (t : Tm), L.In w B a j0 → L.nth j = some t → ∃ g o cs, a = some ⟨g, o, none⟩ ∧ B g ∧ (∀ x, x < 11 → w.cell? ⟨g, o + (j0 + j) * 11 + x, none⟩ = cs[x]?) ∧ t.In w B cs
  | .nil, _, _, _, _, _, h => by simp [TmL.nth] at h
  | .cons u l, a, j0, 0, t, hi, h => by
    simp only [TmL.nth, Option.some.injEq] at h
    subst h
    simp only [TmL.In] at hi
    obtain ⟨g, o, cs, e, hg, hc, ht, _⟩ := hi
    exact ⟨g, o, cs, e, hg, hc, ht⟩
  | .cons u l, a, j0, j + 1, t, hi, h => by
    simp only [TmL.nth] at h
    simp only [TmL.In] at hi
    obtain ⟨_, _, _, _, _, _, _, hl⟩ := hi
    obtain ⟨g, o, cs, e, hg, hc, ht⟩ := TmL.In_nth l a (j0 + 1) j t hl h
    exact ⟨g, o, cs, e, hg, fun x hx => by rw [show j0 + (j + 1) = j0 + 1 + j by omega]; exact hc x hx, ht⟩
theorem look_put_same : ∀ (G : List (ByteArray × Tm)) (s : ByteArray) (t : Tm), Sp.look (Sp.put G s t) s = some t
  | [], s, t => by simp [Sp.put, Sp.look]
  | g :: G, s, t => by
    by_cases e : g.1 = s
    · simp [Sp.put, Sp.look, e]
    · simp [Sp.put, Sp.look, e, look_put_same G s t]
theorem look_put_other {s r : ByteArray} (h : s ≠ r) : ∀ (G : List (ByteArray × Tm)) (t : Tm), Sp.look (Sp.put G s t) r = Sp.look G r
  | [], t => by simp [Sp.put, Sp.look, h]
  | g :: G, t => by
    by_cases e : g.1 = s
    · have : g.1 ≠ r := by rw [e]; exact h
      simp [Sp.put, Sp.look, e, h]
    · simp only [Sp.put, if_neg e, Sp.look, look_put_other h G t]
theorem look_del_other {s r : ByteArray} (h : s ≠ r) : ∀ (G : List (ByteArray × Tm)), Sp.look (Sp.del G s) r = Sp.look G r
  | [] => by simp [Sp.del, Sp.look]
  | g :: G => by
    by_cases e : g.1 = s
    · simp [Sp.del, Sp.look, e, h]
    · simp only [Sp.del, if_neg e, Sp.look, look_del_other h G]
/-- the text of one of the first n others that can be and are not the same as the key -/
def Oth (key : Tm) (L : TmL) (n : Nat) (s : ByteArray) : Prop := ∃ j x, j < n ∧ L.nth j = some x ∧ x.all.e = 0 ∧ x.sameB key = false ∧ x.key = s
/-- what is kept: under the key o, and else only under others -/
structure Kp (key : Tm) (L : TmL) (n : Nat) (o : Option Tm) (G : List (ByteArray × Tm)) : Prop where
  ok : o ≠ none → key.all.e = 0
  at' : key.all.e = 0 → Sp.look G key.key = o
  mem : ∀ g ∈ G, (key.all.e = 0 ∧ g.1 = key.key) ∨ Oth key L n g.1
theorem Oth.up {key : Tm} {L : TmL} {n : Nat} {s : ByteArray} (h : Oth key L n s) : Oth key L (n + 1) s := by
  obtain ⟨j, x, hj, r⟩ := h
  exact ⟨j, x, by omega, r⟩
theorem Kp.nil (key : Tm) (L : TmL) (n : Nat) : Kp key L n none [] := ⟨fun h => absurd rfl h, fun _ => rfl, fun g hg => by cases hg⟩
theorem Kp.putKey {key : Tm} {L : TmL} {n : Nat} {o : Option Tm} {G : List (ByteArray × Tm)} (h : Kp key L n o G) (hk : key.all.e = 0) (t : Tm) : Kp key L n (some t) (Sp.put G key.key t) := by
  refine ⟨fun _ => hk, fun _ => look_put_same _ _ _, fun g hg => ?_⟩
  rcases put_mem _ _ _ g hg with rfl | hg
  · exact .inl ⟨hk, rfl⟩
  · exact h.mem g hg
theorem Kp.skip {key : Tm} {L : TmL} {n : Nat} {o : Option Tm} {G : List (ByteArray × Tm)} (h : Kp key L n o G) : Kp key L (n + 1) o G :=
  ⟨h.ok, h.at', fun g hg => (h.mem g hg).imp id Oth.up⟩
theorem other_ne {key x : Tm} (hk : key.all.e = 0) (hx : x.all.e = 0) (bk : key.Bdd) (bx : x.Bdd) (hs : x.sameB key = false) : x.key ≠ key.key := fun e => by
  have := key_same hx hk bx bk
  rw [hs] at this
  simp [e] at this
theorem Kp.putOther {key x : Tm} {L : TmL} {n : Nat} {o : Option Tm} {G : List (ByteArray × Tm)} (h : Kp key L n o G) (hn : L.nth n = some x) (hx : x.all.e = 0) (hs : x.sameB key = false) (bk : key.Bdd) (bx : x.Bdd) (t : Tm) : Kp key L (n + 1) o (Sp.put G x.key t) := by
  refine ⟨h.ok, fun hk => by rw [look_put_other (other_ne hk hx bk bx hs)]; exact h.at' hk, fun g hg => ?_⟩
  rcases put_mem _ _ _ g hg with rfl | hg
  · exact .inr ⟨n, x, by omega, hn, hx, hs, rfl⟩
  · exact (h.mem g hg).imp id Oth.up
theorem Kp.del {key x : Tm} {L : TmL} {n : Nat} {o : Option Tm} {G : List (ByteArray × Tm)} (h : Kp key L (n + 1) o G) (ha : Apart G) (hn : L.nth n = some x) (hx : x.all.e = 0) (hs : x.sameB key = false) (bk : key.Bdd) (bx : x.Bdd) : Kp key L n o (Sp.del G x.key) := by
  refine ⟨h.ok, fun hk => by rw [look_del_other (other_ne hk hx bk bx hs)]; exact h.at' hk, fun g hg => ?_⟩
  obtain ⟨h1, h2⟩ := (apart_del G x.key ha).2 g hg
  refine (h.mem g h2).imp id fun ⟨j, y, hj, hy, r1, r2, r3⟩ => ⟨j, y, ?_, hy, r1, r2, r3⟩
  by_cases e : j = n
  · subst e
    rw [hn] at hy
    injection hy with hy
    subst hy
    exact absurd r3.symm h1
  · omega
theorem Kp.drop {key x : Tm} {L : TmL} {n : Nat} {o : Option Tm} {G : List (ByteArray × Tm)} (h : Kp key L (n + 1) o G) (hn : L.nth n = some x) (hx : x.all.e ≠ 0 ∨ x.sameB key = true) : Kp key L n o G := by
  refine ⟨h.ok, h.at', fun g hg => (h.mem g hg).imp id fun ⟨j, y, hj, hy, r1, r2, r3⟩ => ⟨j, y, ?_, hy, r1, r2, r3⟩⟩
  by_cases e : j = n
  · subst e
    rw [hn] at hy
    injection hy with hy
    subst hy
    rcases hx with hx | hx
    · exact absurd r1 hx
    · rw [hx] at r2; cases r2
  · omega
theorem Kp.none {key : Tm} {L : TmL} {G : List (ByteArray × Tm)} (h : Kp key L 0 none G) : G = [] := by
  cases G with
  | nil => rfl
  | cons g G =>
    rcases h.mem g (List.mem_cons_self ..) with ⟨hk, e⟩ | ⟨j, _, hj, _⟩
    · have := h.at' hk
      simp [Sp.look, e] at this
    · omega
theorem Kp.some {key t : Tm} {L : TmL} {G : List (ByteArray × Tm)} (h : Kp key L 0 (some t) G) (ha : Apart G) : G.length = 1 := by
  have hk := h.ok (by simp)
  have h1 : ∀ g ∈ G, g.1 = key.key := fun g hg => by
    rcases h.mem g hg with ⟨_, e⟩ | ⟨j, _, hj, _⟩
    · exact e
    · omega
  match G, h, ha, h1 with
  | [], h, _, _ => have := h.at' hk; simp [Sp.look] at this
  | [g], _, _, _ => rfl
  | g :: g2 :: G, _, ha, h1 =>
    simp only [Apart, List.pairwise_cons] at ha
    exact absurd ((h1 g (by simp)).trans (h1 g2 (by simp)).symm) (ha.1 g2 (by simp))
theorem DM.apart {w : World} {mb : Nat} {G : List (ByteArray × Tm)} (h : DM w mb G) : Apart G := by
  obtain ⟨kv, _, ⟨_, rfl⟩ | ⟨b, es, clock, _, _, hm⟩⟩ := h.lies
  · simp [Apart]
  · exact hm.apart
end Go.Proofs.Ytadcbhdhgobknaa

