/- check.plainlyOf: whether a type is plainly of another one. -/
import Derived.Test.YtjdjpbdfchhcfaaGreatKE42
import Derived.Test.YtjdjpbdfchhcfaaGreatKE43
import Derived.Test.YtjdjpbdfchhcfaaGreatKE1
import Derived.Test.YtjdjpbdfchhcfaaGreatKE25
namespace Go.Proofs.YtjdjpbdfchhcfaaGreat
open Go.RowKit

def TyL.anyS (pr : Ty → Bool) : TyL → Bool
  | .nil => false
  | .cons t l => pr t || l.anyS pr
theorem isKind_any (b : Nat) (k o q : Int) (w : World) (c0 : w.cell? ⟨b, 0, none⟩ = some (.int .i64 k)) (c1 : w.cell? ⟨b, 1, none⟩ = some (.int .i64 o)) : Calls Tryz.prog 50 #[.pointer (some ⟨b, 0, none⟩), .int .i64 q] w fun e w' => e = .returned (.bool (k == 3 && o == q)) ∧ w = w' := by
  by_cases hk : k = 3
  · subst hk
    go_enter Tryz.func50, Tryz.ntmps50
    go_wp2
    go_ret
    exact ⟨by simp, rfl⟩
  · have hkb : (k == 3) = false := by simp [hk]
    go_enter Tryz.func50, Tryz.ntmps50
    go_wp2
    go_ret
    exact ⟨by simp [hkb], rfl⟩

set_option maxRecDepth 100000 in
set_option maxHeartbeats 4000000 in
theorem indexS1_any (pr : Ty → Bool) (N : Nat) (p : TyL) (hN : p.sz ≤ N) (hok : p.ok = true) (ap : Option Addr) (cp b1 B : Nat) (w : World) (hB : B ≤ w.heap.size) (hp : p.Sh w (Lo B) ap 0) (hl : p.len ≤ 70368744177664)
    (HT : ∀ (t : Ty) (bp : Nat) (W : World), t.sz ≤ N → t.ok = true → t.Sh W (Lo B) bp → Below w.heap.size w W → Calls Tryz.prog 48 #[.pointer (some ⟨bp, 0, none⟩), .pointer (some ⟨b1, 0, none⟩)] W fun e w' => e = .returned (.bool (pr t)) ∧ Below W.heap.size W w') :
    Calls Tryz.prog 89 #[.slice ap p.len cp, .func (.func 48) #[] #[.pointer (some ⟨b1, 0, none⟩)]] w fun e w' => ∃ q : Int, e = .returned (.int .i64 q) ∧ p.anyS pr = decide (0 ≤ q) ∧ Below w.heap.size w w' := by
  have HS : Hid (∀ W, Below w.heap.size w W → Same (Lo B) w W) := fun W hW k hk => hW.block k (Nat.lt_of_lt_of_le hk hB)
  have HCH : Hid (p.Sh w (Lo B) ap 0 ∧ ∀ (t : Ty) (bp : Nat) (W : World), t.sz ≤ N → t.ok = true → t.Sh W (Lo B) bp → Below w.heap.size w W → Calls Tryz.prog 48 #[.pointer (some ⟨bp, 0, none⟩), .pointer (some ⟨b1, 0, none⟩)] W fun e w' => e = .returned (.bool (pr t)) ∧ Below W.heap.size W w') := ⟨hp, HT⟩
  clear hp HT hB
  go_enter Tryz.func89, Tryz.ntmps89
  go_wp2_with fail
  go_loopw [8] (fun i wr => ∃ (k : Nat) (l : TyL), i = .int .i64 k ∧ l.len + k = p.len ∧ l.sz ≤ N ∧ l.ok = true ∧ Hid (Below w.heap.size w wr ∧ l.Sh w (Lo B) ap k ∧ p.anyS pr = l.anyS pr)) (fun i _ => p.len - (intOf i).toNat)
  case atStart => exact ⟨0, p, rfl, rfl, hN, hok, ⟨Below.refl _ _, HCH.out.1, rfl⟩⟩
  case round =>
    obtain ⟨k, l, rfl, hlk, hlN, hlo, HK⟩ := hrel
    cases l with
    | nil =>
      have h1 : p.len ≤ k := by simp [TyL.len] at hlk; omega
      have HR : Hid (p.anyS pr = false ∧ Below w.heap.size w wr) := ⟨HK.out.2.2, HK.out.1⟩
      clear hlk HK
      go_wp2_with fail
      go_ret
      exact ⟨-1, rfl, by rw [HR.out.1]; rfl, HR.out.2⟩
    | cons t l =>
      obtain ⟨hbw, hin, hany⟩ := HK.out
      simp only [TyL.Sh] at hin
      obtain ⟨g, o, bp, rfl, hgg, hc, hti, hin'⟩ := hin
      have hk1 : k < p.len := by simp only [TyL.len] at hlk; omega
      have HL : Hid (l.len + (k + 1) = p.len) := by show _ = _; simp only [TyL.len] at hlk; omega
      have htN : t.sz ≤ N ∧ l.sz ≤ N := by simp [TyL.sz] at hlN; omega
      have hto : t.ok = true ∧ l.ok = true := by simpa [TyL.ok] using hlo
      have hs := HS.out wr hbw
      have e0 : wr.cell? ⟨g, o + k, none⟩ = some (.pointer (some ⟨bp, 0, none⟩)) := by rw [hs.cell (p := ⟨g, o + k, none⟩) hgg]; exact hc
      have HO : Hid (Calls Tryz.prog 48 #[.pointer (some ⟨bp, 0, none⟩), .pointer (some ⟨b1, 0, none⟩)] wr fun e w' => e = .returned (.bool (pr t)) ∧ Below wr.heap.size wr w') := HCH.out.2 t bp wr htN.1 hto.1 (t.Sh_same hs (fun _ h => h) bp hti) hbw
      have HN : Hid (Below w.heap.size w wr ∧ l.Sh w (Lo B) (some ⟨g, o, none⟩) (k + 1) ∧ p.anyS pr = (pr t || l.anyS pr)) := ⟨hbw, hin', by rw [hany]; rfl⟩
      have hi0 : (0 : Int) ≤ (k : Int) := Int.natCast_nonneg _
      have hi1 : (k : Int) < (p.len : Int) := by omega
      clear hlk hlN hlo hbw hin' hany HK hc hti hs hgg
      generalize pr t = r at *
      cases r with
      | true =>
        go_wp2_with fail
        refine HO.out.mono ?_
        rintro e w1 ⟨rfl, hb2⟩
        have H1 : Hid (Below w.heap.size w w1) := HN.out.1.trans (hb2.mono HN.out.1.size)
        clear hb2
        go_wp2_with fail
        go_ret
        exact ⟨(k : Int), rfl, by rw [HN.out.2.2]; simp, H1.out⟩
      | false =>
        go_wp2_with fail
        refine HO.out.mono ?_
        rintro e w1 ⟨rfl, hb2⟩
        have H1 : Hid (Below w.heap.size w w1) := HN.out.1.trans (hb2.mono HN.out.1.size)
        clear hb2
        go_wp2_with fail
        go_roundw
        case rel => exact ⟨k + 1, l, by go_num, HL.out, htN.2, hto.2, ⟨H1.out, HN.out.2.1, by rw [HN.out.2.2]; simp⟩⟩
        case measure => simp [intOf]; omega
set_option maxRecDepth 100000 in
theorem containsS1_any (pr : Ty → Bool) (N : Nat) (p : TyL) (hN : p.sz ≤ N) (hok : p.ok = true) (ap : Option Addr) (cp b1 B : Nat) (w : World) (hB : B ≤ w.heap.size) (hp : p.Sh w (Lo B) ap 0) (hl : p.len ≤ 70368744177664)
    (HT : ∀ (t : Ty) (bp : Nat) (W : World), t.sz ≤ N → t.ok = true → t.Sh W (Lo B) bp → Below w.heap.size w W → Calls Tryz.prog 48 #[.pointer (some ⟨bp, 0, none⟩), .pointer (some ⟨b1, 0, none⟩)] W fun e w' => e = .returned (.bool (pr t)) ∧ Below W.heap.size W w') :
    Calls Tryz.prog 47 #[.slice ap p.len cp, .func (.func 48) #[] #[.pointer (some ⟨b1, 0, none⟩)]] w fun e w' => e = .returned (.bool (p.anyS pr)) ∧ Below w.heap.size w w' := by
  have HI : Hid (Calls Tryz.prog 89 #[.slice ap p.len cp, .func (.func 48) #[] #[.pointer (some ⟨b1, 0, none⟩)]] w fun e w' => ∃ q : Int, e = .returned (.int .i64 q) ∧ p.anyS pr = decide (0 ≤ q) ∧ Below w.heap.size w w') := indexS1_any pr N p hN hok ap cp b1 B w hB hp hl HT
  clear HT hp hN hok hB
  generalize p.anyS pr = r at *
  go_enter Tryz.func47, Tryz.ntmps47
  go_wp2_with fail
  refine HI.out.mono ?_
  rintro e w1 ⟨q, rfl, hq, hb1⟩
  have H1 : Hid (Below w.heap.size w w1 ∧ r = decide (0 ≤ q)) := ⟨hb1, hq⟩
  clear hb1 hq
  go_wp2_with fail
  go_ret
  exact ⟨by rw [H1.out.2]; rfl, H1.out.1⟩

set_option maxRecDepth 100000 in
set_option maxHeartbeats 4000000 in
theorem indexS2_any (pr : Ty → Bool) (N : Nat) (p : TyL) (hN : p.sz ≤ N) (hok : p.ok = true) (ap : Option Addr) (cp b1 B : Nat) (w : World) (hB : B ≤ w.heap.size) (hp : p.Sh w (Lo B) ap 0) (hl : p.len ≤ 70368744177664)
    (HT : ∀ (t : Ty) (bp : Nat) (W : World), t.sz ≤ N → t.ok = true → t.Sh W (Lo B) bp → Below w.heap.size w W → Calls Tryz.prog 49 #[.pointer (some ⟨bp, 0, none⟩), .pointer (some ⟨b1, 0, none⟩)] W fun e w' => e = .returned (.bool (pr t)) ∧ Below W.heap.size W w') :
    Calls Tryz.prog 89 #[.slice ap p.len cp, .func (.func 49) #[] #[.pointer (some ⟨b1, 0, none⟩)]] w fun e w' => ∃ q : Int, e = .returned (.int .i64 q) ∧ p.anyS pr = decide (0 ≤ q) ∧ Below w.heap.size w w' := by
  have HS : Hid (∀ W, Below w.heap.size w W → Same (Lo B) w W) := fun W hW k hk => hW.block k (Nat.lt_of_lt_of_le hk hB)
  have HCH : Hid (p.Sh w (Lo B) ap 0 ∧ ∀ (t : Ty) (bp : Nat) (W : World), t.sz ≤ N → t.ok = true → t.Sh W (Lo B) bp → Below w.heap.size w W → Calls Tryz.prog 49 #[.pointer (some ⟨bp, 0, none⟩), .pointer (some ⟨b1, 0, none⟩)] W fun e w' => e = .returned (.bool (pr t)) ∧ Below W.heap.size W w') := ⟨hp, HT⟩
  clear hp HT hB
  go_enter Tryz.func89, Tryz.ntmps89
  go_wp2_with fail
  go_loopw [8] (fun i wr => ∃ (k : Nat) (l : TyL), i = .int .i64 k ∧ l.len + k = p.len ∧ l.sz ≤ N ∧ l.ok = true ∧ Hid (Below w.heap.size w wr ∧ l.Sh w (Lo B) ap k ∧ p.anyS pr = l.anyS pr)) (fun i _ => p.len - (intOf i).toNat)
  case atStart => exact ⟨0, p, rfl, rfl, hN, hok, ⟨Below.refl _ _, HCH.out.1, rfl⟩⟩
  case round =>
    obtain ⟨k, l, rfl, hlk, hlN, hlo, HK⟩ := hrel
    cases l with
    | nil =>
      have h1 : p.len ≤ k := by simp [TyL.len] at hlk; omega
      have HR : Hid (p.anyS pr = false ∧ Below w.heap.size w wr) := ⟨HK.out.2.2, HK.out.1⟩
      clear hlk HK
      go_wp2_with fail
      go_ret
      exact ⟨-1, rfl, by rw [HR.out.1]; rfl, HR.out.2⟩
    | cons t l =>
      obtain ⟨hbw, hin, hany⟩ := HK.out
      simp only [TyL.Sh] at hin
      obtain ⟨g, o, bp, rfl, hgg, hc, hti, hin'⟩ := hin
      have hk1 : k < p.len := by simp only [TyL.len] at hlk; omega
      have HL : Hid (l.len + (k + 1) = p.len) := by show _ = _; simp only [TyL.len] at hlk; omega
      have htN : t.sz ≤ N ∧ l.sz ≤ N := by simp [TyL.sz] at hlN; omega
      have hto : t.ok = true ∧ l.ok = true := by simpa [TyL.ok] using hlo
      have hs := HS.out wr hbw
      have e0 : wr.cell? ⟨g, o + k, none⟩ = some (.pointer (some ⟨bp, 0, none⟩)) := by rw [hs.cell (p := ⟨g, o + k, none⟩) hgg]; exact hc
      have HO : Hid (Calls Tryz.prog 49 #[.pointer (some ⟨bp, 0, none⟩), .pointer (some ⟨b1, 0, none⟩)] wr fun e w' => e = .returned (.bool (pr t)) ∧ Below wr.heap.size wr w') := HCH.out.2 t bp wr htN.1 hto.1 (t.Sh_same hs (fun _ h => h) bp hti) hbw
      have HN : Hid (Below w.heap.size w wr ∧ l.Sh w (Lo B) (some ⟨g, o, none⟩) (k + 1) ∧ p.anyS pr = (pr t || l.anyS pr)) := ⟨hbw, hin', by rw [hany]; rfl⟩
      have hi0 : (0 : Int) ≤ (k : Int) := Int.natCast_nonneg _
      have hi1 : (k : Int) < (p.len : Int) := by omega
      clear hlk hlN hlo hbw hin' hany HK hc hti hs hgg
      generalize pr t = r at *
      cases r with
      | true =>
        go_wp2_with fail
        refine HO.out.mono ?_
        rintro e w1 ⟨rfl, hb2⟩
        have H1 : Hid (Below w.heap.size w w1) := HN.out.1.trans (hb2.mono HN.out.1.size)
        clear hb2
        go_wp2_with fail
        go_ret
        exact ⟨(k : Int), rfl, by rw [HN.out.2.2]; simp, H1.out⟩
      | false =>
        go_wp2_with fail
        refine HO.out.mono ?_
        rintro e w1 ⟨rfl, hb2⟩
        have H1 : Hid (Below w.heap.size w w1) := HN.out.1.trans (hb2.mono HN.out.1.size)
        clear hb2
        go_wp2_with fail
        go_roundw
        case rel => exact ⟨k + 1, l, by go_num, HL.out, htN.2, hto.2, ⟨H1.out, HN.out.2.1, by rw [HN.out.2.2]; simp⟩⟩
        case measure => simp [intOf]; omega
set_option maxRecDepth 100000 in
theorem containsS2_any (pr : Ty → Bool) (N : Nat) (p : TyL) (hN : p.sz ≤ N) (hok : p.ok = true) (ap : Option Addr) (cp b1 B : Nat) (w : World) (hB : B ≤ w.heap.size) (hp : p.Sh w (Lo B) ap 0) (hl : p.len ≤ 70368744177664)
    (HT : ∀ (t : Ty) (bp : Nat) (W : World), t.sz ≤ N → t.ok = true → t.Sh W (Lo B) bp → Below w.heap.size w W → Calls Tryz.prog 49 #[.pointer (some ⟨bp, 0, none⟩), .pointer (some ⟨b1, 0, none⟩)] W fun e w' => e = .returned (.bool (pr t)) ∧ Below W.heap.size W w') :
    Calls Tryz.prog 47 #[.slice ap p.len cp, .func (.func 49) #[] #[.pointer (some ⟨b1, 0, none⟩)]] w fun e w' => e = .returned (.bool (p.anyS pr)) ∧ Below w.heap.size w w' := by
  have HI : Hid (Calls Tryz.prog 89 #[.slice ap p.len cp, .func (.func 49) #[] #[.pointer (some ⟨b1, 0, none⟩)]] w fun e w' => ∃ q : Int, e = .returned (.int .i64 q) ∧ p.anyS pr = decide (0 ≤ q) ∧ Below w.heap.size w w') := indexS2_any pr N p hN hok ap cp b1 B w hB hp hl HT
  clear HT hp hN hok hB
  generalize p.anyS pr = r at *
  go_enter Tryz.func47, Tryz.ntmps47
  go_wp2_with fail
  refine HI.out.mono ?_
  rintro e w1 ⟨q, rfl, hq, hb1⟩
  have H1 : Hid (Below w.heap.size w w1 ∧ r = decide (0 ≤ q)) := ⟨hb1, hq⟩
  clear hb1 hq
  go_wp2_with fail
  go_ret
  exact ⟨by rw [H1.out.2]; rfl, H1.out.1⟩

theorem plain1_any (r : Bool) (bp bb b1 : Nat) (W : World) (hx : W.cell? ⟨b1, 0, none⟩ = some (.pointer (some ⟨bb, 0, none⟩))) (h : Calls Tryz.prog 24 #[.pointer (some ⟨bp, 0, none⟩), .pointer (some ⟨bb, 0, none⟩)] W fun e w' => e = .returned (.bool r) ∧ Below W.heap.size W w') :
    Calls Tryz.prog 48 #[.pointer (some ⟨bp, 0, none⟩), .pointer (some ⟨b1, 0, none⟩)] W fun e w' => e = .returned (.bool (!r)) ∧ Below W.heap.size W w' := by
  have H : Hid (Calls Tryz.prog 24 #[.pointer (some ⟨bp, 0, none⟩), .pointer (some ⟨bb, 0, none⟩)] W fun e w' => e = .returned (.bool r) ∧ Below W.heap.size W w') := h
  clear h
  go_enter Tryz.func48, Tryz.ntmps48
  go_wp2_with fail
  refine H.out.mono ?_
  rintro e w1 ⟨rfl, hb1⟩
  have H1 : Hid (Below W.heap.size W w1) := hb1
  clear hb1
  go_wp2_with fail
  go_ret
  exact ⟨rfl, H1.out⟩
theorem plain2_any (r : Bool) (bp ba b1 : Nat) (W : World) (hx : W.cell? ⟨b1, 0, none⟩ = some (.pointer (some ⟨ba, 0, none⟩))) (h : Calls Tryz.prog 24 #[.pointer (some ⟨ba, 0, none⟩), .pointer (some ⟨bp, 0, none⟩)] W fun e w' => e = .returned (.bool r) ∧ Below W.heap.size W w') :
    Calls Tryz.prog 49 #[.pointer (some ⟨bp, 0, none⟩), .pointer (some ⟨b1, 0, none⟩)] W fun e w' => e = .returned (.bool r) ∧ Below W.heap.size W w' := by
  have H : Hid (Calls Tryz.prog 24 #[.pointer (some ⟨ba, 0, none⟩), .pointer (some ⟨bp, 0, none⟩)] W fun e w' => e = .returned (.bool r) ∧ Below W.heap.size W w') := h
  clear h
  go_enter Tryz.func49, Tryz.ntmps49
  go_wp2_with fail
  refine H.out.mono ?_
  rintro e w1 ⟨rfl, hb1⟩
  have H1 : Hid (Below W.heap.size W w1) := hb1
  clear hb1
  go_wp2_with fail
  go_ret
  exact ⟨rfl, H1.out⟩
theorem pl_boxes (w : World) (a b : Value) : ∃ W2, (w.alloc (.cells #[a] 60)).alloc (.cells #[b] 60) = W2 ∧ Below w.heap.size w W2 ∧ W2.heap.size = w.heap.size + 1 + 1 ∧ W2.cell? ⟨w.heap.size, 0, none⟩ = some a ∧ W2.cell? ⟨w.heap.size + 1, 0, none⟩ = some b := by
  have b0 := Boxed.new w 60 a
  have b1 := Boxed.new (w.alloc (.cells #[a] 60)) 60 b
  simp only [World.size_alloc] at b1
  exact ⟨_, rfl, ((Below.refl _ _).alloc (Nat.le_refl _) _).alloc (by simp) _, by simp, (b0.alloc _).cell, b1.cell⟩
theorem TyL.anyS_all (b : Ty) : (p : TyL) → p.anyS (fun t => !t.sub b) = !p.subAll b
  | .nil => rfl
  | .cons t l => by simp only [TyL.anyS, TyL.subAll, TyL.anyS_all b l]; cases t.sub b <;> simp
theorem Ty.sub_union {k o : Int} {t : Tm} {p : TyL} {n : List ByteArray} {l : List Bool} {op : Bool} {c : ByteArray} (h2 : k ≠ 2) (h7 : k ≠ 7) (o2 : Int) (t2 : Tm) (q : TyL) (n2 : List ByteArray) (l2 : List Bool) (op2 : Bool) (c2 : ByteArray) : (Ty.mk k o t p n l op c).sub (.mk 7 o2 t2 q n2 l2 op2 c2) = q.anyS (Ty.mk k o t p n l op c).sub := by
  have h1 : ∀ b : Ty, (Ty.mk k o t p n l op c).sub b = b.reach fun q =>
      if k = 4 then (q.has t).1
      else if k = 3 then decide (q.kind = 3 ∧ q.of = o)
      else if k = 5 then decide (q.kind = 3 ∧ q.of = 8) || (decide (q.kind = 5) && p.subHead q.parts)
      else if k = 6 then decide (q.kind = 3 ∧ q.of = 9) || (decide (q.kind = 6) && ((!op || q.opn) && Sp.subD op q.opn (n.length + q.names.length) (Sp.z3 n l p.subFns) (Sp.z3 q.names q.lacks q.parts.toL)))
      else if k = 8 then decide (q.kind = 3 ∧ q.of = 10) || decide (q.kind = 8 ∧ Sp.cmpS c q.cls = 0)
      else false := fun b => by
    rw [Ty.sub]
    by_cases hb : b.kind = 1
    · rw [if_pos (.inl hb), Ty.reach_any hb]
    · rw [if_neg (fun e => e.elim hb h2), if_neg h7]
  rw [h1, Ty.reach, if_neg (by decide), if_pos rfl]
  generalize (fun q : Ty => _) = f at h1 ⊢
  induction q using TyL.rec (motive_1 := fun _ => True) with
  | mk => trivial
  | nil => rfl
  | cons t' l' _ ih => simp only [TyL.reachAny, TyL.anyS, ih, h1]
theorem Ty.sub_leaf {k o : Int} {t : Tm} {p : TyL} {n : List ByteArray} {l : List Bool} {op : Bool} {c : ByteArray} (h2 : k ≠ 2) (h7 : k ≠ 7) {q : Ty} (q1 : q.kind ≠ 1) (q7 : q.kind ≠ 7) : (Ty.mk k o t p n l op c).sub q =
      if k = 4 then (q.has t).1
      else if k = 3 then decide (q.kind = 3 ∧ q.of = o)
      else if k = 5 then decide (q.kind = 3 ∧ q.of = 8) || (decide (q.kind = 5) && p.subHead q.parts)
      else if k = 6 then decide (q.kind = 3 ∧ q.of = 9) || (decide (q.kind = 6) && ((!op || q.opn) && Sp.subD op q.opn (n.length + q.names.length) (Sp.z3 n l p.subFns) (Sp.z3 q.names q.lacks q.parts.toL)))
      else if k = 8 then decide (q.kind = 3 ∧ q.of = 10) || decide (q.kind = 8 ∧ Sp.cmpS c q.cls = 0)
      else false := by
  rw [Ty.sub, if_neg (fun e => e.elim q1 h2), if_neg h7]
  cases q with
  | mk k2 o2 t2 p2 n2 l2 op2 c2 =>
    have q1 : k2 ≠ 1 := q1
    have q7 : k2 ≠ 7 := q7
    rw [Ty.reach, if_neg q1, if_neg q7]
end Go.Proofs.YtjdjpbdfchhcfaaGreat

/- check.plainlyOf of every two types. -/
namespace Go.Proofs.YtjdjpbdfchhcfaaGreat
open Go.RowKit

set_option maxRecDepth 100000 in
set_option maxHeartbeats 4000000 in
theorem plq_any (ba bb : Nat) (w : World) (k k2 : Int) (RES : Bool) (hba : ba < w.heap.size) (hbb : bb < w.heap.size) (ka : w.cell? ⟨ba, 0, none⟩ = some (.int .i64 k)) (kb : w.cell? ⟨bb, 0, none⟩ = some (.int .i64 k2)) (h : k2 = 1) (hr : RES = true) :
    Calls Tryz.prog 24 #[.pointer (some ⟨ba, 0, none⟩), .pointer (some ⟨bb, 0, none⟩)] w fun e w' => e = .returned (.bool RES) ∧ Below w.heap.size w w' := by
  obtain ⟨W2, hW2, hb, hsz, d0, d1⟩ := pl_boxes w (.pointer (some ⟨ba, 0, none⟩)) (.pointer (some ⟨bb, 0, none⟩))
  have HB : Hid (Below w.heap.size w W2) := hb
  have HCL : Hid (∀ (p : Addr) v, p.block < w.heap.size → w.cell? p = some v → W2.cell? p = some v) := fun p v hp hc => by rw [hb.cell hp]; exact hc
  have e0 := HCL.out ⟨ba, 0, none⟩ _ hba ka
  have e1 := HCL.out ⟨bb, 0, none⟩ _ hbb kb
  subst h
  subst hr
  clear hb hsz hba hbb ka kb HCL

  go_enter Tryz.func24, Tryz.ntmps24
  go_wp2_with fail
  go_ret
  exact ⟨rfl, HB.out⟩
set_option maxRecDepth 100000 in
set_option maxHeartbeats 4000000 in
theorem plq_none (ba bb : Nat) (w : World) (k k2 : Int) (RES : Bool) (hba : ba < w.heap.size) (hbb : bb < w.heap.size) (ka : w.cell? ⟨ba, 0, none⟩ = some (.int .i64 k)) (kb : w.cell? ⟨bb, 0, none⟩ = some (.int .i64 k2)) (h1 : k2 ≠ 1) (h : k = 2) (hr : RES = true) :
    Calls Tryz.prog 24 #[.pointer (some ⟨ba, 0, none⟩), .pointer (some ⟨bb, 0, none⟩)] w fun e w' => e = .returned (.bool RES) ∧ Below w.heap.size w w' := by
  obtain ⟨W2, hW2, hb, hsz, d0, d1⟩ := pl_boxes w (.pointer (some ⟨ba, 0, none⟩)) (.pointer (some ⟨bb, 0, none⟩))
  have HB : Hid (Below w.heap.size w W2) := hb
  have HCL : Hid (∀ (p : Addr) v, p.block < w.heap.size → w.cell? p = some v → W2.cell? p = some v) := fun p v hp hc => by rw [hb.cell hp]; exact hc
  have e0 := HCL.out ⟨ba, 0, none⟩ _ hba ka
  have e1 := HCL.out ⟨bb, 0, none⟩ _ hbb kb
  subst h
  subst hr
  have f1 : (k2 == 1) = false := by simp [h1]
  clear hb hsz hba hbb ka kb HCL h1

  go_enter Tryz.func24, Tryz.ntmps24
  go_wp2_with fail
  go_ret
  exact ⟨rfl, HB.out⟩
set_option maxRecDepth 100000 in
set_option maxHeartbeats 4000000 in
theorem plq_unionA (ba bb : Nat) (w : World) (k k2 : Int) (RES : Bool) (hba : ba < w.heap.size) (hbb : bb < w.heap.size) (ka : w.cell? ⟨ba, 0, none⟩ = some (.int .i64 k)) (kb : w.cell? ⟨bb, 0, none⟩ = some (.int .i64 k2)) (h1 : k2 ≠ 1) (h : k = 7) (ap : Option Addr) (np cp : Nat) (c4 : w.cell? ⟨ba, 4, none⟩ = some (.slice ap np cp)) (r : Bool) (hr : RES = !r) (HCF : ∀ W b1, Below w.heap.size w W → W.cell? ⟨b1, 0, none⟩ = some (.pointer (some ⟨bb, 0, none⟩)) → b1 < W.heap.size → Calls Tryz.prog 47 #[.slice ap np cp, .func (.func 48) #[] #[.pointer (some ⟨b1, 0, none⟩)]] W fun e w' => e = .returned (.bool r) ∧ Below W.heap.size W w') :
    Calls Tryz.prog 24 #[.pointer (some ⟨ba, 0, none⟩), .pointer (some ⟨bb, 0, none⟩)] w fun e w' => e = .returned (.bool RES) ∧ Below w.heap.size w w' := by
  obtain ⟨W2, hW2, hb, hsz, d0, d1⟩ := pl_boxes w (.pointer (some ⟨ba, 0, none⟩)) (.pointer (some ⟨bb, 0, none⟩))
  have HB : Hid (Below w.heap.size w W2) := hb
  have HCL : Hid (∀ (p : Addr) v, p.block < w.heap.size → w.cell? p = some v → W2.cell? p = some v) := fun p v hp hc => by rw [hb.cell hp]; exact hc
  have e0 := HCL.out ⟨ba, 0, none⟩ _ hba ka
  have e1 := HCL.out ⟨bb, 0, none⟩ _ hbb kb
  subst h
  subst hr
  have f1 : (k2 == 1) = false := by simp [h1]
  have e4 := HCL.out ⟨ba, 4, none⟩ _ hba c4
  have HC : Hid (Calls Tryz.prog 47 #[.slice ap np cp, .func (.func 48) #[] #[.pointer (some ⟨w.heap.size + 1, 0, none⟩)]] W2 fun e w' => e = .returned (.bool r) ∧ Below W2.heap.size W2 w') := HCF W2 (w.heap.size + 1) hb d1 (by omega)
  clear hb hsz hba hbb ka kb HCL h1 c4 HCF

  go_enter Tryz.func24, Tryz.ntmps24
  go_wp2_with fail
  refine HC.out.mono ?_
  rintro e w1 ⟨rfl, hb1⟩
  have H1 : Hid (Below w.heap.size w w1) := HB.out.trans (hb1.mono HB.out.size)
  clear hb1
  go_wp2_with fail
  go_ret
  exact ⟨rfl, H1.out⟩
set_option maxRecDepth 100000 in
set_option maxHeartbeats 4000000 in
theorem plq_unionB (ba bb : Nat) (w : World) (k k2 : Int) (RES : Bool) (hba : ba < w.heap.size) (hbb : bb < w.heap.size) (ka : w.cell? ⟨ba, 0, none⟩ = some (.int .i64 k)) (kb : w.cell? ⟨bb, 0, none⟩ = some (.int .i64 k2)) (h1 : k2 ≠ 1) (h2 : k ≠ 2) (h7 : k ≠ 7) (h : k2 = 7) (ap : Option Addr) (np cp : Nat) (c4 : w.cell? ⟨bb, 4, none⟩ = some (.slice ap np cp)) (HCF : ∀ W b1, Below w.heap.size w W → W.cell? ⟨b1, 0, none⟩ = some (.pointer (some ⟨ba, 0, none⟩)) → b1 < W.heap.size → Calls Tryz.prog 47 #[.slice ap np cp, .func (.func 49) #[] #[.pointer (some ⟨b1, 0, none⟩)]] W fun e w' => e = .returned (.bool RES) ∧ Below W.heap.size W w') :
    Calls Tryz.prog 24 #[.pointer (some ⟨ba, 0, none⟩), .pointer (some ⟨bb, 0, none⟩)] w fun e w' => e = .returned (.bool RES) ∧ Below w.heap.size w w' := by
  obtain ⟨W2, hW2, hb, hsz, d0, d1⟩ := pl_boxes w (.pointer (some ⟨ba, 0, none⟩)) (.pointer (some ⟨bb, 0, none⟩))
  have HB : Hid (Below w.heap.size w W2) := hb
  have HCL : Hid (∀ (p : Addr) v, p.block < w.heap.size → w.cell? p = some v → W2.cell? p = some v) := fun p v hp hc => by rw [hb.cell hp]; exact hc
  have e0 := HCL.out ⟨ba, 0, none⟩ _ hba ka
  have e1 := HCL.out ⟨bb, 0, none⟩ _ hbb kb
  have f1 : (k2 == 1) = false := by simp [h1]
  have f2 : (k == 2) = false := by simp [h2]
  have f7 : (k == 7) = false := by simp [h7]
  subst h
  have e4 := HCL.out ⟨bb, 4, none⟩ _ hbb c4
  have HC : Hid (Calls Tryz.prog 47 #[.slice ap np cp, .func (.func 49) #[] #[.pointer (some ⟨w.heap.size, 0, none⟩)]] W2 fun e w' => e = .returned (.bool RES) ∧ Below W2.heap.size W2 w') := HCF W2 w.heap.size hb d0 (by omega)
  clear hb hsz hba hbb ka kb HCL h1 h2 h7 c4 HCF

  go_enter Tryz.func24, Tryz.ntmps24
  go_wp2_with fail
  refine HC.out.mono ?_
  rintro e w1 ⟨rfl, hb1⟩
  have H1 : Hid (Below w.heap.size w w1) := HB.out.trans (hb1.mono HB.out.size)
  clear hb1
  go_wp2_with fail
  go_ret
  exact ⟨rfl, H1.out⟩
set_option maxRecDepth 100000 in
set_option maxHeartbeats 4000000 in
theorem plq_1 (ba bb : Nat) (w : World) (k k2 : Int) (RES : Bool) (hba : ba < w.heap.size) (hbb : bb < w.heap.size) (ka : w.cell? ⟨ba, 0, none⟩ = some (.int .i64 k)) (kb : w.cell? ⟨bb, 0, none⟩ = some (.int .i64 k2)) (h1 : k2 ≠ 1) (h27 : k2 ≠ 7) (h : k = 1) (hr : RES = false) :
    Calls Tryz.prog 24 #[.pointer (some ⟨ba, 0, none⟩), .pointer (some ⟨bb, 0, none⟩)] w fun e w' => e = .returned (.bool RES) ∧ Below w.heap.size w w' := by
  obtain ⟨W2, hW2, hb, hsz, d0, d1⟩ := pl_boxes w (.pointer (some ⟨ba, 0, none⟩)) (.pointer (some ⟨bb, 0, none⟩))
  have HB : Hid (Below w.heap.size w W2) := hb
  have HCL : Hid (∀ (p : Addr) v, p.block < w.heap.size → w.cell? p = some v → W2.cell? p = some v) := fun p v hp hc => by rw [hb.cell hp]; exact hc
  have e0 := HCL.out ⟨ba, 0, none⟩ _ hba ka
  have e1 := HCL.out ⟨bb, 0, none⟩ _ hbb kb
  subst h
  subst hr
  have f1 : (k2 == 1) = false := by simp [h1]
  have g7 : (k2 == 7) = false := by simp [h27]
  clear hb hsz hba hbb ka kb HCL h1 h27

  go_enter Tryz.func24, Tryz.ntmps24
  go_wp2_with fail
  go_ret
  exact ⟨rfl, HB.out⟩
set_option maxRecDepth 100000 in
set_option maxHeartbeats 4000000 in
theorem plq_4 (ba bb : Nat) (w : World) (k k2 : Int) (RES : Bool) (hba : ba < w.heap.size) (hbb : bb < w.heap.size) (ka : w.cell? ⟨ba, 0, none⟩ = some (.int .i64 k)) (kb : w.cell? ⟨bb, 0, none⟩ = some (.int .i64 k2)) (h1 : k2 ≠ 1) (h27 : k2 ≠ 7) (h : k = 4) (u : Value) (c2 : w.cell? ⟨ba, 2, none⟩ = some u) (hu : u = .nilIface ∨ ∃ T y, u = .iface T y) (q : Int) (HH : ∀ W, Below w.heap.size w W → Calls Tryz.prog 45 #[.pointer (some ⟨bb, 0, none⟩), u] W fun e w' => e = .returned (.tuple #[.bool RES, .int .i64 q]) ∧ Below W.heap.size W w') :
    Calls Tryz.prog 24 #[.pointer (some ⟨ba, 0, none⟩), .pointer (some ⟨bb, 0, none⟩)] w fun e w' => e = .returned (.bool RES) ∧ Below w.heap.size w w' := by
  obtain ⟨W2, hW2, hb, hsz, d0, d1⟩ := pl_boxes w (.pointer (some ⟨ba, 0, none⟩)) (.pointer (some ⟨bb, 0, none⟩))
  have HB : Hid (Below w.heap.size w W2) := hb
  have HCL : Hid (∀ (p : Addr) v, p.block < w.heap.size → w.cell? p = some v → W2.cell? p = some v) := fun p v hp hc => by rw [hb.cell hp]; exact hc
  have e0 := HCL.out ⟨ba, 0, none⟩ _ hba ka
  have e1 := HCL.out ⟨bb, 0, none⟩ _ hbb kb
  subst h
  have f1 : (k2 == 1) = false := by simp [h1]
  have g7 : (k2 == 7) = false := by simp [h27]
  have HX : Hid (∀ W, Below W2.heap.size W2 W → W.cell? ⟨w.heap.size, 0, none⟩ = some (.pointer (some ⟨ba, 0, none⟩)) ∧ W.cell? ⟨w.heap.size + 1, 0, none⟩ = some (.pointer (some ⟨bb, 0, none⟩)) ∧ W.cell? ⟨ba, 2, none⟩ = some u) := fun W hW => ⟨cell_below d0 hW, cell_below d1 hW, cell_below (HCL.out ⟨ba, 2, none⟩ _ hba c2) hW⟩
  have HO : Hid (∀ W, Below W2.heap.size W2 W → Calls Tryz.prog 45 #[.pointer (some ⟨bb, 0, none⟩), u] W fun e w' => e = .returned (.tuple #[.bool RES, .int .i64 q]) ∧ Below W.heap.size W w') := fun W hW => HH W (hb.trans (hW.mono hb.size))
  clear hb hsz hba hbb ka kb HCL h1 h27 c2 HH

  rcases hu with rfl | ⟨T, y, rfl⟩
  · go_enter Tryz.func24, Tryz.ntmps24
    go_wp2_with fail
    go_region_held3 (fun W => W.cell? ⟨w.heap.size, 0, none⟩ = some (.pointer (some ⟨ba, 0, none⟩)) ∧ W.cell? ⟨w.heap.size + 1, 0, none⟩ = some (.pointer (some ⟨bb, 0, none⟩)) ∧ W.cell? ⟨ba, 2, none⟩ = some (.nilIface))
      (first | with_reducible exact HX.out _ HB5.out | with_reducible exact HX.out _ (Below.refl _ _).drew)
      ((go_at_call 45; refine (HO.out _ ?_).mono ?_; exact (Below.refl _ _).drew; rintro e w5 ⟨rfl, hb5⟩; have HB5 : Hid (Below W2.heap.size W2 w5) := below_to (Below.refl _ _).drew hb5; clear hb5))
    go_wp2_with fail
    go_ret
    exact ⟨rfl, HB.out.trans (HB5.out.mono HB.out.size)⟩
  · go_enter Tryz.func24, Tryz.ntmps24
    go_wp2_with fail
    go_region_held3 (fun W => W.cell? ⟨w.heap.size, 0, none⟩ = some (.pointer (some ⟨ba, 0, none⟩)) ∧ W.cell? ⟨w.heap.size + 1, 0, none⟩ = some (.pointer (some ⟨bb, 0, none⟩)) ∧ W.cell? ⟨ba, 2, none⟩ = some (.iface T y))
      (first | with_reducible exact HX.out _ HB5.out | with_reducible exact HX.out _ (Below.refl _ _).drew)
      ((go_at_call 45; refine (HO.out _ ?_).mono ?_; exact (Below.refl _ _).drew; rintro e w5 ⟨rfl, hb5⟩; have HB5 : Hid (Below W2.heap.size W2 w5) := below_to (Below.refl _ _).drew hb5; clear hb5))
    go_wp2_with fail
    go_ret
    exact ⟨rfl, HB.out.trans (HB5.out.mono HB.out.size)⟩
set_option maxRecDepth 100000 in
set_option maxHeartbeats 4000000 in
theorem plq_3 (ba bb : Nat) (w : World) (k k2 : Int) (RES : Bool) (hba : ba < w.heap.size) (hbb : bb < w.heap.size) (ka : w.cell? ⟨ba, 0, none⟩ = some (.int .i64 k)) (kb : w.cell? ⟨bb, 0, none⟩ = some (.int .i64 k2)) (h1 : k2 ≠ 1) (h27 : k2 ≠ 7) (h : k = 3) (o o2 : Int) (ca : w.cell? ⟨ba, 1, none⟩ = some (.int .i64 o)) (c1 : w.cell? ⟨bb, 1, none⟩ = some (.int .i64 o2)) (hr : RES = (k2 == 3 && o2 == o)) :
    Calls Tryz.prog 24 #[.pointer (some ⟨ba, 0, none⟩), .pointer (some ⟨bb, 0, none⟩)] w fun e w' => e = .returned (.bool RES) ∧ Below w.heap.size w w' := by
  obtain ⟨W2, hW2, hb, hsz, d0, d1⟩ := pl_boxes w (.pointer (some ⟨ba, 0, none⟩)) (.pointer (some ⟨bb, 0, none⟩))
  have HB : Hid (Below w.heap.size w W2) := hb
  have HCL : Hid (∀ (p : Addr) v, p.block < w.heap.size → w.cell? p = some v → W2.cell? p = some v) := fun p v hp hc => by rw [hb.cell hp]; exact hc
  have e0 := HCL.out ⟨ba, 0, none⟩ _ hba ka
  have e1 := HCL.out ⟨bb, 0, none⟩ _ hbb kb
  subst h
  have f1 : (k2 == 1) = false := by simp [h1]
  have g7 : (k2 == 7) = false := by simp [h27]
  have HIK : Hid (∀ W q, W.cell? ⟨bb, 0, none⟩ = some (.int .i64 k2) → W.cell? ⟨bb, 1, none⟩ = some (.int .i64 o2) → Calls Tryz.prog 50 #[.pointer (some ⟨bb, 0, none⟩), .int .i64 q] W fun e w' => e = .returned (.bool (k2 == 3 && o2 == q)) ∧ W = w') := fun W q h0 h1 => isKind_any bb k2 o2 q W h0 h1
  have e1o := HCL.out ⟨bb, 1, none⟩ _ hbb c1
  have e2o := HCL.out ⟨ba, 1, none⟩ _ hba ca
  have HR : Hid (RES = (k2 == 3 && o2 == o)) := hr
  clear hb hsz hba hbb ka kb HCL h1 h27 ca c1 hr
  generalize hzz : (k2 == 3 && o2 == o) = zz at *

  go_enter Tryz.func24, Tryz.ntmps24
  go_wp2_with fail
  go_quiet ((go_at_call 50; exact Calls.quiet_of_same ((HIK.out _ _ (by assumption) (by assumption)).mono (fun e w' h => ⟨h.1, h.2.symm⟩))))
  go_wp2_with fail
  go_ret
  exact ⟨by rw [HR.out, ← hzz]; rfl, HB.out.trans (below_drewN' _ _ _)⟩end Go.Proofs.YtjdjpbdfchhcfaaGreat

/- check.plainlyOf: lists', dicts' and records' types; every two types; check.Sub. -/
namespace Go.Proofs.YtjdjpbdfchhcfaaGreat
open Go.RowKit

set_option maxRecDepth 100000 in
set_option maxHeartbeats 4000000 in
theorem plq_8a (ba bb : Nat) (w : World) (k k2 : Int) (RES : Bool) (hba : ba < w.heap.size) (hbb : bb < w.heap.size) (ka : w.cell? ⟨ba, 0, none⟩ = some (.int .i64 k)) (kb : w.cell? ⟨bb, 0, none⟩ = some (.int .i64 k2)) (h1 : k2 ≠ 1) (h27 : k2 ≠ 7) (h : k = 8) (o2 : Int) (c1 : w.cell? ⟨bb, 1, none⟩ = some (.int .i64 o2)) (ca cb : ByteArray) (c8a : w.cell? ⟨ba, 8, none⟩ = some (.string ca)) (c8b : w.cell? ⟨bb, 8, none⟩ = some (.string cb)) (z : Bool) (hz : (k2 == 3 && o2 == 10) = z) (hzt : z = true) (hr : RES = true) :
    Calls Tryz.prog 24 #[.pointer (some ⟨ba, 0, none⟩), .pointer (some ⟨bb, 0, none⟩)] w fun e w' => e = .returned (.bool RES) ∧ Below w.heap.size w w' := by
  obtain ⟨W2, hW2, hb, hsz, d0, d1⟩ := pl_boxes w (.pointer (some ⟨ba, 0, none⟩)) (.pointer (some ⟨bb, 0, none⟩))
  have HB : Hid (Below w.heap.size w W2) := hb
  have HCL : Hid (∀ (p : Addr) v, p.block < w.heap.size → w.cell? p = some v → W2.cell? p = some v) := fun p v hp hc => by rw [hb.cell hp]; exact hc
  have e0 := HCL.out ⟨ba, 0, none⟩ _ hba ka
  have e1 := HCL.out ⟨bb, 0, none⟩ _ hbb kb
  subst h
  have f1 : (k2 == 1) = false := by simp [h1]
  have g7 : (k2 == 7) = false := by simp [h27]
  have HIK : Hid (∀ W q, W.cell? ⟨bb, 0, none⟩ = some (.int .i64 k2) → W.cell? ⟨bb, 1, none⟩ = some (.int .i64 o2) → Calls Tryz.prog 50 #[.pointer (some ⟨bb, 0, none⟩), .int .i64 q] W fun e w' => e = .returned (.bool (k2 == 3 && o2 == q)) ∧ W = w') := fun W q h0 h1 => isKind_any bb k2 o2 q W h0 h1
  have e1o := HCL.out ⟨bb, 1, none⟩ _ hbb c1
  have x8 := HCL.out ⟨ba, 8, none⟩ _ hba c8a
  have y8 := HCL.out ⟨bb, 8, none⟩ _ hbb c8b
  have HZ : Hid ((k2 == 3 && o2 == 10) = z) := hz
  have HIK : Hid (∀ W, W.cell? ⟨bb, 0, none⟩ = some (.int .i64 k2) → W.cell? ⟨bb, 1, none⟩ = some (.int .i64 o2) → Calls Tryz.prog 50 #[.pointer (some ⟨bb, 0, none⟩), .int .i64 10] W fun e w' => e = .returned (.bool z) ∧ W = w') := fun W a b => by have := HIK.out W 10 a b; rw [HZ.out] at this; exact this
  subst hr
  clear hb hsz hba hbb ka kb HCL h1 h27 c1 c8a c8b hz
  subst hzt

  go_enter Tryz.func24, Tryz.ntmps24
  go_wp2_with fail
  go_quiet ((go_at_call 50; exact Calls.quiet_of_same ((HIK.out _ (by assumption) (by assumption)).mono (fun e w' h => ⟨h.1, h.2.symm⟩))))
  go_wp2_with fail
  go_ret
  exact ⟨rfl, HB.out.trans (below_drewN' _ _ _)⟩
set_option maxRecDepth 100000 in
set_option maxHeartbeats 4000000 in
theorem plq_8b (ba bb : Nat) (w : World) (k k2 : Int) (RES : Bool) (hba : ba < w.heap.size) (hbb : bb < w.heap.size) (ka : w.cell? ⟨ba, 0, none⟩ = some (.int .i64 k)) (kb : w.cell? ⟨bb, 0, none⟩ = some (.int .i64 k2)) (h1 : k2 ≠ 1) (h27 : k2 ≠ 7) (h : k = 8) (o2 : Int) (c1 : w.cell? ⟨bb, 1, none⟩ = some (.int .i64 o2)) (ca cb : ByteArray) (c8a : w.cell? ⟨ba, 8, none⟩ = some (.string ca)) (c8b : w.cell? ⟨bb, 8, none⟩ = some (.string cb)) (z : Bool) (hz : (k2 == 3 && o2 == 10) = z) (hzt : z = false) (h8 : k2 ≠ 8) (hr : RES = false) :
    Calls Tryz.prog 24 #[.pointer (some ⟨ba, 0, none⟩), .pointer (some ⟨bb, 0, none⟩)] w fun e w' => e = .returned (.bool RES) ∧ Below w.heap.size w w' := by
  obtain ⟨W2, hW2, hb, hsz, d0, d1⟩ := pl_boxes w (.pointer (some ⟨ba, 0, none⟩)) (.pointer (some ⟨bb, 0, none⟩))
  have HB : Hid (Below w.heap.size w W2) := hb
  have HCL : Hid (∀ (p : Addr) v, p.block < w.heap.size → w.cell? p = some v → W2.cell? p = some v) := fun p v hp hc => by rw [hb.cell hp]; exact hc
  have e0 := HCL.out ⟨ba, 0, none⟩ _ hba ka
  have e1 := HCL.out ⟨bb, 0, none⟩ _ hbb kb
  subst h
  have f1 : (k2 == 1) = false := by simp [h1]
  have g7 : (k2 == 7) = false := by simp [h27]
  have HIK : Hid (∀ W q, W.cell? ⟨bb, 0, none⟩ = some (.int .i64 k2) → W.cell? ⟨bb, 1, none⟩ = some (.int .i64 o2) → Calls Tryz.prog 50 #[.pointer (some ⟨bb, 0, none⟩), .int .i64 q] W fun e w' => e = .returned (.bool (k2 == 3 && o2 == q)) ∧ W = w') := fun W q h0 h1 => isKind_any bb k2 o2 q W h0 h1
  have e1o := HCL.out ⟨bb, 1, none⟩ _ hbb c1
  have x8 := HCL.out ⟨ba, 8, none⟩ _ hba c8a
  have y8 := HCL.out ⟨bb, 8, none⟩ _ hbb c8b
  have HZ : Hid ((k2 == 3 && o2 == 10) = z) := hz
  have HIK : Hid (∀ W, W.cell? ⟨bb, 0, none⟩ = some (.int .i64 k2) → W.cell? ⟨bb, 1, none⟩ = some (.int .i64 o2) → Calls Tryz.prog 50 #[.pointer (some ⟨bb, 0, none⟩), .int .i64 10] W fun e w' => e = .returned (.bool z) ∧ W = w') := fun W a b => by have := HIK.out W 10 a b; rw [HZ.out] at this; exact this
  subst hr
  have f8 : (k2 == 8) = false := by simp [h8]
  clear hb hsz hba hbb ka kb HCL h1 h27 c1 c8a c8b hz h8
  subst hzt

  go_enter Tryz.func24, Tryz.ntmps24
  go_wp2_with fail
  go_quiet ((go_at_call 50; exact Calls.quiet_of_same ((HIK.out _ (by assumption) (by assumption)).mono (fun e w' h => ⟨h.1, h.2.symm⟩))))
  go_wp2_with fail
  go_ret
  exact ⟨rfl, HB.out.trans (below_drewN' _ _ _)⟩
set_option maxRecDepth 100000 in
set_option maxHeartbeats 4000000 in
theorem plq_8c (ba bb : Nat) (w : World) (k k2 : Int) (RES : Bool) (hba : ba < w.heap.size) (hbb : bb < w.heap.size) (ka : w.cell? ⟨ba, 0, none⟩ = some (.int .i64 k)) (kb : w.cell? ⟨bb, 0, none⟩ = some (.int .i64 k2)) (h1 : k2 ≠ 1) (h27 : k2 ≠ 7) (h : k = 8) (o2 : Int) (c1 : w.cell? ⟨bb, 1, none⟩ = some (.int .i64 o2)) (ca cb : ByteArray) (c8a : w.cell? ⟨ba, 8, none⟩ = some (.string ca)) (c8b : w.cell? ⟨bb, 8, none⟩ = some (.string cb)) (z : Bool) (hz : (k2 == 3 && o2 == 10) = z) (hzt : z = false) (h8 : k2 = 8) (hr : RES = (ca.toList == cb.toList)) :
    Calls Tryz.prog 24 #[.pointer (some ⟨ba, 0, none⟩), .pointer (some ⟨bb, 0, none⟩)] w fun e w' => e = .returned (.bool RES) ∧ Below w.heap.size w w' := by
  obtain ⟨W2, hW2, hb, hsz, d0, d1⟩ := pl_boxes w (.pointer (some ⟨ba, 0, none⟩)) (.pointer (some ⟨bb, 0, none⟩))
  have HB : Hid (Below w.heap.size w W2) := hb
  have HCL : Hid (∀ (p : Addr) v, p.block < w.heap.size → w.cell? p = some v → W2.cell? p = some v) := fun p v hp hc => by rw [hb.cell hp]; exact hc
  have e0 := HCL.out ⟨ba, 0, none⟩ _ hba ka
  have e1 := HCL.out ⟨bb, 0, none⟩ _ hbb kb
  subst h
  have f1 : (k2 == 1) = false := by simp [h1]
  have g7 : (k2 == 7) = false := by simp [h27]
  have HIK : Hid (∀ W q, W.cell? ⟨bb, 0, none⟩ = some (.int .i64 k2) → W.cell? ⟨bb, 1, none⟩ = some (.int .i64 o2) → Calls Tryz.prog 50 #[.pointer (some ⟨bb, 0, none⟩), .int .i64 q] W fun e w' => e = .returned (.bool (k2 == 3 && o2 == q)) ∧ W = w') := fun W q h0 h1 => isKind_any bb k2 o2 q W h0 h1
  have e1o := HCL.out ⟨bb, 1, none⟩ _ hbb c1
  have x8 := HCL.out ⟨ba, 8, none⟩ _ hba c8a
  have y8 := HCL.out ⟨bb, 8, none⟩ _ hbb c8b
  have HZ : Hid ((k2 == 3 && o2 == 10) = z) := hz
  have HIK : Hid (∀ W, W.cell? ⟨bb, 0, none⟩ = some (.int .i64 k2) → W.cell? ⟨bb, 1, none⟩ = some (.int .i64 o2) → Calls Tryz.prog 50 #[.pointer (some ⟨bb, 0, none⟩), .int .i64 10] W fun e w' => e = .returned (.bool z) ∧ W = w') := fun W a b => by have := HIK.out W 10 a b; rw [HZ.out] at this; exact this
  subst h8
  have HR : Hid (RES = (ca.toList == cb.toList)) := hr
  clear hb hsz hba hbb ka kb HCL h1 h27 c1 c8a c8b hz hr f1 g7
  subst hzt

  go_enter Tryz.func24, Tryz.ntmps24
  go_wp2_with fail
  go_quiet ((go_at_call 50; exact Calls.quiet_of_same ((HIK.out _ (by assumption) (by assumption)).mono (fun e w' h => ⟨h.1, h.2.symm⟩))))
  go_wp2_with fail
  go_ret
  exact ⟨by rw [HR.out]; rfl, HB.out.trans (below_drewN' _ _ _)⟩
set_option maxRecDepth 100000 in
set_option maxHeartbeats 4000000 in
theorem plq_5a (ba bb : Nat) (w : World) (k k2 : Int) (RES : Bool) (hba : ba < w.heap.size) (hbb : bb < w.heap.size) (ka : w.cell? ⟨ba, 0, none⟩ = some (.int .i64 k)) (kb : w.cell? ⟨bb, 0, none⟩ = some (.int .i64 k2)) (h1 : k2 ≠ 1) (h27 : k2 ≠ 7) (h : k = 5) (o2 : Int) (c1 : w.cell? ⟨bb, 1, none⟩ = some (.int .i64 o2)) (z : Bool) (hz : (k2 == 3 && o2 == 8) = z) (hzt : z = true) (hr : RES = true) :
    Calls Tryz.prog 24 #[.pointer (some ⟨ba, 0, none⟩), .pointer (some ⟨bb, 0, none⟩)] w fun e w' => e = .returned (.bool RES) ∧ Below w.heap.size w w' := by
  obtain ⟨W2, hW2, hb, hsz, d0, d1⟩ := pl_boxes w (.pointer (some ⟨ba, 0, none⟩)) (.pointer (some ⟨bb, 0, none⟩))
  have HB : Hid (Below w.heap.size w W2) := hb
  have HCL : Hid (∀ (p : Addr) v, p.block < w.heap.size → w.cell? p = some v → W2.cell? p = some v) := fun p v hp hc => by rw [hb.cell hp]; exact hc
  have e0 := HCL.out ⟨ba, 0, none⟩ _ hba ka
  have e1 := HCL.out ⟨bb, 0, none⟩ _ hbb kb
  subst h
  have f1 : (k2 == 1) = false := by simp [h1]
  have g7 : (k2 == 7) = false := by simp [h27]
  have HIK : Hid (∀ W q, W.cell? ⟨bb, 0, none⟩ = some (.int .i64 k2) → W.cell? ⟨bb, 1, none⟩ = some (.int .i64 o2) → Calls Tryz.prog 50 #[.pointer (some ⟨bb, 0, none⟩), .int .i64 q] W fun e w' => e = .returned (.bool (k2 == 3 && o2 == q)) ∧ W = w') := fun W q h0 h1 => isKind_any bb k2 o2 q W h0 h1
  have e1o := HCL.out ⟨bb, 1, none⟩ _ hbb c1
  have HZ : Hid ((k2 == 3 && o2 == 8) = z) := hz
  have HIK : Hid (∀ W, W.cell? ⟨bb, 0, none⟩ = some (.int .i64 k2) → W.cell? ⟨bb, 1, none⟩ = some (.int .i64 o2) → Calls Tryz.prog 50 #[.pointer (some ⟨bb, 0, none⟩), .int .i64 8] W fun e w' => e = .returned (.bool z) ∧ W = w') := fun W a b => by have := HIK.out W 8 a b; rw [HZ.out] at this; exact this
  subst hr
  clear hb hsz hba hbb ka kb HCL h1 h27 c1 hz
  subst hzt

  go_enter Tryz.func24, Tryz.ntmps24
  go_wp2_with fail
  go_quiet ((go_at_call 50; exact Calls.quiet_of_same ((HIK.out _ (by assumption) (by assumption)).mono (fun e w' h => ⟨h.1, h.2.symm⟩))))
  go_wp2_with fail
  go_ret
  exact ⟨rfl, HB.out.trans (below_drewN' _ _ _)⟩
set_option maxRecDepth 100000 in
set_option maxHeartbeats 4000000 in
theorem plq_5b (ba bb : Nat) (w : World) (k k2 : Int) (RES : Bool) (hba : ba < w.heap.size) (hbb : bb < w.heap.size) (ka : w.cell? ⟨ba, 0, none⟩ = some (.int .i64 k)) (kb : w.cell? ⟨bb, 0, none⟩ = some (.int .i64 k2)) (h1 : k2 ≠ 1) (h27 : k2 ≠ 7) (h : k = 5) (o2 : Int) (c1 : w.cell? ⟨bb, 1, none⟩ = some (.int .i64 o2)) (z : Bool) (hz : (k2 == 3 && o2 == 8) = z) (hzt : z = false) (h5 : k2 ≠ 5) (hr : RES = false) :
    Calls Tryz.prog 24 #[.pointer (some ⟨ba, 0, none⟩), .pointer (some ⟨bb, 0, none⟩)] w fun e w' => e = .returned (.bool RES) ∧ Below w.heap.size w w' := by
  obtain ⟨W2, hW2, hb, hsz, d0, d1⟩ := pl_boxes w (.pointer (some ⟨ba, 0, none⟩)) (.pointer (some ⟨bb, 0, none⟩))
  have HB : Hid (Below w.heap.size w W2) := hb
  have HCL : Hid (∀ (p : Addr) v, p.block < w.heap.size → w.cell? p = some v → W2.cell? p = some v) := fun p v hp hc => by rw [hb.cell hp]; exact hc
  have e0 := HCL.out ⟨ba, 0, none⟩ _ hba ka
  have e1 := HCL.out ⟨bb, 0, none⟩ _ hbb kb
  subst h
  have f1 : (k2 == 1) = false := by simp [h1]
  have g7 : (k2 == 7) = false := by simp [h27]
  have HIK : Hid (∀ W q, W.cell? ⟨bb, 0, none⟩ = some (.int .i64 k2) → W.cell? ⟨bb, 1, none⟩ = some (.int .i64 o2) → Calls Tryz.prog 50 #[.pointer (some ⟨bb, 0, none⟩), .int .i64 q] W fun e w' => e = .returned (.bool (k2 == 3 && o2 == q)) ∧ W = w') := fun W q h0 h1 => isKind_any bb k2 o2 q W h0 h1
  have e1o := HCL.out ⟨bb, 1, none⟩ _ hbb c1
  have HZ : Hid ((k2 == 3 && o2 == 8) = z) := hz
  have HIK : Hid (∀ W, W.cell? ⟨bb, 0, none⟩ = some (.int .i64 k2) → W.cell? ⟨bb, 1, none⟩ = some (.int .i64 o2) → Calls Tryz.prog 50 #[.pointer (some ⟨bb, 0, none⟩), .int .i64 8] W fun e w' => e = .returned (.bool z) ∧ W = w') := fun W a b => by have := HIK.out W 8 a b; rw [HZ.out] at this; exact this
  subst hr
  have f5 : (k2 == 5) = false := by simp [h5]
  clear hb hsz hba hbb ka kb HCL h1 h27 c1 hz h5
  subst hzt

  go_enter Tryz.func24, Tryz.ntmps24
  go_wp2_with fail
  go_quiet ((go_at_call 50; exact Calls.quiet_of_same ((HIK.out _ (by assumption) (by assumption)).mono (fun e w' h => ⟨h.1, h.2.symm⟩))))
  go_wp2_with fail
  go_ret
  exact ⟨rfl, HB.out.trans (below_drewN' _ _ _)⟩
set_option maxRecDepth 100000 in
set_option maxHeartbeats 4000000 in
theorem plq_5c (ba bb : Nat) (w : World) (k k2 : Int) (RES : Bool) (hba : ba < w.heap.size) (hbb : bb < w.heap.size) (ka : w.cell? ⟨ba, 0, none⟩ = some (.int .i64 k)) (kb : w.cell? ⟨bb, 0, none⟩ = some (.int .i64 k2)) (h1 : k2 ≠ 1) (h27 : k2 ≠ 7) (h : k = 5) (o2 : Int) (c1 : w.cell? ⟨bb, 1, none⟩ = some (.int .i64 o2)) (z : Bool) (hz : (k2 == 3 && o2 == 8) = z) (hzt : z = false) (h5 : k2 = 5) (g1 o1 cpa b1 g2 o3 cpb b2 : Nat) (hg1 : g1 < w.heap.size) (hg2 : g2 < w.heap.size) (c4a : w.cell? ⟨ba, 4, none⟩ = some (.slice (some ⟨g1, o1, none⟩) 1 cpa)) (c4b : w.cell? ⟨bb, 4, none⟩ = some (.slice (some ⟨g2, o3, none⟩) 1 cpb)) (ca : w.cell? ⟨g1, o1, none⟩ = some (.pointer (some ⟨b1, 0, none⟩))) (cb : w.cell? ⟨g2, o3, none⟩ = some (.pointer (some ⟨b2, 0, none⟩))) (HH : ∀ W, Below w.heap.size w W → Calls Tryz.prog 24 #[.pointer (some ⟨b1, 0, none⟩), .pointer (some ⟨b2, 0, none⟩)] W fun e w' => e = .returned (.bool RES) ∧ Below W.heap.size W w') :
    Calls Tryz.prog 24 #[.pointer (some ⟨ba, 0, none⟩), .pointer (some ⟨bb, 0, none⟩)] w fun e w' => e = .returned (.bool RES) ∧ Below w.heap.size w w' := by
  obtain ⟨W2, hW2, hb, hsz, d0, d1⟩ := pl_boxes w (.pointer (some ⟨ba, 0, none⟩)) (.pointer (some ⟨bb, 0, none⟩))
  have HB : Hid (Below w.heap.size w W2) := hb
  have HCL : Hid (∀ (p : Addr) v, p.block < w.heap.size → w.cell? p = some v → W2.cell? p = some v) := fun p v hp hc => by rw [hb.cell hp]; exact hc
  have e0 := HCL.out ⟨ba, 0, none⟩ _ hba ka
  have e1 := HCL.out ⟨bb, 0, none⟩ _ hbb kb
  subst h
  have f1 : (k2 == 1) = false := by simp [h1]
  have g7 : (k2 == 7) = false := by simp [h27]
  have HIK : Hid (∀ W q, W.cell? ⟨bb, 0, none⟩ = some (.int .i64 k2) → W.cell? ⟨bb, 1, none⟩ = some (.int .i64 o2) → Calls Tryz.prog 50 #[.pointer (some ⟨bb, 0, none⟩), .int .i64 q] W fun e w' => e = .returned (.bool (k2 == 3 && o2 == q)) ∧ W = w') := fun W q h0 h1 => isKind_any bb k2 o2 q W h0 h1
  have e1o := HCL.out ⟨bb, 1, none⟩ _ hbb c1
  have HZ : Hid ((k2 == 3 && o2 == 8) = z) := hz
  have HIK : Hid (∀ W, W.cell? ⟨bb, 0, none⟩ = some (.int .i64 k2) → W.cell? ⟨bb, 1, none⟩ = some (.int .i64 o2) → Calls Tryz.prog 50 #[.pointer (some ⟨bb, 0, none⟩), .int .i64 8] W fun e w' => e = .returned (.bool z) ∧ W = w') := fun W a b => by have := HIK.out W 8 a b; rw [HZ.out] at this; exact this
  subst h5
  have HX : Hid (∀ W, Below W2.heap.size W2 W → W.cell? ⟨w.heap.size, 0, none⟩ = some (.pointer (some ⟨ba, 0, none⟩)) ∧ W.cell? ⟨w.heap.size + 1, 0, none⟩ = some (.pointer (some ⟨bb, 0, none⟩)) ∧ W.cell? ⟨bb, 0, none⟩ = some (.int .i64 5) ∧ W.cell? ⟨bb, 1, none⟩ = some (.int .i64 o2) ∧ W.cell? ⟨ba, 4, none⟩ = some (.slice (some ⟨g1, o1, none⟩) 1 cpa) ∧ W.cell? ⟨bb, 4, none⟩ = some (.slice (some ⟨g2, o3, none⟩) 1 cpb) ∧ W.cell? ⟨g1, o1, none⟩ = some (.pointer (some ⟨b1, 0, none⟩)) ∧ W.cell? ⟨g2, o3, none⟩ = some (.pointer (some ⟨b2, 0, none⟩))) := fun W hW => ⟨cell_below d0 hW, cell_below d1 hW, cell_below e1 hW, cell_below e1o hW, cell_below (HCL.out ⟨ba, 4, none⟩ _ hba c4a) hW, cell_below (HCL.out ⟨bb, 4, none⟩ _ hbb c4b) hW, cell_below (HCL.out ⟨g1, o1, none⟩ _ hg1 ca) hW, cell_below (HCL.out ⟨g2, o3, none⟩ _ hg2 cb) hW⟩
  have HO : Hid (∀ W, Below W2.heap.size W2 W → Calls Tryz.prog 24 #[.pointer (some ⟨b1, 0, none⟩), .pointer (some ⟨b2, 0, none⟩)] W fun e w' => e = .returned (.bool RES) ∧ Below W.heap.size W w') := fun W hW => HH W (hb.trans (hW.mono hb.size))
  clear hb hsz hba hbb ka kb HCL h1 h27 c1 hz c4a c4b ca cb hg1 hg2 HH f1 g7
  subst hzt

  go_enter Tryz.func24, Tryz.ntmps24
  go_wp2_with fail
  refine wp_region_held_drew (S := fun W => W.cell? ⟨w.heap.size, 0, none⟩ = some (.pointer (some ⟨ba, 0, none⟩)) ∧ W.cell? ⟨w.heap.size + 1, 0, none⟩ = some (.pointer (some ⟨bb, 0, none⟩)) ∧ W.cell? ⟨bb, 0, none⟩ = some (.int .i64 5) ∧ W.cell? ⟨bb, 1, none⟩ = some (.int .i64 o2) ∧ W.cell? ⟨ba, 4, none⟩ = some (.slice (some ⟨g1, o1, none⟩) 1 cpa) ∧ W.cell? ⟨bb, 4, none⟩ = some (.slice (some ⟨g2, o3, none⟩) 1 cpb) ∧ W.cell? ⟨g1, o1, none⟩ = some (.pointer (some ⟨b1, 0, none⟩)) ∧ W.cell? ⟨g2, o3, none⟩ = some (.pointer (some ⟨b2, 0, none⟩))) (by kernel_rfl) ?_ (fun hHeld => ?_)
  · exact HX.out _ (Below.refl _ _).drew
  refine tkH (i := 0) (v := ?_) rfl (by kernel_rfl) (by rfl) ?_ (by assumption) ?_
  rotate_left
  · intro w hSw; (try dsimp only at hSw); go_simp; try (with_reducible rfl)
  simp only [Act.put, lsA, lsB, lsC]
  refine wpAnyH_ready (rs := [1]) (by kernel_rfl) (by simp) ?_
  refine arC rfl (fun K hK => ?_) AllReadyH.nil
  go_simp
  (refine (HIK.out _ (HX.out _ (Below.refl _ _).drew).2.2.1 (HX.out _ (Below.refl _ _).drew).2.2.2.1).mono ?_; rintro e w4 ⟨rfl, rfl⟩)
  go_wp2_with fail
  refine hK.out _ _ ?_ (fun hHeld => ?_)
  · exact HX.out _ (Below.refl _ _).drew
  clear hK K
  refine tkH (i := 2) (v := ?_) rfl (by kernel_rfl) (by rfl) ?_ (by assumption) ?_
  rotate_left
  · intro w hSw; (try dsimp only at hSw); go_simp; try (with_reducible rfl)
  simp only [Act.put, lsA, lsB, lsC]
  refine tkH (i := 3) (v := ?_) rfl (by kernel_rfl) (by rfl) ?_ (by assumption) ?_
  rotate_left
  · intro w hSw; (try dsimp only at hSw); go_simp; try (with_reducible rfl)
  simp only [Act.put, lsA, lsB, lsC]
  refine tkH (i := 4) (v := ?_) rfl (by kernel_rfl) (by rfl) ?_ (by assumption) ?_
  rotate_left
  · intro w hSw; (try dsimp only at hSw); go_simp; try (with_reducible rfl)
  simp only [Act.put, lsA, lsB, lsC]
  refine tkH (i := 5) (v := ?_) rfl (by kernel_rfl) (by rfl) ?_ (by assumption) ?_
  rotate_left
  · intro w hSw; (try dsimp only at hSw); go_simp; try (with_reducible rfl)
  simp only [Act.put, lsA, lsB, lsC]
  refine tkH (i := 6) (v := ?_) rfl (by kernel_rfl) (by rfl) ?_ (by assumption) ?_
  rotate_left
  · intro w hSw; (try dsimp only at hSw); go_simp; try (with_reducible rfl)
  simp only [Act.put, lsA, lsB, lsC]
  refine tkH (i := 7) (v := ?_) rfl (by kernel_rfl) (by rfl) ?_ (by assumption) ?_
  rotate_left
  · intro w hSw; (try dsimp only at hSw); go_simp; try (with_reducible rfl)
  simp only [Act.put, lsA, lsB, lsC]
  refine tkH (i := 8) (v := ?_) rfl (by kernel_rfl) (by rfl) ?_ (by assumption) ?_
  rotate_left
  · intro w hSw; (try dsimp only at hSw); go_simp; try (with_reducible rfl)
  simp only [Act.put, lsA, lsB, lsC]
  refine tkH (i := 9) (v := ?_) rfl (by kernel_rfl) (by rfl) ?_ (by assumption) ?_
  rotate_left
  · intro w hSw; (try dsimp only at hSw); go_simp; try (with_reducible rfl)
  simp only [Act.put, lsA, lsB, lsC]
  refine tkH (i := 10) (v := ?_) rfl (by kernel_rfl) (by rfl) ?_ (by assumption) ?_
  rotate_left
  · intro w hSw; (try dsimp only at hSw); go_simp; try (with_reducible rfl)
  simp only [Act.put, lsA, lsB, lsC]
  refine tkH (i := 11) (v := ?_) rfl (by kernel_rfl) (by rfl) ?_ (by assumption) ?_
  rotate_left
  · intro w hSw; (try dsimp only at hSw); go_simp; try (with_reducible rfl)
  simp only [Act.put, lsA, lsB, lsC]
  refine tkH (i := 12) (v := ?_) rfl (by kernel_rfl) (by rfl) ?_ (by assumption) ?_
  rotate_left
  · intro w hSw; (try dsimp only at hSw); go_simp; try (with_reducible rfl)
  simp only [Act.put, lsA, lsB, lsC]
  refine tkH (i := 13) (v := ?_) rfl (by kernel_rfl) (by rfl) ?_ (by assumption) ?_
  rotate_left
  · intro w hSw; (try dsimp only at hSw); go_simp; try (with_reducible rfl)
  simp only [Act.put, lsA, lsB, lsC]
  refine tkH (i := 14) (v := ?_) rfl (by kernel_rfl) (by rfl) ?_ (by assumption) ?_
  rotate_left
  · intro w hSw; (try dsimp only at hSw); go_simp; try (with_reducible rfl)
  simp only [Act.put, lsA, lsB, lsC]
  refine tkH (i := 15) (v := ?_) rfl (by kernel_rfl) (by rfl) ?_ (by assumption) ?_
  rotate_left
  · intro w hSw; (try dsimp only at hSw); go_simp; try (with_reducible rfl)
  simp only [Act.put, lsA, lsB, lsC]
  refine tkH (i := 16) (v := ?_) rfl (by kernel_rfl) (by rfl) ?_ (by assumption) ?_
  rotate_left
  · intro w hSw; (try dsimp only at hSw); go_simp; try (with_reducible rfl)
  simp only [Act.put, lsA, lsB, lsC]
  refine tkH (i := 17) (v := ?_) rfl (by kernel_rfl) (by rfl) ?_ (by assumption) ?_
  rotate_left
  · intro w hSw; (try dsimp only at hSw); go_simp; try (with_reducible rfl)
  simp only [Act.put, lsA, lsB, lsC]
  refine tkH (i := 18) (v := ?_) rfl (by kernel_rfl) (by rfl) ?_ (by assumption) ?_
  rotate_left
  · intro w hSw; (try dsimp only at hSw); go_simp; try (with_reducible rfl)
  simp only [Act.put, lsA, lsB, lsC]
  refine tkH (i := 19) (v := ?_) rfl (by kernel_rfl) (by rfl) ?_ (by assumption) ?_
  rotate_left
  · intro w hSw; (try dsimp only at hSw); go_simp; try (with_reducible rfl)
  simp only [Act.put, lsA, lsB, lsC]
  refine tkH (i := 20) (v := ?_) rfl (by kernel_rfl) (by rfl) ?_ (by assumption) ?_
  rotate_left
  · intro w hSw; (try dsimp only at hSw); go_simp; try (with_reducible rfl)
  simp only [Act.put, lsA, lsB, lsC]
  refine wpAnyH_ready (rs := [21]) (by kernel_rfl) (by simp) ?_
  refine arC rfl (fun K hK => ?_) AllReadyH.nil
  go_simp
  (refine (HO.out _ (Below.refl _ _).drew).mono ?_; rintro e w5 ⟨rfl, hb5⟩; have HB5 : Hid (Below W2.heap.size W2 w5) := below_to (Below.refl _ _).drew hb5; clear hb5)
  go_wp2_with fail
  refine hK.out _ _ ?_ (fun hHeld => ?_)
  · exact HX.out _ HB5.out
  clear hK K
  refine tkH (i := 22) (v := ?_) rfl (by kernel_rfl) (by rfl) ?_ (by assumption) ?_
  rotate_left
  · intro w hSw; (try dsimp only at hSw); go_simp; try (with_reducible rfl)
  simp only [Act.put, lsA, lsB, lsC]
  refine tkH (i := 23) (v := ?_) rfl (by kernel_rfl) (by rfl) ?_ (by assumption) ?_
  rotate_left
  · intro w hSw; (try dsimp only at hSw); go_simp; try (with_reducible rfl)
  simp only [Act.put, lsA, lsB, lsC]
  refine tkH (i := 24) (v := ?_) rfl (by kernel_rfl) (by rfl) ?_ (by assumption) ?_
  rotate_left
  · intro w hSw; (try dsimp only at hSw); go_simp; try (with_reducible rfl)
  simp only [Act.put, lsA, lsB, lsC]
  refine wpAnyH_done (by kernel_rfl) ?_ _
  go_wp2_with fail
  go_ret
  exact ⟨rfl, HB.out.trans (HB5.out.mono HB.out.size)⟩
set_option maxRecDepth 100000 in
set_option maxHeartbeats 4000000 in
theorem plq_6a (ba bb : Nat) (w : World) (k k2 : Int) (RES : Bool) (hba : ba < w.heap.size) (hbb : bb < w.heap.size) (ka : w.cell? ⟨ba, 0, none⟩ = some (.int .i64 k)) (kb : w.cell? ⟨bb, 0, none⟩ = some (.int .i64 k2)) (h1 : k2 ≠ 1) (h27 : k2 ≠ 7) (h : k = 6) (o2 : Int) (c1 : w.cell? ⟨bb, 1, none⟩ = some (.int .i64 o2)) (z : Bool) (hz : (k2 == 3 && o2 == 9) = z) (hzt : z = true) (hr : RES = true) :
    Calls Tryz.prog 24 #[.pointer (some ⟨ba, 0, none⟩), .pointer (some ⟨bb, 0, none⟩)] w fun e w' => e = .returned (.bool RES) ∧ Below w.heap.size w w' := by
  obtain ⟨W2, hW2, hb, hsz, d0, d1⟩ := pl_boxes w (.pointer (some ⟨ba, 0, none⟩)) (.pointer (some ⟨bb, 0, none⟩))
  have HB : Hid (Below w.heap.size w W2) := hb
  have HCL : Hid (∀ (p : Addr) v, p.block < w.heap.size → w.cell? p = some v → W2.cell? p = some v) := fun p v hp hc => by rw [hb.cell hp]; exact hc
  have e0 := HCL.out ⟨ba, 0, none⟩ _ hba ka
  have e1 := HCL.out ⟨bb, 0, none⟩ _ hbb kb
  subst h
  have f1 : (k2 == 1) = false := by simp [h1]
  have g7 : (k2 == 7) = false := by simp [h27]
  have HIK : Hid (∀ W q, W.cell? ⟨bb, 0, none⟩ = some (.int .i64 k2) → W.cell? ⟨bb, 1, none⟩ = some (.int .i64 o2) → Calls Tryz.prog 50 #[.pointer (some ⟨bb, 0, none⟩), .int .i64 q] W fun e w' => e = .returned (.bool (k2 == 3 && o2 == q)) ∧ W = w') := fun W q h0 h1 => isKind_any bb k2 o2 q W h0 h1
  have e1o := HCL.out ⟨bb, 1, none⟩ _ hbb c1
  have HZ : Hid ((k2 == 3 && o2 == 9) = z) := hz
  have HIK : Hid (∀ W, W.cell? ⟨bb, 0, none⟩ = some (.int .i64 k2) → W.cell? ⟨bb, 1, none⟩ = some (.int .i64 o2) → Calls Tryz.prog 50 #[.pointer (some ⟨bb, 0, none⟩), .int .i64 9] W fun e w' => e = .returned (.bool z) ∧ W = w') := fun W a b => by have := HIK.out W 9 a b; rw [HZ.out] at this; exact this
  have HI6 : Hid (Calls Tryz.prog 50 #[.pointer (some ⟨bb, 0, none⟩), .int .i64 9] W2 fun e w' => e = .returned (.bool z) ∧ W2 = w') := HIK.out W2 e1 e1o
  subst hr
  clear hb hsz hba hbb ka kb HCL h1 h27 c1 hz
  subst hzt

  go_enter Tryz.func24, Tryz.ntmps24
  go_wp2_with fail
  refine HI6.out.mono ?_
  rintro e w3 ⟨rfl, rfl⟩
  go_wp2_with fail
  go_ret
  exact ⟨rfl, HB.out⟩
set_option maxRecDepth 100000 in
set_option maxHeartbeats 4000000 in
theorem plq_6b (ba bb : Nat) (w : World) (k k2 : Int) (RES : Bool) (hba : ba < w.heap.size) (hbb : bb < w.heap.size) (ka : w.cell? ⟨ba, 0, none⟩ = some (.int .i64 k)) (kb : w.cell? ⟨bb, 0, none⟩ = some (.int .i64 k2)) (h1 : k2 ≠ 1) (h27 : k2 ≠ 7) (h : k = 6) (o2 : Int) (c1 : w.cell? ⟨bb, 1, none⟩ = some (.int .i64 o2)) (z : Bool) (hz : (k2 == 3 && o2 == 9) = z) (hzt : z = false) (h6 : k2 ≠ 6) (hr : RES = false) :
    Calls Tryz.prog 24 #[.pointer (some ⟨ba, 0, none⟩), .pointer (some ⟨bb, 0, none⟩)] w fun e w' => e = .returned (.bool RES) ∧ Below w.heap.size w w' := by
  obtain ⟨W2, hW2, hb, hsz, d0, d1⟩ := pl_boxes w (.pointer (some ⟨ba, 0, none⟩)) (.pointer (some ⟨bb, 0, none⟩))
  have HB : Hid (Below w.heap.size w W2) := hb
  have HCL : Hid (∀ (p : Addr) v, p.block < w.heap.size → w.cell? p = some v → W2.cell? p = some v) := fun p v hp hc => by rw [hb.cell hp]; exact hc
  have e0 := HCL.out ⟨ba, 0, none⟩ _ hba ka
  have e1 := HCL.out ⟨bb, 0, none⟩ _ hbb kb
  subst h
  have f1 : (k2 == 1) = false := by simp [h1]
  have g7 : (k2 == 7) = false := by simp [h27]
  have HIK : Hid (∀ W q, W.cell? ⟨bb, 0, none⟩ = some (.int .i64 k2) → W.cell? ⟨bb, 1, none⟩ = some (.int .i64 o2) → Calls Tryz.prog 50 #[.pointer (some ⟨bb, 0, none⟩), .int .i64 q] W fun e w' => e = .returned (.bool (k2 == 3 && o2 == q)) ∧ W = w') := fun W q h0 h1 => isKind_any bb k2 o2 q W h0 h1
  have e1o := HCL.out ⟨bb, 1, none⟩ _ hbb c1
  have HZ : Hid ((k2 == 3 && o2 == 9) = z) := hz
  have HIK : Hid (∀ W, W.cell? ⟨bb, 0, none⟩ = some (.int .i64 k2) → W.cell? ⟨bb, 1, none⟩ = some (.int .i64 o2) → Calls Tryz.prog 50 #[.pointer (some ⟨bb, 0, none⟩), .int .i64 9] W fun e w' => e = .returned (.bool z) ∧ W = w') := fun W a b => by have := HIK.out W 9 a b; rw [HZ.out] at this; exact this
  have HI6 : Hid (Calls Tryz.prog 50 #[.pointer (some ⟨bb, 0, none⟩), .int .i64 9] W2 fun e w' => e = .returned (.bool z) ∧ W2 = w') := HIK.out W2 e1 e1o
  subst hr
  have f6 : (k2 == 6) = false := by simp [h6]
  clear hb hsz hba hbb ka kb HCL h1 h27 c1 hz h6
  subst hzt

  go_enter Tryz.func24, Tryz.ntmps24
  go_wp2_with fail
  refine HI6.out.mono ?_
  rintro e w3 ⟨rfl, rfl⟩
  go_wp2_with fail
  go_ret
  exact ⟨rfl, HB.out⟩
set_option maxRecDepth 100000 in
set_option maxHeartbeats 4000000 in
theorem plq_6c (ba bb : Nat) (w : World) (k k2 : Int) (RES : Bool) (hba : ba < w.heap.size) (hbb : bb < w.heap.size) (ka : w.cell? ⟨ba, 0, none⟩ = some (.int .i64 k)) (kb : w.cell? ⟨bb, 0, none⟩ = some (.int .i64 k2)) (h1 : k2 ≠ 1) (h27 : k2 ≠ 7) (h : k = 6) (o2 : Int) (c1 : w.cell? ⟨bb, 1, none⟩ = some (.int .i64 o2)) (z : Bool) (hz : (k2 == 3 && o2 == 9) = z) (hzt : z = false) (h6 : k2 = 6) (HH : ∀ W, Below w.heap.size w W → Calls Tryz.prog 51 #[.pointer (some ⟨ba, 0, none⟩), .pointer (some ⟨bb, 0, none⟩)] W fun e w' => e = .returned (.bool RES) ∧ Below W.heap.size W w') :
    Calls Tryz.prog 24 #[.pointer (some ⟨ba, 0, none⟩), .pointer (some ⟨bb, 0, none⟩)] w fun e w' => e = .returned (.bool RES) ∧ Below w.heap.size w w' := by
  obtain ⟨W2, hW2, hb, hsz, d0, d1⟩ := pl_boxes w (.pointer (some ⟨ba, 0, none⟩)) (.pointer (some ⟨bb, 0, none⟩))
  have HB : Hid (Below w.heap.size w W2) := hb
  have HCL : Hid (∀ (p : Addr) v, p.block < w.heap.size → w.cell? p = some v → W2.cell? p = some v) := fun p v hp hc => by rw [hb.cell hp]; exact hc
  have e0 := HCL.out ⟨ba, 0, none⟩ _ hba ka
  have e1 := HCL.out ⟨bb, 0, none⟩ _ hbb kb
  subst h
  have f1 : (k2 == 1) = false := by simp [h1]
  have g7 : (k2 == 7) = false := by simp [h27]
  have HIK : Hid (∀ W q, W.cell? ⟨bb, 0, none⟩ = some (.int .i64 k2) → W.cell? ⟨bb, 1, none⟩ = some (.int .i64 o2) → Calls Tryz.prog 50 #[.pointer (some ⟨bb, 0, none⟩), .int .i64 q] W fun e w' => e = .returned (.bool (k2 == 3 && o2 == q)) ∧ W = w') := fun W q h0 h1 => isKind_any bb k2 o2 q W h0 h1
  have e1o := HCL.out ⟨bb, 1, none⟩ _ hbb c1
  have HZ : Hid ((k2 == 3 && o2 == 9) = z) := hz
  have HIK : Hid (∀ W, W.cell? ⟨bb, 0, none⟩ = some (.int .i64 k2) → W.cell? ⟨bb, 1, none⟩ = some (.int .i64 o2) → Calls Tryz.prog 50 #[.pointer (some ⟨bb, 0, none⟩), .int .i64 9] W fun e w' => e = .returned (.bool z) ∧ W = w') := fun W a b => by have := HIK.out W 9 a b; rw [HZ.out] at this; exact this
  have HI6 : Hid (Calls Tryz.prog 50 #[.pointer (some ⟨bb, 0, none⟩), .int .i64 9] W2 fun e w' => e = .returned (.bool z) ∧ W2 = w') := HIK.out W2 e1 e1o
  subst h6
  have HO : Hid (Calls Tryz.prog 51 #[.pointer (some ⟨ba, 0, none⟩), .pointer (some ⟨bb, 0, none⟩)] W2 fun e w' => e = .returned (.bool RES) ∧ Below W2.heap.size W2 w') := HH W2 hb
  clear hb hsz hba hbb ka kb HCL h1 h27 c1 hz HH f1 g7
  subst hzt

  go_enter Tryz.func24, Tryz.ntmps24
  go_wp2_with fail
  refine HI6.out.mono ?_
  rintro e w3 ⟨rfl, rfl⟩
  go_wp2_with fail
  refine HO.out.mono ?_
  rintro e w4 ⟨rfl, hb4⟩
  have H4 : Hid (Below w.heap.size w w4) := HB.out.trans (hb4.mono HB.out.size)
  clear hb4
  go_wp2_with fail
  go_ret
  exact ⟨rfl, H4.out⟩end Go.Proofs.YtjdjpbdfchhcfaaGreat

/- check.plainlyOf of every two types; check.Sub. -/
namespace Go.Proofs.YtjdjpbdfchhcfaaGreat
open Go.RowKit

theorem Sp.fpl_sub {o : Int} {t : Tm} {p : TyL} {n : List ByteArray} {l : List Bool} {op : Bool} {c : ByteArray} {o2 : Int} {t2 : Tm} {p2 : TyL} {n2 : List ByteArray} {l2 : List Bool} {op2 : Bool} {c2 : ByteArray} (a1 : n.length = p.len) (a2 : n.length = l.length) (b1 : n2.length = p2.len) (b2 : n2.length = l2.length) :
    (Ty.mk 6 o t p n l op c).sub (.mk 6 o2 t2 p2 n2 l2 op2 c2) = Sp.fpl p n l op p2 n2 l2 op2 := by
  rw [Ty.sub_leaf (q := .mk 6 o2 t2 p2 n2 l2 op2 c2) (by decide) (by decide) (show (6 : Int) ≠ 1 by decide) (show (6 : Int) ≠ 7 by decide)]
  have e1 := Sp.z3_nms n l p.subFns a2.symm (by rw [TyL.subFns_map, List.length_map, TyL.toL_len]; exact a1.symm)
  have e2 := Sp.z3_nms n2 l2 p2.toL b2.symm (by rw [TyL.toL_len]; exact b1.symm)
  have h := Sp.subD_mrg op op2 (Sp.z3 n l p.subFns) (Sp.z3 n2 l2 p2.toL) (n.length + n2.length) 0 0 (Sp.z3 n l p.subFns) (Sp.z3 n2 l2 p2.toL) (fun k => by rw [Nat.zero_add]) (fun k => by rw [Nat.zero_add])
  rw [e1, e2] at h
  simp only [Ty.kind, Ty.of, Ty.opn, Ty.names, Ty.lacks, Ty.parts, h, Sp.fpl]
  simp
theorem Ty.own_eq {k o : Int} {t : Tm} {p : TyL} {n : List ByteArray} {l : List Bool} {op : Bool} {c : ByteArray} (h : (Ty.mk k o t p n l op c).ok = true) : (Ty.mk k o t p n l op c).own = true ∧ (k = 1 ∨ k = 2 ∨ k = 3 ∨ k = 4 ∨ k = 5 ∨ k = 6 ∨ k = 7 ∨ k = 8) := by
  have how : (Ty.mk k o t p n l op c).own = true := by simp only [Ty.ok, Bool.and_eq_true] at h; exact h.1.1
  refine ⟨how, ?_⟩
  simp only [Ty.own] at how
  (repeat' split at how) <;> simp_all <;> omega
theorem beq_and (a b c d : Int) : (a == b && c == d) = decide (a = b ∧ c = d) := by
  by_cases h1 : a = b <;> by_cases h2 : c = d <;> simp [h1, h2]

theorem sub_any : ∀ N, SubC N
  | 0 => fun a b h => by cases a; simp [Ty.sz] at h
  | N + 1 => fun a b hN hoa hob ba bb B w hsa hsb hB => by
    cases a with
    | mk k o t p n l op c =>
      cases b with
      | mk k2 o2 t2 p2 n2 l2 op2 c2 =>
        have hsa' := hsa
        have hsb' := hsb
        simp only [Ty.Sh] at hsa hsb
        obtain ⟨hba, oa, ua, za, ap, np, cp, an, nn, cn, ak, nk, ck, opa, ca, hha, a3, a4, a5, a6, a8, -⟩ := hsa
        obtain ⟨hbb, ob, ub, zb, bp, mp, bcp, bn, mn, bcn, bk, mk, bck, opb, cb, hhb, b3, b4, b5, b6, b8, -⟩ := hsb
        have hba' : ba < w.heap.size := Nat.lt_of_lt_of_le hba hB
        have hbb' : bb < w.heap.size := Nat.lt_of_lt_of_le hbb hB
        have ka : w.cell? ⟨ba, 0, none⟩ = some (.int .i64 k) := by rw [cell_of_row _ _ _ _ _ _ hha]; rfl
        have kb : w.cell? ⟨bb, 0, none⟩ = some (.int .i64 k2) := by rw [cell_of_row _ _ _ _ _ _ hhb]; rfl
        have c1b : w.cell? ⟨bb, 1, none⟩ = some (.int .i64 ob) := by rw [cell_of_row _ _ _ _ _ _ hhb]; rfl
        have hS : ∀ W, Below w.heap.size w W → Same (Lo B) w W := fun W hW q hq => hW.block q (Nat.lt_of_lt_of_le hq hB)
        obtain ⟨hwa, hka⟩ := Ty.own_eq hoa
        obtain ⟨hwb, hkb⟩ := Ty.own_eq hob
        have hkk : ∀ q, (k2 == 3 && ob == q) = decide ((Ty.mk k2 o2 t2 p2 n2 l2 op2 c2).kind = 3 ∧ (Ty.mk k2 o2 t2 p2 n2 l2 op2 c2).of = q) := fun q => by
          rw [beq_and]
          by_cases h3 : k2 = 3
          · rw [b3 h3]; rfl
          · simp [h3, Ty.kind]
        simp only [Ty.sz] at hN
        by_cases h1 : k2 = 1
        · exact plq_any ba bb w k k2 _ hba' hbb' ka kb h1 (by rw [Ty.sub, if_pos (.inl h1)])
        by_cases h2 : k = 2
        · exact plq_none ba bb w k k2 _ hba' hbb' ka kb h1 h2 (by rw [Ty.sub, if_pos (.inr h2)])
        by_cases h7 : k = 7
        · obtain ⟨rfl, q2, q3⟩ := a5 (by rw [h7]; rfl)
          have hp := Ty.ok_parts hoa (by rw [h7]; rfl)
          refine plq_unionA ba bb w k k2 _ hba' hbb' ka kb h1 h7 ap p.len cp (by rw [cell_of_row _ _ _ _ _ _ hha]; rfl) (p.anyS fun t => !t.sub (.mk k2 o2 t2 p2 n2 l2 op2 c2)) ?_ ?_
          · rw [TyL.anyS_all, Ty.sub, if_neg (fun e => e.elim h1 h2), if_pos h7]; simp
          · intro W b1 hW hx hb1
            refine containsS1_any _ p.sz p (Nat.le_refl _) hp ap cp b1 B W (Nat.le_trans hB hW.size) (p.Sh_same (hS W hW) (fun _ h => h) ap 0 q3) q2 (fun u bp' W' hu huo hus hW' => ?_)
            have hWW := hW.trans (hW'.mono hW.size)
            exact plain1_any _ bp' bb b1 W' (by rw [hW'.cell (p := ⟨b1, 0, none⟩) hb1]; exact hx) (sub_any N u _ (by simp only [Ty.sz]; omega) huo hob bp' bb B W' hus (Ty.Sh_same (hS W' hWW) (fun _ h => h) _ bb hsb') (Nat.le_trans hB hWW.size))
        by_cases h27 : k2 = 7
        · obtain ⟨rfl, q2, q3⟩ := b5 (by rw [h27]; rfl)
          have hp := Ty.ok_parts hob (by rw [h27]; rfl)
          refine plq_unionB ba bb w k k2 _ hba' hbb' ka kb h1 h2 h7 h27 bp p2.len bcp (by rw [cell_of_row _ _ _ _ _ _ hhb]; rfl) ?_
          intro W b1 hW hx hb1
          subst h27
          rw [Ty.sub_union h2 h7]
          refine containsS2_any _ p2.sz p2 (Nat.le_refl _) hp bp bcp b1 B W (Nat.le_trans hB hW.size) (p2.Sh_same (hS W hW) (fun _ h => h) bp 0 q3) q2 (fun u bp' W' hu huo hus hW' => ?_)
          have hWW := hW.trans (hW'.mono hW.size)
          exact plain2_any _ bp' ba b1 W' (by rw [hW'.cell (p := ⟨b1, 0, none⟩) hb1]; exact hx) (sub_any N _ u (by simp only [Ty.sz]; omega) hoa huo ba bp' B W' (Ty.Sh_same (hS W' hWW) (fun _ h => h) _ ba hsa') hus (Nat.le_trans hB hWW.size))
        have hleaf := Ty.sub_leaf (k := k) (o := o) (t := t) (p := p) (n := n) (l := l) (op := op) (c := c) h2 h7 (q := .mk k2 o2 t2 p2 n2 l2 op2 c2) h1 h27
        rcases hka with rfl | rfl | rfl | rfl | rfl | rfl | rfl | rfl
        · exact plq_1 ba bb w 1 k2 _ hba' hbb' ka kb h1 h27 rfl (by rw [hleaf]; simp)
        · exact absurd rfl h2
        · refine plq_3 ba bb w 3 k2 _ hba' hbb' ka kb h1 h27 rfl oa ob (by rw [cell_of_row _ _ _ _ _ _ hha]; rfl) c1b ?_
          rw [hleaf, if_neg (by decide), if_pos rfl, hkk, a3 rfl]
        · obtain ⟨hv, -⟩ := a4 rfl
          have ht : t.all.e = 0 := by simp only [Ty.ok, Bool.and_eq_true] at hoa; have := hoa.1.2; simpa using this
          refine plq_4 ba bb w 4 k2 _ hba' hbb' ka kb h1 h27 rfl ua (by rw [cell_of_row _ _ _ _ _ _ hha]; rfl) (t.V_shape ua hv) ((Ty.mk k2 o2 t2 p2 n2 l2 op2 c2).has t).2 (fun W hW => ?_)
          rw [hleaf, if_pos rfl]
          exact has_any _ _ (Nat.le_refl _) hob t ua bb B W ht (t.V_same (hS W hW) (fun _ h => h) ua hv) (Ty.Sh_same (hS W hW) (fun _ h => h) _ bb hsb') (Nat.le_trans hB hW.size)
        · obtain ⟨rfl, q2, q3⟩ := a5 rfl
          obtain ⟨ta, rfl, hta⟩ := Ty.ok_list hoa
          rw [if_neg (by decide), if_neg (by decide), if_pos rfl, ← hkk] at hleaf
          cases hz : (k2 == 3 && ob == 8) with
          | true => exact plq_5a ba bb w 5 k2 _ hba' hbb' ka kb h1 h27 rfl ob c1b true hz rfl (by rw [hleaf, hz]; rfl)
          | false =>
            by_cases h5 : k2 = 5
            · subst h5
              obtain ⟨rfl, r2, r3⟩ := b5 rfl
              obtain ⟨tb, rfl, htb⟩ := Ty.ok_list hob
              simp only [TyL.Sh] at q3 r3
              obtain ⟨g1, o1, b1, rfl, hg1, hc1, hs1, -⟩ := q3
              obtain ⟨g2, o3, b2, rfl, hg2, hc2, hs2, -⟩ := r3
              refine plq_5c ba bb w 5 5 _ hba' hbb' ka kb h1 h27 rfl ob c1b false hz rfl rfl g1 o1 cp b1 g2 o3 bcp b2 (Nat.lt_of_lt_of_le hg1 hB) (Nat.lt_of_lt_of_le hg2 hB) (by rw [cell_of_row _ _ _ _ _ _ hha]; rfl) (by rw [cell_of_row _ _ _ _ _ _ hhb]; rfl) (by simpa using hc1) (by simpa using hc2) (fun W hW => ?_)
              rw [hleaf, hz]
              have e : (decide ((Ty.mk 5 o2 t2 (.cons tb .nil) n2 l2 op2 c2).kind = 5) && (TyL.cons ta .nil).subHead (Ty.mk 5 o2 t2 (.cons tb .nil) n2 l2 op2 c2).parts) = ta.sub tb := by simp [Ty.kind, Ty.parts, TyL.subHead]
              rw [e, Bool.false_or]
              exact sub_any N ta tb (by simp [TyL.sz] at hN; omega) hta htb b1 b2 B W (ta.Sh_same (hS W hW) (fun _ h => h) b1 hs1) (tb.Sh_same (hS W hW) (fun _ h => h) b2 hs2) (Nat.le_trans hB hW.size)
            · refine plq_5b ba bb w 5 k2 _ hba' hbb' ka kb h1 h27 rfl ob c1b false hz rfl h5 ?_
              rw [hleaf, hz]; simp [Ty.kind, h5]
        · obtain ⟨rfl, q2, q3⟩ := a5 rfl
          obtain ⟨rfl, rfl, rfl, r4, r5⟩ := a6 rfl
          have hsub := hleaf
          rw [if_neg (by decide), if_neg (by decide), if_neg (by decide), if_pos rfl, ← hkk] at hleaf
          obtain ⟨d1, d2, d3, d4, d5⟩ := Ty.own_dict hoa
          cases hz : (k2 == 3 && ob == 9) with
          | true => exact plq_6a ba bb w 6 k2 _ hba' hbb' ka kb h1 h27 rfl ob c1b true hz rfl (by rw [hleaf, hz]; rfl)
          | false =>
            by_cases h6 : k2 = 6
            · subst h6
              obtain ⟨rfl, s2, s3⟩ := b5 rfl
              obtain ⟨rfl, rfl, rfl, s4, s5⟩ := b6 rfl
              obtain ⟨f1, f2, f3, f4, f5⟩ := Ty.own_dict hob
              refine plq_6c ba bb w 6 6 _ hba' hbb' ka kb h1 h27 rfl ob c1b false hz rfl rfl (fun W hW => ?_)
              rw [Sp.fpl_sub d1 d2 f1 f2]
              have hs := hS W hW
              have hcl : ∀ (q : Addr) v, q.block < w.heap.size → w.cell? q = some v → W.cell? q = some v := fun q v hq hc => by rw [hW.cell hq]; exact hc
              exact subFields_any N (sub_any N) p p2 (by omega) n n2 l l2 opa opb ba bb B ap an ak bp bn bk cp cn ck bcp bcn bck W (Nat.le_trans hB hW.size)
                ⟨hba, hcl ⟨ba, 4, none⟩ _ hba' (by rw [cell_of_row _ _ _ _ _ _ hha]; rfl), hcl ⟨ba, 5, none⟩ _ hba' (by rw [cell_of_row _ _ _ _ _ _ hha]; rfl), hcl ⟨ba, 6, none⟩ _ hba' (by rw [cell_of_row _ _ _ _ _ _ hha]; rfl), hcl ⟨ba, 7, none⟩ _ hba' (by rw [cell_of_row _ _ _ _ _ _ hha]; rfl), r4.same hs (fun _ h => h), r5.same hs (fun _ h => h), p.Sh_same hs (fun _ h => h) ap 0 q3, d5, d1, d2.symm, d4⟩
                ⟨hbb, hcl ⟨bb, 4, none⟩ _ hbb' (by rw [cell_of_row _ _ _ _ _ _ hhb]; rfl), hcl ⟨bb, 5, none⟩ _ hbb' (by rw [cell_of_row _ _ _ _ _ _ hhb]; rfl), hcl ⟨bb, 6, none⟩ _ hbb' (by rw [cell_of_row _ _ _ _ _ _ hhb]; rfl), hcl ⟨bb, 7, none⟩ _ hbb' (by rw [cell_of_row _ _ _ _ _ _ hhb]; rfl), s4.same hs (fun _ h => h), s5.same hs (fun _ h => h), p2.Sh_same hs (fun _ h => h) bp 0 s3, f5, f1, f2.symm, f4⟩
            · refine plq_6b ba bb w 6 k2 _ hba' hbb' ka kb h1 h27 rfl ob c1b false hz rfl h6 ?_
              rw [hleaf, hz]; simp [Ty.kind, h6]
        · exact absurd rfl h7
        · have ec := a8 rfl
          subst ec
          rw [if_neg (by decide), if_neg (by decide), if_neg (by decide), if_neg (by decide), if_pos rfl, ← hkk] at hleaf
          have c8a : w.cell? ⟨ba, 8, none⟩ = some (.string ca) := by rw [cell_of_row _ _ _ _ _ _ hha]; rfl
          have c8b : w.cell? ⟨bb, 8, none⟩ = some (.string cb) := by rw [cell_of_row _ _ _ _ _ _ hhb]; rfl
          cases hz : (k2 == 3 && ob == 10) with
          | true => exact plq_8a ba bb w 8 k2 _ hba' hbb' ka kb h1 h27 rfl ob c1b ca cb c8a c8b true hz rfl (by rw [hleaf, hz]; rfl)
          | false =>
            by_cases h8 : k2 = 8
            · have eb := b8 h8
              subst eb
              refine plq_8c ba bb w 8 k2 _ hba' hbb' ka kb h1 h27 rfl ob c1b ca cb c8a c8b false hz rfl h8 ?_
              rw [hleaf, hz, same_of]; simp [Ty.kind, Ty.cls, h8]
            · refine plq_8b ba bb w 8 k2 _ hba' hbb' ka kb h1 h27 rfl ob c1b ca cb c8a c8b false hz rfl h8 ?_
              rw [hleaf, hz]; simp [Ty.kind, h8]
end Go.Proofs.YtjdjpbdfchhcfaaGreat

/- check.shapesOf, check.Sub. -/
namespace Go.Proofs.YtjdjpbdfchhcfaaGreat
open Go.RowKit

section
variable (a b : Ty) (ca cb : Array Value) (B : Nat) (w : World)
abbrev tb (w : World) (ca cb : Array Value) : World := (w.alloc (.cells ca 34)).alloc (.cells cb 34)
theorem tb_below : Below w.heap.size w (tb w ca cb) := ((Below.refl _ _).alloc (Nat.le_refl _) _).trans (((Below.refl _ _).alloc (Nat.le_refl _) _).mono (by simp))
theorem tb_a (W : World) (hsz : ca.size = 18) (hW : Below (tb w ca cb).heap.size (tb w ca cb) W) : (loadVar 34 ⟨w.heap.size, 0, none⟩).run Tryz.prog W = .ok (.agg ca) W :=
  yld hsz (by
    rw [hW.block w.heap.size (by simp <;> omega)]
    have h := heap_alloc_new w (.cells ca 34)
    have := ((Below.refl (w.alloc (.cells ca 34)).heap.size (w.alloc (.cells ca 34))).alloc (Nat.le_refl _) (.cells cb 34)).block w.heap.size (by simp)
    rw [this]; exact h)
theorem tb_b (W : World) (hsz : cb.size = 18) (hW : Below (tb w ca cb).heap.size (tb w ca cb) W) : (loadVar 34 ⟨(w.alloc (.cells ca 34)).heap.size, 0, none⟩).run Tryz.prog W = .ok (.agg cb) W :=
  yld hsz (by
    rw [hW.block (w.alloc (.cells ca 34)).heap.size (by simp)]
    exact heap_alloc_new _ _)

set_option maxRecDepth 100000 in
set_option maxHeartbeats 2000000 in
theorem shapesOf_a (hB : B ≤ w.heap.size) (ha : a.In w (Lo B) ca) (hc : a.can = false) :
    Calls Tryz.prog 23 #[.agg ca, .agg cb] w fun e w' => e = .returned (.tuple #[.pointer none, .pointer none, .int .i64 70]) ∧ Below w.heap.size w w' := by
  obtain ⟨hsz, -⟩ := Ty.In_cells ha
  have hs : ∀ W, Below w.heap.size w W → Same (Lo B) w W := fun W hW k hk => hW.block k (Nat.lt_of_lt_of_le hk hB)
  have HBW : Hid (Below w.heap.size w (tb w ca cb)) := tb_below ca cb w
  have HL : Hid ((loadVar 34 ⟨w.heap.size, 0, none⟩).run Tryz.prog (tb w ca cb) = .ok (.agg ca) (tb w ca cb)) := tb_a ca cb w _ hsz (Below.refl _ _)
  have HS : Hid (Calls Tryz.prog 46 #[.agg ca] (tb w ca cb) fun e w' => e = .returned (.tuple #[.pointer none, .int .i64 70]) ∧ Below (tb w ca cb).heap.size (tb w ca cb) w') :=
    shapeOf_no a ca (Lo B) _ (a.In_same (hs _ HBW.out) (fun _ h => h) ca ha) (fun k hk => Nat.lt_of_lt_of_le hk (Nat.le_trans hB HBW.out.size)) hc
  clear ha hB hs hc
  go_enter Tryz.func23, Tryz.ntmps23
  go_wp2_with ((with_reducible refine ld_row ?_ ?_ HL.out ?_); rfl; rfl)
  refine HS.out.mono ?_
  rintro e w1 ⟨rfl, hb1⟩
  have H1 : Hid (Below w.heap.size w w1) := HBW.out.trans (hb1.mono (by simp <;> omega))
  clear hb1
  go_wp2_with fail
  go_ret3
  exact ⟨rfl, H1.out⟩

set_option maxRecDepth 100000 in
set_option maxHeartbeats 2000000 in
theorem shapesOf_b (hB : B ≤ w.heap.size) (ha : a.In w (Lo B) ca) (hb : b.In w (Lo B) cb) (hc : a.can = true) (hd : b.can = false) :
    Calls Tryz.prog 23 #[.agg ca, .agg cb] w fun e w' => e = .returned (.tuple #[.pointer none, .pointer none, .int .i64 70]) ∧ Below w.heap.size w w' := by
  obtain ⟨hsz, -⟩ := Ty.In_cells ha
  obtain ⟨hsb, -⟩ := Ty.In_cells hb
  have hs : ∀ W, Below w.heap.size w W → Same (Lo B) w W := fun W hW k hk => hW.block k (Nat.lt_of_lt_of_le hk hB)
  have HBW : Hid (Below w.heap.size w (tb w ca cb)) := tb_below ca cb w
  have HL : Hid ((loadVar 34 ⟨w.heap.size, 0, none⟩).run Tryz.prog (tb w ca cb) = .ok (.agg ca) (tb w ca cb)) := tb_a ca cb w _ hsz (Below.refl _ _)
  have HS : Hid (Calls Tryz.prog 46 #[.agg ca] (tb w ca cb) fun e w' => ∃ p, e = .returned (.tuple #[.pointer (some ⟨p, 0, none⟩), .int .i64 0]) ∧ Below (tb w ca cb).heap.size (tb w ca cb) w' ∧ a.Sh w' (Lo w'.heap.size) p) :=
    shapeOf_ok a ca (Lo B) _ (a.In_same (hs _ HBW.out) (fun _ h => h) ca ha) (fun k hk => Nat.lt_of_lt_of_le hk (Nat.le_trans hB HBW.out.size)) hc
  have HB : Hid (∀ W, Below w.heap.size w W → Calls Tryz.prog 46 #[.agg cb] W fun e w' => e = .returned (.tuple #[.pointer none, .int .i64 70]) ∧ Below W.heap.size W w') := fun W hW =>
    shapeOf_no b cb (Lo B) _ (b.In_same (hs _ hW) (fun _ h => h) cb hb) (fun k hk => Nat.lt_of_lt_of_le hk (Nat.le_trans hB hW.size)) hd
  have HM : Hid (∀ W, Below (tb w ca cb).heap.size (tb w ca cb) W → (loadVar 34 ⟨(w.alloc (.cells ca 34)).heap.size, 0, none⟩).run Tryz.prog W = .ok (.agg cb) W) := fun W hW => tb_b ca cb w W hsb hW
  clear ha hb hB hs hc hd
  go_enter Tryz.func23, Tryz.ntmps23
  go_wp2_with ((with_reducible refine ld_row ?_ ?_ HL.out ?_); rfl; rfl)
  refine HS.out.mono ?_
  rintro e w1 ⟨p, rfl, hb1, -⟩
  have H1 : Hid (Below w.heap.size w w1) := HBW.out.trans (hb1.mono (by simp <;> omega))
  have HL1 : Hid ((loadVar 34 ⟨w.heap.size + 1, 0, none⟩).run Tryz.prog w1 = .ok (.agg cb) w1) := by have := HM.out w1 hb1; show _ = _; simpa using this
  clear hb1
  go_wp2_with ((with_reducible refine ld_row ?_ ?_ HL1.out ?_); rfl; rfl)
  refine (HB.out w1 H1.out).mono ?_
  rintro e w2 ⟨rfl, hb2⟩
  have H2 : Hid (Below w.heap.size w w2) := H1.out.trans (hb2.mono H1.out.size)
  clear hb2
  go_wp2_with fail
  go_ret3
  exact ⟨rfl, H2.out⟩

set_option maxRecDepth 100000 in
set_option maxHeartbeats 2000000 in
theorem shapesOf_c (hB : B ≤ w.heap.size) (ha : a.In w (Lo B) ca) (hb : b.In w (Lo B) cb) (hc : a.can = true) (hd : b.can = true) :
    Calls Tryz.prog 23 #[.agg ca, .agg cb] w fun e w' => ∃ p q, e = .returned (.tuple #[.pointer (some ⟨p, 0, none⟩), .pointer (some ⟨q, 0, none⟩), .int .i64 0]) ∧ Below w.heap.size w w' ∧ a.Sh w' (Lo w'.heap.size) p ∧ b.Sh w' (Lo w'.heap.size) q := by
  obtain ⟨hsz, -⟩ := Ty.In_cells ha
  obtain ⟨hsb, -⟩ := Ty.In_cells hb
  have hs : ∀ W, Below w.heap.size w W → Same (Lo B) w W := fun W hW k hk => hW.block k (Nat.lt_of_lt_of_le hk hB)
  have HBW : Hid (Below w.heap.size w (tb w ca cb)) := tb_below ca cb w
  have HL : Hid ((loadVar 34 ⟨w.heap.size, 0, none⟩).run Tryz.prog (tb w ca cb) = .ok (.agg ca) (tb w ca cb)) := tb_a ca cb w _ hsz (Below.refl _ _)
  have HS : Hid (Calls Tryz.prog 46 #[.agg ca] (tb w ca cb) fun e w' => ∃ p, e = .returned (.tuple #[.pointer (some ⟨p, 0, none⟩), .int .i64 0]) ∧ Below (tb w ca cb).heap.size (tb w ca cb) w' ∧ a.Sh w' (Lo w'.heap.size) p) :=
    shapeOf_ok a ca (Lo B) _ (a.In_same (hs _ HBW.out) (fun _ h => h) ca ha) (fun k hk => Nat.lt_of_lt_of_le hk (Nat.le_trans hB HBW.out.size)) hc
  have HB : Hid (∀ W, Below w.heap.size w W → Calls Tryz.prog 46 #[.agg cb] W fun e w' => ∃ q, e = .returned (.tuple #[.pointer (some ⟨q, 0, none⟩), .int .i64 0]) ∧ Below W.heap.size W w' ∧ b.Sh w' (Lo w'.heap.size) q) := fun W hW =>
    shapeOf_ok b cb (Lo B) _ (b.In_same (hs _ hW) (fun _ h => h) cb hb) (fun k hk => Nat.lt_of_lt_of_le hk (Nat.le_trans hB hW.size)) hd
  have HM : Hid (∀ W, Below (tb w ca cb).heap.size (tb w ca cb) W → (loadVar 34 ⟨(w.alloc (.cells ca 34)).heap.size, 0, none⟩).run Tryz.prog W = .ok (.agg cb) W) := fun W hW => tb_b ca cb w W hsb hW
  clear ha hb hB hs hc hd
  go_enter Tryz.func23, Tryz.ntmps23
  go_wp2_with ((with_reducible refine ld_row ?_ ?_ HL.out ?_); rfl; rfl)
  refine HS.out.mono ?_
  rintro e w1 ⟨p, rfl, hb1, hp⟩
  have H1 : Hid (Below w.heap.size w w1 ∧ a.Sh w1 (Lo w1.heap.size) p) := ⟨HBW.out.trans (hb1.mono (by simp <;> omega)), hp⟩
  have HL1 : Hid ((loadVar 34 ⟨w.heap.size + 1, 0, none⟩).run Tryz.prog w1 = .ok (.agg cb) w1) := by have := HM.out w1 hb1; show _ = _; simpa using this
  clear hb1 hp
  go_wp2_with ((with_reducible refine ld_row ?_ ?_ HL1.out ?_); rfl; rfl)
  refine (HB.out w1 H1.out.1).mono ?_
  rintro e w2 ⟨q, rfl, hb2, hq⟩
  have H2 : Hid (Below w.heap.size w w2 ∧ a.Sh w2 (Lo w2.heap.size) p ∧ b.Sh w2 (Lo w2.heap.size) q) := ⟨H1.out.1.trans (hb2.mono H1.out.1.size), a.Sh_same (fun k hk => hb2.block k hk) (fun k hk => Nat.lt_of_lt_of_le hk hb2.size) p H1.out.2, hq⟩
  clear hb2 hq
  go_wp2_with fail
  go_ret3
  exact ⟨p, q, rfl, H2.out⟩

def Sp.subA (a b : Ty) : Bool × Int := if a.can && b.can then (a.sub b, 0) else (false, 70)
set_option maxRecDepth 100000 in
set_option maxHeartbeats 2000000 in
theorem Sub_any (hB : B ≤ w.heap.size) (ha : a.In w (Lo B) ca) (hb : b.In w (Lo B) cb) :
    Calls Tryz.prog 6 #[.agg ca, .agg cb] w fun e w' => e = .returned (.tuple #[.bool (Sp.subA a b).1, .int .i64 (Sp.subA a b).2]) ∧ Below w.heap.size w w' := by
  obtain ⟨hsz, -⟩ := Ty.In_cells ha
  obtain ⟨hsb, -⟩ := Ty.In_cells hb
  have hs : ∀ W, Below w.heap.size w W → Same (Lo B) w W := fun W hW k hk => hW.block k (Nat.lt_of_lt_of_le hk hB)
  have HBW : Hid (Below w.heap.size w (tb w ca cb)) := tb_below ca cb w
  have HL : Hid ((loadVar 34 ⟨w.heap.size, 0, none⟩).run Tryz.prog (tb w ca cb) = .ok (.agg ca) (tb w ca cb)) := tb_a ca cb w _ hsz (Below.refl _ _)
  have HM : Hid ((loadVar 34 ⟨w.heap.size + 1, 0, none⟩).run Tryz.prog (tb w ca cb) = .ok (.agg cb) (tb w ca cb)) := by have := tb_b ca cb w _ hsb (Below.refl _ _); show _ = _; simpa using this
  have ha0 := a.In_same (hs _ HBW.out) (fun _ h => h) ca ha
  have hb0 := b.In_same (hs _ HBW.out) (fun _ h => h) cb hb
  have hB0 : B ≤ (tb w ca cb).heap.size := Nat.le_trans hB HBW.out.size
  cases hcd : (a.can && b.can) with
  | false =>
    have HS : Hid (Calls Tryz.prog 23 #[.agg ca, .agg cb] (tb w ca cb) fun e w' => e = .returned (.tuple #[.pointer none, .pointer none, .int .i64 70]) ∧ Below (tb w ca cb).heap.size (tb w ca cb) w') := by
      cases hc : a.can with
      | false => exact shapesOf_a a ca cb B _ hB0 ha0 hc
      | true => exact shapesOf_b a b ca cb B _ hB0 ha0 hb0 hc (by simpa [hc] using hcd)
    have HX : Sp.subA a b = (false, 70) := by unfold Sp.subA; rw [hcd]; rfl
    rw [HX]
    clear ha hb ha0 hb0 hB hB0 hs HX hcd
    go_enter Tryz.func6, Tryz.ntmps6
    go_wp2_with first
      | ((with_reducible refine ld_row ?_ ?_ HL.out ?_); rfl; rfl)
      | ((with_reducible refine ld_row ?_ ?_ HM.out ?_); rfl; rfl)
    refine HS.out.mono ?_
    rintro e w1 ⟨rfl, hb1⟩
    have H1 : Hid (Below w.heap.size w w1) := HBW.out.trans (hb1.mono (by simp <;> omega))
    clear hb1
    go_wp2_with fail
    go_ret2
    exact ⟨rfl, H1.out⟩
  | true =>
    obtain ⟨hc, hd⟩ := Bool.and_eq_true_iff.1 hcd
    obtain ⟨oa, -, -⟩ := Ty.can_ok hc
    obtain ⟨ob, -, -⟩ := Ty.can_ok hd
    have HS : Hid (Calls Tryz.prog 23 #[.agg ca, .agg cb] (tb w ca cb) fun e w' => ∃ p q, e = .returned (.tuple #[.pointer (some ⟨p, 0, none⟩), .pointer (some ⟨q, 0, none⟩), .int .i64 0]) ∧ Below (tb w ca cb).heap.size (tb w ca cb) w' ∧ a.Sh w' (Lo w'.heap.size) p ∧ b.Sh w' (Lo w'.heap.size) q) := shapesOf_c a b ca cb B _ hB0 ha0 hb0 hc hd
    have HP : Hid (∀ (W : World) p q, a.Sh W (Lo W.heap.size) p → b.Sh W (Lo W.heap.size) q → Calls Tryz.prog 24 #[.pointer (some ⟨p, 0, none⟩), .pointer (some ⟨q, 0, none⟩)] W fun e w' => e = .returned (.bool (a.sub b)) ∧ Below W.heap.size W w') := fun W p q hp hq =>
      sub_any _ a b (Nat.le_refl _) oa ob p q W.heap.size W hp hq (Nat.le_refl _)
    have HX : Sp.subA a b = (a.sub b, 0) := by unfold Sp.subA; rw [hcd]; rfl
    rw [HX]
    clear ha hb ha0 hb0 hB hB0 hs HX hcd hc hd oa ob
    generalize a.sub b = r at *
    go_enter Tryz.func6, Tryz.ntmps6
    go_wp2_with first
      | ((with_reducible refine ld_row ?_ ?_ HL.out ?_); rfl; rfl)
      | ((with_reducible refine ld_row ?_ ?_ HM.out ?_); rfl; rfl)
    refine HS.out.mono ?_
    rintro e w1 ⟨p, q, rfl, hb1, hp, hq⟩
    have H1 : Hid (Below w.heap.size w w1) := HBW.out.trans (hb1.mono (by simp <;> omega))
    have HP1 := HP.out w1 p q hp hq
    have HP2 : Hid (Calls Tryz.prog 24 #[.pointer (some ⟨p, 0, none⟩), .pointer (some ⟨q, 0, none⟩)] w1 fun e w' => e = .returned (.bool r) ∧ Below w1.heap.size w1 w') := HP1
    clear hb1 hp hq HP1
    go_wp2_with fail
    refine HP2.out.mono ?_
    rintro e w2 ⟨rfl, hb2⟩
    have H2 : Hid (Below w.heap.size w w2) := H1.out.trans (hb2.mono H1.out.size)
    clear hb2
    go_wp2_with fail
    go_ret2
    exact ⟨rfl, H2.out⟩
end
end Go.Proofs.YtjdjpbdfchhcfaaGreat

