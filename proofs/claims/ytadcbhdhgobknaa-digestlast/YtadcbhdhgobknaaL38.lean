/- What Put and Delete leave of what DigestLast says. -/
import Derived.Test.YtadcbhdhgobknaaL37
import Derived.Test.YtadcbhdhgobknaaL22
import Derived.Test.YtadcbhdhgobknaaL20
namespace Go.Proofs.Ytadcbhdhgobknaa
open Go.RowKit

theorem put_first {t1 t2 : Tm} {L : TmL} {mb : Nat} {W W' : World} {e : Ending} (h : PutE [] t1.key t1.all.e t2 mb W e W') :
    ∃ v had e0 o G, e = .returned (.tuple #[v, .bool had, .int .i64 e0]) ∧ Below mb W W' ∧ DM W' mb G ∧ Kp t1 L 0 o G ∧ ((e0 = 0 ∧ o = some t2 ∧ t2.all.e = 0) ∨ (e0 ≠ 0 ∧ o = none)) := by
  obtain ⟨hb, ⟨h1, h2, rfl⟩ | ⟨h1, h2, h3, rfl⟩ | ⟨h1, h2, h3, h4, h5, rfl⟩ | ⟨h1, h2, h3, v, rfl⟩⟩ := h
  · exact ⟨_, _, _, none, [], rfl, hb, h2, Kp.nil _ _ _, .inr ⟨h1, rfl⟩⟩
  · exact ⟨_, _, _, none, [], rfl, hb, h3, Kp.nil _ _ _, .inr ⟨h2, rfl⟩⟩
  · exact ⟨_, _, _, none, [], rfl, hb, h4, Kp.nil _ _ _, .inr ⟨by decide, rfl⟩⟩
  · exact ⟨_, _, _, some t2, _, rfl, hb, h3, (Kp.nil _ _ _).putKey h1 t2, .inl ⟨rfl, rfl, h2⟩⟩
theorem put_last {t1 t3 : Tm} {L : TmL} {n : Nat} {o : Option Tm} {G : List (ByteArray × Tm)} {mb : Nat} {W W' : World} {e : Ending} (hK : Kp t1 L n o G) (h : PutE G t1.key t1.all.e t3 mb W e W') :
    ∃ v had e1 o' G', e = .returned (.tuple #[v, .bool had, .int .i64 e1]) ∧ Below mb W W' ∧ DM W' mb G' ∧ Kp t1 L n o' G' ∧ ((e1 = 0 ∧ had = o.isSome ∧ o' = some t3 ∧ t3.all.e = 0) ∨ (e1 ≠ 0 ∧ o' = o)) := by
  obtain ⟨hb, ⟨h1, h2, rfl⟩ | ⟨h1, h2, h3, rfl⟩ | ⟨h1, h2, h3, h4, h5, rfl⟩ | ⟨h1, h2, h3, v, rfl⟩⟩ := h
  · exact ⟨_, _, _, o, G, rfl, hb, h2, hK, .inr ⟨h1, rfl⟩⟩
  · exact ⟨_, _, _, o, G, rfl, hb, h3, hK, .inr ⟨h2, rfl⟩⟩
  · exact ⟨_, _, _, o, G, rfl, hb, h4, hK, .inr ⟨by decide, rfl⟩⟩
  · exact ⟨_, _, _, some t3, _, rfl, hb, h3, hK.putKey h1 t3, .inl ⟨rfl, by rw [hK.at' h1], rfl, h2⟩⟩
theorem put_other {t1 x t : Tm} {L : TmL} {n : Nat} {o : Option Tm} {G : List (ByteArray × Tm)} {mb : Nat} {W W' : World} {e : Ending} (hK : Kp t1 L n o G) (hn : L.nth n = some x) (hs : x.sameB t1 = false) (bk : t1.Bdd) (bx : x.Bdd) (h : PutE G x.key x.all.e t mb W e W') :
    ∃ v had e1 G', e = .returned (.tuple #[v, .bool had, .int .i64 e1]) ∧ Below mb W W' ∧ DM W' mb G' ∧ Kp t1 L (n + 1) o G' := by
  obtain ⟨hb, ⟨h1, h2, rfl⟩ | ⟨h1, h2, h3, rfl⟩ | ⟨h1, h2, h3, h4, h5, rfl⟩ | ⟨h1, h2, h3, v, rfl⟩⟩ := h
  · exact ⟨_, _, _, G, rfl, hb, h2, hK.skip⟩
  · exact ⟨_, _, _, G, rfl, hb, h3, hK.skip⟩
  · exact ⟨_, _, _, G, rfl, hb, h4, hK.skip⟩
  · exact ⟨_, _, _, _, rfl, hb, h3, hK.putOther hn h1 hs bk bx t⟩
theorem del_other {t1 x : Tm} {L : TmL} {n : Nat} {o : Option Tm} {G : List (ByteArray × Tm)} {mb : Nat} {W W' : World} {e : Ending} (hK : Kp t1 L (n + 1) o G) (hG : Apart G) (hn : L.nth n = some x) (hs : x.sameB t1 = false) (bk : t1.Bdd) (bx : x.Bdd) (h : DelE G x.key x.all.e mb W e W') :
    ∃ v had G', e = .returned (.tuple #[v, .bool had]) ∧ Below mb W W' ∧ DM W' mb G' ∧ Kp t1 L n o G' := by
  obtain ⟨hb, ⟨v, b, rfl⟩, ⟨h1, h2⟩ | ⟨h1, h2⟩⟩ := h
  · exact ⟨v, b, _, rfl, hb, h2, hK.del hG hn h1 hs bk bx⟩
  · exact ⟨v, b, _, rfl, hb, h2, hK.drop hn (.inl h1)⟩
theorem get_key {t1 : Tm} {L : TmL} {o : Option Tm} {G : List (ByteArray × Tm)} {W W' : World} {e : Ending} (hK : Kp t1 L 0 o G) (h : GetE G t1.key t1.all.e W e W') :
    Below W.heap.size W W' ∧ ((∃ t v, o = some t ∧ e = .returned (.tuple #[v, .bool true]) ∧ t.V W' (Fr W W') v) ∨ (o = none ∧ e = .returned (.tuple #[.nilIface, .bool false]))) := by
  obtain ⟨hb, ⟨t, v, h1, h2, rfl, h3⟩ | ⟨h1, rfl⟩⟩ := h
  · exact ⟨hb, .inl ⟨t, v, by rw [← hK.at' h1, h2], rfl, h3⟩⟩
  · refine ⟨hb, .inr ⟨?_, rfl⟩⟩
    rcases h1 with h1 | h1
    · cases o with
      | none => rfl
      | some t => exact absurd (hK.ok (by simp)) h1
    · cases o with
      | none => rfl
      | some t => rw [hK.at' (hK.ok (by simp))] at h1; exact h1
def tAq : Tm := .mk 5 false 0 0 ⟨#[97]⟩ ByteArray.empty 0 .nil .nil ByteArray.empty 0
theorem tAq_all : tAq.all.e = 0 := by decide +kernel
theorem tAq_bdd : tAq.Bdd := by simp [tAq, Tm.Bdd, TmL.Bdd, TmF.Bdd]
theorem tAq_V (w : World) (S : Nat → Prop) : tAq.V w S (.iface 9 (.string ⟨#[97]⟩)) := by simp [tAq, Tm.V]; decide
theorem tNl_bdd : tNl.Bdd := by simp [tNl, Tm.Bdd, TmL.Bdd, TmF.Bdd]
theorem one_put (wa : World) : Calls Try.prog 33 #[.pointer (some ⟨wa.heap.size, 0, none⟩), .iface 9 (.string ⟨#[97]⟩), .nilIface] (wa.alloc (.cells #[.map none] 68)) fun e w' => ∃ v hd, e = .returned (.tuple #[v, .bool hd, .int .i64 0]) ∧ Below wa.heap.size wa w' ∧ DM w' wa.heap.size [(tAq.key, tNl)] := by
  have hd : DM (wa.alloc (.cells #[.map none] 68)) wa.heap.size [] := ⟨(fun g hg => by cases hg), _, heap_alloc_new wa _, .inl ⟨rfl, rfl⟩⟩
  refine (Put_any [] wa.heap.size tAq tNl _ .nilIface _ hd (tAq_V _ _) tAq_bdd (tNl_V _ _) tNl_bdd).mono ?_
  rintro e w' ⟨hb, ⟨h1, _⟩ | ⟨_, h2, _⟩ | ⟨_, _, _, _, h5, _⟩ | ⟨h1, h2, h3, v, rfl⟩⟩
  · exact absurd tAq_all h1
  · exact absurd tNl_all h2
  · simp at h5
  · exact ⟨v, _, rfl, ((Below.refl _ _).alloc (Nat.le_refl _) _).trans hb, h3⟩
theorem one_get (ob : Nat) (W : World) (h : DM W ob [(tAq.key, tNl)]) : Calls Try.prog 35 #[.pointer (some ⟨ob, 0, none⟩), .iface 9 (.string ⟨#[97]⟩)] W fun e w' => e = .returned (.tuple #[.nilIface, .bool true]) ∧ Below W.heap.size W w' := by
  refine (Get_val _ ob tAq _ W h (tAq_V _ _) tAq_bdd).mono ?_
  rintro e w' ⟨hb, ⟨t, v, _, h2, rfl, h3⟩ | ⟨h1, _⟩⟩
  · have e2 : tNl = t := by simpa [Sp.look] using h2
    subst e2
    obtain rfl := tNl_nil h3
    exact ⟨rfl, hb⟩
  · rcases h1 with h1 | h1
    · exact absurd tAq_all h1
    · simp [Sp.look] at h1
end Go.Proofs.Ytadcbhdhgobknaa

/- The document's own order of any two terms that can be (tenonref01.Compare), and its Order and Same. -/
namespace Go.Proofs.Ytadcbhdhgobknaa
open Go.RowKit

set_option maxRecDepth 100000 in
set_option maxHeartbeats 2000000 in
theorem compare_8 (N : Nat) (HC : CmpC N) (b : Bool) (i : Int) (f : Nat) (tx : ByteArray) (vb : Value) (rf : Int) (vf : Value) (c : ByteArray) (vr : Int) (b2 : Bool) (i2 : Int) (f2 : Nat) (tx2 : ByteArray) (vb2 : Value) (rf2 : Int) (vf2 : Value) (c2 : ByteArray) (vr2 : Int)
    (A B : TmL) (hN : A.sz ≤ N) (a b' : Option Addr) (ca cb : Nat) (S : Nat → Prop) (w : World) (ha : A.In w S a 0) (hb : B.In w S b' 0) (hS : Sub S w) (oa : A.Ok) (ob : B.Ok) (la : A.len * 152 ≤ 140737488355328) (lb : B.len * 152 ≤ 140737488355328) :
    Calls Try.prog 48 #[.agg (tcells 8 b i f tx vb rf (.slice a A.len ca) vf c vr), .agg (tcells 8 b2 i2 f2 tx2 vb2 rf2 (.slice b' B.len cb) vf2 c2 vr2)] w fun e w' => e = .returned (.int .i64 (A.cmp B)) ∧ Below w.heap.size w w' := by
  unfold tcells
  have HCH : Hid (CmpC N) := HC
  have H0 : Hid (A.In w S a 0 ∧ B.In w S b' 0 ∧ A.Ok ∧ B.Ok) := ⟨ha, hb, oa, ob⟩
  clear HC ha hb oa ob
  have HB := two_below w
  have HB : Hid _ := HB
  go_enter Try.func48, Try.ntmps48
  go_wp2_with fail
  go_loopw [5] (fun x wr => ∃ (k : Nat) (l r : TmL), x = .int .i64 k ∧ l.len + k = A.len ∧ r.len + k = B.len ∧ l.sz ≤ N ∧ wr.cell? ⟨w.heap.size, 7, none⟩ = some (.slice a A.len ca) ∧ wr.cell? ⟨w.heap.size + 1, 7, none⟩ = some (.slice b' B.len cb) ∧ w.heap.size + 1 < wr.heap.size ∧ Hid (l.In w S a k ∧ r.In w S b' k ∧ l.Ok ∧ r.Ok ∧ A.cmp B = l.cmp r) ∧ Hid (Below w.heap.size w wr)) (fun x _ => A.len - (intOf x).toNat)
  case atStart => exact ⟨0, A, B, rfl, rfl, rfl, hN, by simp, by simp, by simp, ⟨H0.out.1, H0.out.2.1, H0.out.2.2.1, H0.out.2.2.2, rfl⟩, HB.out _ _⟩
  case round =>
    obtain ⟨k, l, r, rfl, hl, hr, hlN, x7, y7, hsz, HI, HW⟩ := hrel
    have HK : Hid (IntKind.u64.wrap (A.len : Int) = A.len ∧ IntKind.u64.wrap (B.len : Int) = B.len) := ⟨wrapU (by omega) (by omega), wrapU (by omega) (by omega)⟩
    cases l with
    | nil =>
      have h1 : A.len ≤ k := by simp [TmL.len] at hl; omega
      have H : Hid (A.cmp B = Sp.cmpI A.len B.len) := by
        show _ = _
        rw [HI.out.2.2.2.2]
        cases r with
        | nil => simp only [TmL.len] at hl hr; simp only [TmL.cmp]; unfold Sp.cmpI; rw [if_neg (by omega), if_neg (by omega)]
        | cons u r => simp only [TmL.len] at hl hr; simp only [TmL.cmp]; unfold Sp.cmpI; rw [if_pos (by omega)]
      have hw1 := HK.out.1
      have hw2 := HK.out.2
      clear hl hr
      go_wp2_with (go_at_call 85; refine (numbers_any _ _ _).mono ?_; rintro e w' ⟨rfl, rfl⟩)
      go_ret
      exact ⟨ret_int H.out.symm, HW.out⟩
    | cons t l =>
      cases r with
      | nil =>
        have h1 : B.len ≤ k := by simp [TmL.len] at hr; omega
        have H : Hid (A.cmp B = Sp.cmpI A.len B.len) := by
          show _ = _
          rw [HI.out.2.2.2.2]
          simp only [TmL.len] at hl hr; simp only [TmL.cmp]; unfold Sp.cmpI; rw [if_neg (by omega), if_pos (by omega)]
        have h3 : k < A.len := by simp only [TmL.len] at hl hr; omega
        have hw1 := HK.out.1
        have hw2 := HK.out.2
        clear hl hr
        go_wp2_with (go_at_call 85; refine (numbers_any _ _ _).mono ?_; rintro e w' ⟨rfl, rfl⟩)
        go_ret
        exact ⟨ret_int H.out.symm, HW.out⟩
      | cons u r =>
        obtain ⟨hv1, hv2, ho1, ho2, hc⟩ := HI.out
        simp only [TmL.In] at hv1 hv2
        obtain ⟨g1, o1, cs1, rfl, hg1, c1, ht, hl'⟩ := hv1
        obtain ⟨g2, o2, cs2, rfl, hg2, c2, hu, hr'⟩ := hv2
        have hk1 : k < A.len := by simp only [TmL.len] at hl; omega
        have hk2 : k < B.len := by simp only [TmL.len] at hr; omega
        have hi0 : (0 : Int) ≤ (k : Int) := Int.natCast_nonneg _
        have hi1 : (k : Int) < (A.len : Int) := by omega
        have hi2 : (k : Int) < (B.len : Int) := by omega
        have HL : Hid (l.len + (k + 1) = A.len ∧ r.len + (k + 1) = B.len) := by show _ ∧ _; simp only [TmL.len] at hl hr; omega
        have htN : t.sz ≤ N ∧ l.sz ≤ N := by simp [TmL.sz] at hlN; omega
        have hs : Same S w wr := hS.same HW.out
        have HO : Hid (∀ W, Below wr.heap.size wr W → Calls Try.prog 48 #[.agg cs1, .agg cs2] W fun e w' => e = .returned (.int .i64 (t.cmp u)) ∧ Below W.heap.size W w') :=
          HCH.out.at htN.1 (t.In_same hs (fun _ h => h) cs1 ht) (u.In_same hs (fun _ h => h) cs2 hu) (hS.later HW.out) ho1.head.1 ho2.head.1
        obtain ⟨k1, b1, i1, f1, tx1, vb1, rf1, vl1, vf1, cl1, vr1, rfl⟩ := Tm.In_tc ht
        obtain ⟨k2, b2', i2', f2', tx2', vb2', rf2', vl2, vf2', cl2, vr2', rfl⟩ := Tm.In_tc hu
        obtain ⟨e0, e1, e2, e3, e4, e5, e6, e7, e8, e9, e10⟩ := eleven (w := wr) (g := g1) (o := o1 + k * 11) (fun x hx => by rw [hs.cell (p := ⟨g1, o1 + k * 11 + x, none⟩) hg1]; exact c1 x hx)
        obtain ⟨d0, d1, d2, d3, d4, d5, d6, d7, d8, d9, d10⟩ := eleven (w := wr) (g := g2) (o := o2 + k * 11) (fun x hx => by rw [hs.cell (p := ⟨g2, o2 + k * 11 + x, none⟩) hg2]; exact c2 x hx)
        have HN : Hid (l.In w S (some ⟨g1, o1, none⟩) (k + 1) ∧ r.In w S (some ⟨g2, o2, none⟩) (k + 1) ∧ l.Ok ∧ r.Ok) := ⟨hl', hr', ho1.head.2, ho2.head.2⟩
        have HCC : Hid (A.cmp B = if t.cmp u ≠ 0 then t.cmp u else l.cmp r) := by show _ = _; rw [hc, TmL.cmp]
        unfold tcells at HO
        have HX : Hid (∀ W, Below wr.heap.size wr W → W.cell? ⟨w.heap.size, 7, none⟩ = some (.slice (some ⟨g1, o1, none⟩) A.len ca) ∧ W.cell? ⟨w.heap.size + 1, 7, none⟩ = some (.slice (some ⟨g2, o2, none⟩) B.len cb) ∧ w.heap.size + 1 < W.heap.size) := fun W hW =>
          ⟨by rw [hW.cell (p := ⟨w.heap.size, 7, none⟩) (by show w.heap.size < _; omega)]; exact x7, by rw [hW.cell (p := ⟨w.heap.size + 1, 7, none⟩) (by show w.heap.size + 1 < _; omega)]; exact y7, Nat.lt_of_lt_of_le hsz hW.size⟩
        clear hl hr hlN HI hl' hr' ho1 ho2 hc ht hu H0 hs c1 c2 HK
        go_wp2_with fail
        go_region_with ((go_at_call 48; refine (HO.out _ ?_).mono ?_; exact (Below.refl _ _).drew; rintro e w4 ⟨rfl, hb4⟩; have HB4 : Hid (Below wr.heap.size wr w4) := (Below.refl _ _).drew.trans hb4; clear hb4))
        all_goals
          have HBw : Hid (Below w.heap.size w w4) := HW.out.trans (HB4.out.mono HW.out.size)
          by_cases he : t.cmp u ≠ 0
          · have he' := ne_bool he
            have H : Hid (A.cmp B = t.cmp u) := by show _ = _; rw [HCC.out, if_pos he]
            clear he
            go_wp2_with fail
            go_ret
            exact ⟨ret_int H.out.symm, HBw.out⟩
          · have he0 : t.cmp u = 0 := Decidable.not_not.1 he
            have H : Hid (A.cmp B = l.cmp r) := by show _ = _; rw [HCC.out, if_neg he]
            clear he
            go_wp2_with fail
            go_roundw
            case rel => exact ⟨k + 1, l, r, by go_num, HL.out.1, HL.out.2, htN.2, (HX.out _ HB4.out).1, (HX.out _ HB4.out).2.1, (HX.out _ HB4.out).2.2, ⟨HN.out.1, HN.out.2.1, HN.out.2.2.1, HN.out.2.2.2, H.out⟩, HBw.out⟩
            case measure => simp [intOf]; omega

theorem Tm.Ok.ver {b : Bool} {i : Int} {f : Nat} {tx : ByteArray} {by' : ByteArray} {rf : Int} {l : TmL} {fs : TmF} {c : ByteArray} {v : Int} (h : Tm.Ok (.mk 10 b i f tx by' rf l fs c v)) : 1 ≤ v ∧ v ≤ 1000 := by
  obtain ⟨n, p, d, h⟩ := h
  by_cases he : Sp.ent 10 p n = 0
  · by_cases hh : Sp.headR c v = 0
    · unfold Sp.headR at hh
      split at hh
      · omega
      · split at hh
        · omega
        · omega
    · rw [Tm.wk_10' he hh] at h; exact absurd h hh
  · rw [Tm.wk_ent he] at h; exact absurd h he

set_option maxHeartbeats 2000000 in
theorem compare_any (N : Nat) : CmpC N := by
  induction N with
  | zero => intro t u ht; cases t; simp [Tm.sz] at ht
  | succ N ih =>
    intro s t hN cs ct S w hs ht hS os ot
    cases s with
    | mk k b i f tx by' rf l fs c v =>
      cases t with
      | mk k2 b2 i2 f2 tx2 by2 rf2 l2 fs2 c2 v2 =>
        have hlN : l.sz ≤ N ∧ fs.sz ≤ N := by simp [Tm.sz] at hN; omega
        obtain ⟨p1, p2, p3, p4⟩ := os.parts
        obtain ⟨q1, q2, q3, q4⟩ := ot.parts
        simp only [Tm.In] at hs ht
        obtain ⟨ab, cb, al, cl, af, cf, rfl, bd, h1, h2, h3⟩ := hs
        obtain ⟨ab2, cb2, al2, cl2, af2, cf2, rfl, bd2, g1, g2, g3⟩ := ht
        by_cases hne : Sp.cmpI k k2 ≠ 0
        · rw [Tm.cmp_ne hne]
          exact compare_diff _ _ _ _ _ _ _ _ _ _ _ _ _ _ _ _ _ _ _ _ w k k2 (fun e => hne (by rw [e]; exact cmpI_self _)) p1 p2 q1 q2
        · obtain rfl := cmpI_zero (Decidable.not_not.1 hne)
          clear hne
          have HF : ∀ (of : fs.Ok) (of2 : fs2.Ok), ∀ W, Below w.heap.size w W → Calls Try.prog 89 #[.slice af fs.len cf, .slice af2 fs2.len cf2] W fun e w' => e = .returned (.int .i64 (fs.cmp fs2)) ∧ Below W.heap.size W w' := fun of of2 W hW =>
            fields_any N ih fs fs2 hlN.2 af af2 cf cf2 S W (fs.In_same (hS.same hW) (fun _ h => h) af 0 h3) (fs2.In_same (hS.same hW) (fun _ h => h) af2 0 g3) (hS.later hW) of of2 bd.nf bd2.nf
          by_cases k1 : k = 1
          · subst k1; rw [Tm.cmp_1]; exact compare_1 _ _ _ _ _ _ _ _ _ _ _ _ _ _ _ _ _ _ _ _ w
          by_cases k2 : k = 2
          · subst k2; rw [Tm.cmp_2]; exact compare_2 _ _ _ _ _ _ _ _ _ _ _ _ _ _ _ _ _ _ _ _ w
          by_cases k3 : k = 3
          · subst k3; rw [Tm.cmp_3]; exact compare_3 _ _ _ _ _ _ _ _ _ _ _ _ _ _ _ _ _ _ _ _ w bd.i0 bd.i1 bd2.i0 bd2.i1
          by_cases k4 : k = 4
          · subst k4; rw [Tm.cmp_4]; exact compare_4 _ _ _ _ _ _ _ _ _ _ _ _ _ _ _ _ _ _ _ _ w bd.f1 bd2.f1
          by_cases k5 : k = 5
          · subst k5; rw [Tm.cmp_5]; exact compare_5 _ _ _ _ _ _ _ _ _ _ _ _ _ _ _ _ _ _ _ _ w
          by_cases k6 : k = 6
          · subst k6; rw [Tm.cmp_6]; exact compare_6 _ _ _ _ _ _ _ _ _ _ _ _ _ _ _ _ _ _ w by' by2 ab ab2 cb cb2 S h1 g1 hS
          by_cases k7 : k = 7
          · subst k7; rw [Tm.cmp_7]; exact compare_7 _ _ _ _ _ _ _ _ _ _ _ _ _ _ _ _ _ _ _ _ w bd.r0 bd.r1 bd2.r0 bd2.r1
          by_cases k8 : k = 8
          · subst k8; rw [Tm.cmp_8]; exact compare_8 N ih _ _ _ _ _ _ _ _ _ _ _ _ _ _ _ _ _ _ l l2 hlN.1 al al2 cl cl2 S w h2 g2 hS (p3 rfl) (q3 rfl) bd.nl bd2.nl
          by_cases k9 : k = 9
          · subst k9; rw [Tm.cmp_9]; exact compare_9 _ _ _ _ _ _ _ _ _ _ _ _ _ _ _ _ _ _ _ _ w _ (HF (p4 (.inl rfl)) (q4 (.inl rfl)))
          have k10 : k = 10 := by omega
          subst k10
          rw [Tm.cmp_10]; exact compare_10 _ _ _ _ _ _ _ _ _ _ _ _ _ _ _ _ _ _ _ _ w _ os.ver ot.ver (HF (p4 (.inr rfl)) (q4 (.inr rfl)))
end Go.Proofs.Ytadcbhdhgobknaa

/- Two boxes in new memory, each with a term's eleven cells. -/
namespace Go.Proofs.Ytadcbhdhgobknaa
open Go.RowKit

def two (w : World) (a b : Array Value) : World := (w.alloc (.cells a 29 (0, 0))).alloc (.cells b 29 (0, 0))
theorem two_size (w : World) (a b : Array Value) : (two w a b).heap.size = w.heap.size + 2 := by simp [two]
theorem two_bel (w : World) (a b : Array Value) : Below w.heap.size w (two w a b) := by
  unfold two
  refine Below.alloc (Below.alloc (Below.refl _ _) (Nat.le_refl _) _) ?_ _; simp
theorem two_a {w W : World} {a b : Array Value} (h : Below (two w a b).heap.size (two w a b) W) : W.heap[w.heap.size]? = some (.cells a 29 (0, 0)) := by
  rw [h.block w.heap.size (by rw [two_size]; omega)]; unfold two
  rw [((Below.refl (w.alloc (.cells a 29 (0, 0))).heap.size _).alloc (Nat.le_refl _) (.cells b 29 (0, 0))).block w.heap.size (by simp)]; exact heap_alloc_new w _
theorem two_b {w W : World} {a b : Array Value} (h : Below (two w a b).heap.size (two w a b) W) : W.heap[w.heap.size + 1]? = some (.cells b 29 (0, 0)) := by
  rw [h.block (w.heap.size + 1) (by rw [two_size]; omega)]; unfold two
  have := heap_alloc_new (w.alloc (.cells a 29 (0, 0))) (.cells b 29 (0, 0))
  simpa using this
end Go.Proofs.Ytadcbhdhgobknaa

