/- wire.appendValue at every value that can be; wire.Encode. -/
import Derived.Test.YtmmiiapfefmcjaaJ40
import Derived.Test.YtmmiiapfefmcjaaJ31
import Derived.Test.YtmmiiapfefmcjaaJ38
import Derived.Deep.RegionHeld3
namespace Go.Proofs.Ytmmiiapfefmcjaa
open Go.RowKit

set_option maxHeartbeats 1000000 in
theorem enc_any (N : Nat) : EncC N := by
  induction N with
  | zero => intro t ht; cases t; simp [Tm.sz] at ht
  | succ N ih =>
    intro t hN v base a cap xs w hv ho hbd hx hlen
    cases t with
    | mk k b i f tx by' rf l fs c vr =>
      have hlN : l.sz ≤ N ∧ fs.sz ≤ N := by simp [Tm.sz] at hN; omega
      obtain ⟨p1, p2, p3, p4⟩ := ho.parts
      obtain ⟨q1, q2, q3, q4, q5⟩ := ho.bounds
      simp only [Tm.Bdd] at hbd
      obtain ⟨bi, bf, br, bv, bl, bfs⟩ := hbd
      simp only [Tm.V] at hv
      obtain ⟨h1, h2, h3, h4, h5, h6, h7, h8, h9, h10, h11, h12⟩ := hv
      have hk : k = 1 ∨ k = 2 ∨ k = 3 ∨ k = 4 ∨ k = 5 ∨ k = 6 ∨ k = 7 ∨ k = 8 ∨ k = 9 ∨ k = 10 := by omega
      rcases hk with rfl | rfl | rfl | rfl | rfl | rfl | rfl | rfl | rfl | rfl
      · rw [h1 rfl, Tm.enc_1]; rw [Tm.enc_1] at hlen; exact aval_1 base a cap xs w hx hlen
      · rw [h2 rfl, Tm.enc_2]; rw [Tm.enc_2] at hlen
        cases b with
        | false => exact aval_2f base a cap xs w hx hlen
        | true => exact aval_2t base a cap xs w hx hlen
      · rw [h3 rfl, Tm.enc_3]; rw [Tm.enc_3] at hlen; exact aval_3 i base a cap xs w bi.1 bi.2 hx hlen
      · rw [(h4 rfl).1, Tm.enc_4]; rw [Tm.enc_4] at hlen; exact aval_4 f base a cap xs w hx hlen
      · rw [(h5 rfl).1, Tm.enc_5]; rw [Tm.enc_5] at hlen; exact aval_5 tx base a cap xs w hx hlen
      · obtain ⟨ab, cb, rfl, _, hb⟩ := h6 rfl
        rw [Tm.enc_6]; rw [Tm.enc_6] at hlen; exact aval_6 by' ab cb base a cap xs w hb hx hlen
      · rw [h7 rfl, Tm.enc_7]; rw [Tm.enc_7] at hlen
        have e : rf = (rf.toNat : Int) := by omega
        have := aval_7 rf.toNat base a cap xs w (by omega) hx hlen
        rw [← e] at this
        exact this
      · obtain ⟨al, cl, rfl, _, hb⟩ := h8 rfl
        rw [Tm.enc_8]; rw [Tm.enc_8] at hlen; exact aval_8 N ih l hlN.1 al cl base a cap xs w hb (q3 rfl) (p3 rfl) bl hx hlen
      · obtain ⟨al, cl, rfl, _, hb⟩ := h9 rfl
        rw [Tm.enc_9]; rw [Tm.enc_9] at hlen; exact aval_9 N ih fs hlN.2 al cl base a cap xs w hb (TmF.nm (q4 (.inl rfl))).1 (p4 (.inl rfl)) bfs hx hlen
      · obtain ⟨g, al, cl, rfl, hg, c0, c1, c2, _, _, hb⟩ := h10 rfl
        have hvr := head_ver (q5 rfl)
        have e : vr = (vr.toNat : Int) := by omega
        rw [Tm.enc_10]; rw [Tm.enc_10] at hlen; exact aval_10 N ih fs hlN.2 g al cl c vr.toNat base a cap xs w hg c0 (by rw [← e]; exact c1) c2 (by omega) hb (TmF.nm (q4 (.inr rfl))).1 (p4 (.inr rfl)) bfs hx hlen

theorem Tm.enc_pos (t : Tm) : 0 < t.enc.length := by cases t; simp [Tm.enc]

set_option maxRecDepth 100000 in
set_option maxHeartbeats 1000000 in
theorem Encode_ok (t : Tm) (v : Value) (B : Nat) (w : World) (hB : B ≤ w.heap.size) (h : t.V w (Lo B) v) (hb : t.Bdd) (he : t.all.e = 0) :
    Calls Try.prog 31 #[v] w fun e w' => ∃ g cap, e = .returned (.tuple #[.slice (some ⟨g, 0, none⟩) t.enc.length cap, .int .i64 0]) ∧ Outs w' w.heap.size (some ⟨g, 0, none⟩) cap t.enc ∧ Below w.heap.size w w' := by
  have HCk : Hid (Calls Try.prog 34 #[v] w fun e w' => e = .returned (.tuple #[.int .i64 t.cAt, .int .i64 0]) ∧ Below w.heap.size w w') := by
    have := Check_any t v B w hB h; rw [he] at this; exact this
  have HE : Hid (∀ W, Below w.heap.size w W → Calls Try.prog 50 #[.slice none 0 0, v] W (ApdH w.heap.size none W [] t.enc)) := fun W hW =>
    (enc_any t.sz).at (xs := []) (Nat.le_refl _) rfl (t.V_same (Same.of_below hW hB) (Lo.le hB) v h) (Tm.ok_all he) hb ⟨⟨rfl, .inl ⟨rfl, rfl⟩⟩, hW.size⟩ (by have := Tm.enc_le he hb; simp; omega)
  clear h hb he
  go_enter Try.func31, Try.ntmps31
  go_wp2_with fail
  refine HCk.out.mono ?_
  rintro e w1 ⟨rfl, hb1⟩
  have HB1 : Hid (Below w.heap.size w w1) := hb1
  clear hb1
  go_wp2_with fail
  refine (HE.out _ HB1.out).mono ?_
  rintro e w2 ⟨m2, a2, cap2, rfl, H2⟩
  go_wp2_with fail
  go_ret2
  obtain ⟨g, rfl⟩ := H2.out.2.1.some (by have := t.enc_pos; simp; omega)
  have hm := H2.out.1
  rw [List.nil_append] at hm
  subst hm
  refine ⟨g, cap2, rfl, by have := H2.out.2.1; rw [List.nil_append] at this; exact this, HB1.out.trans H2.out.2.2.1⟩

set_option maxRecDepth 100000 in
set_option maxHeartbeats 1000000 in
theorem Encode_bad (t : Tm) (v : Value) (B : Nat) (w : World) (hB : B ≤ w.heap.size) (h : t.V w (Lo B) v) (he : t.all.e ≠ 0) :
    Calls Try.prog 31 #[v] w fun e w' => e = .returned (.tuple #[.slice none 0 0, .int .i64 t.all.e]) ∧ Below w.heap.size w w' := by
  have HCk : Hid (Calls Try.prog 34 #[v] w fun e w' => e = .returned (.tuple #[.int .i64 t.cAt, .int .i64 t.all.e]) ∧ Below w.heap.size w w') := Check_any t v B w hB h
  have he' := ne_bool he
  clear h he
  go_enter Try.func31, Try.ntmps31
  go_wp2_with fail
  refine HCk.out.mono ?_
  rintro e w1 ⟨rfl, hb1⟩
  go_wp2_with fail
  go_ret2
  exact ⟨rfl, hb1⟩
end Go.Proofs.Ytmmiiapfefmcjaa

/- Encode, of whatever value, in one form. -/
namespace Go.Proofs.Ytmmiiapfefmcjaa
open Go.RowKit

/-- the bytes that Encode answers: none of a term that can't be -/
def Tm.encE (t : Tm) : List Int := if t.all.e = 0 then t.enc else []
theorem Tm.encE_le {t : Tm} (hb : t.Bdd) : t.encE.length ≤ 1081344000 := by
  unfold Tm.encE
  split
  · rename_i h; exact Tm.enc_le h hb
  · simp
theorem outs_nil (w : World) (base : Nat) (h : base ≤ w.heap.size) : Outs w base none 0 [] := ⟨⟨rfl, .inl ⟨rfl, rfl⟩⟩, h⟩
/-- what both answer -/
def EncE (t : Tm) (w : World) (e : Ending) (w' : World) : Prop := ∃ m a cap, e = .returned (.tuple #[.slice a m cap, .int .i64 t.all.e]) ∧ Hid (m = t.encE.length ∧ Outs w' w.heap.size a cap t.encE ∧ Below w.heap.size w w')
theorem Encode_all (t : Tm) (v : Value) (B : Nat) (w : World) (hB : B ≤ w.heap.size) (h : t.V w (Lo B) v) (hb : t.Bdd) : Calls Try.prog 31 #[v] w (EncE t w) := by
  by_cases he : t.all.e = 0
  · refine (Encode_ok t v B w hB h hb he).mono ?_
    rintro e w' ⟨g, cap, rfl, h1, h2⟩
    have e1 : t.encE = t.enc := by unfold Tm.encE; rw [if_pos he]
    exact ⟨_, _, cap, by rw [he], by rw [e1], by rw [e1]; exact h1, h2⟩
  · refine (Encode_bad t v B w hB h he).mono ?_
    rintro e w' ⟨rfl, h2⟩
    have e1 : t.encE = [] := by unfold Tm.encE; rw [if_neg he]
    exact ⟨0, none, 0, rfl, by rw [e1]; rfl, by rw [e1]; exact outs_nil _ _ h2.size, h2⟩
end Go.Proofs.Ytmmiiapfefmcjaa

/- Plain mathematics: the bytes of values, one list behind the other, are all their values. -/
namespace Go.Proofs.Ytmmiiapfefmcjaa
open Go.RowKit

/-- the bytes of those that can be -/
def TmL.encA : TmL → List Int
  | .nil => []
  | .cons t l => t.encE ++ l.encA
/-- those that can be, as they are read -/
def TmL.okL : TmL → TmL
  | .nil => .nil
  | .cons t l => if t.all.e = 0 then .cons t.clean l.okL else l.okL
theorem TmL.encA_by : (l : TmL) → By l.encA
  | .nil => By.nil
  | .cons t l => by
    rw [TmL.encA]
    refine By.app ?_ (TmL.encA_by l)
    unfold Tm.encE; split
    · rename_i h; exact Tm.enc_by t (Tm.ok_all h)
    · exact By.nil
theorem TmL.okL_len : (l : TmL) → l.okL.len ≤ l.len
  | .nil => Nat.le_refl _
  | .cons t l => by
    have := TmL.okL_len l
    rw [TmL.okL]; split
    · simp only [TmL.len]; omega
    · simp only [TmL.len]; omega
theorem TmL.encA_le : (l : TmL) → l.Bdd → l.encA.length ≤ l.len * 1081344000
  | .nil, _ => by simp [TmL.encA]
  | .cons t l, h => by
    simp only [TmL.Bdd] at h
    have h1 := Tm.encE_le h.1
    have h2 := TmL.encA_le l h.2
    rw [TmL.encA, List.length_append]
    simp only [TmL.len]; omega
theorem rd_join {t : Tm} (h : t.all.e = 0) (hb : t.Bdd) (pre rest : List Int) : ∃ q, Sp.rdV ((pre ++ (t.enc ++ rest)).drop pre.length) 64 0 0 = .ok (t.clean, q) t.enc.length := by
  rw [List.drop_left]
  exact rd_enc t rest h hb
theorem rdA_join : (l : TmL) → l.Bdd → ∀ (pre : List Int) (f : Nat), (pre ++ l.encA).length < f + pre.length → Sp.rdA (pre ++ l.encA) f pre.length = .ok l.okL (pre ++ l.encA).length
  | .nil, _, pre, f, _ => by
    simp only [TmL.encA, TmL.okL, List.append_nil]
    cases f with
    | zero => rfl
    | succ f => rw [Sp.rdA, if_pos (Nat.le_refl _)]
  | .cons t l, hb, pre, f, hf => by
    simp only [TmL.Bdd] at hb
    rw [TmL.encA] at hf ⊢
    rw [TmL.okL]
    by_cases h : t.all.e = 0
    · rw [if_pos h]
      have e1 : t.encE = t.enc := by unfold Tm.encE; rw [if_pos h]
      rw [e1] at hf ⊢
      have hp := enc_pos t h
      cases f with
      | zero => simp only [List.length_append] at hf; omega
      | succ f =>
        obtain ⟨q, hq⟩ := rd_join h hb.1 pre l.encA
        rw [Sp.rdA, if_neg (by simp only [List.length_append]; omega), hq]
        dsimp only
        have ih := rdA_join l hb.2 (pre ++ t.enc) f (by simp only [List.length_append] at hf ⊢; omega)
        rw [List.append_assoc, List.length_append] at ih
        rw [ih]
    · rw [if_neg h]
      have e1 : t.encE = [] := by unfold Tm.encE; rw [if_neg h]
      rw [e1, List.nil_append] at hf ⊢
      exact rdA_join l hb.2 pre f hf
theorem rdA_all (l : TmL) (h : l.Bdd) : Sp.rdA l.encA (l.encA.length + 1) 0 = .ok l.okL l.encA.length := by
  have := rdA_join l h [] (l.encA.length + 1) (by simp)
  simpa using this
end Go.Proofs.Ytmmiiapfefmcjaa

/- wire.All. -/
namespace Go.Proofs.Ytmmiiapfefmcjaa
open Go.RowKit

/-- what All tells -/
def AllE (xs : List Int) (w : World) (pr : TmL → World → Option Addr → Prop) (e : Ending) (w' : World) : Prop :=
  (∃ L a al cl, Sp.rdA xs (xs.length + 1) 0 = .ok L a ∧ L.len ≤ xs.length ∧ e = .returned (.tuple #[.slice al L.len cl, .int .i64 (xs.length : Int), .int .i64 0]) ∧ Below w.heap.size w w' ∧ pr L w' al) ∨ (∃ (q : Nat) (er : Int), Sp.rdA xs (xs.length + 1) 0 = .bad q er ∧ er ≠ 0 ∧ e = .returned (.tuple #[.slice none 0 0, .int .i64 (wrap64 (q : Int)), .int .i64 er]) ∧ Below w.heap.size w w')

theorem Try.undAny : Try.prog.underlying 57 = some (.slice 20) := by kernel_rfl
theorem all_step {w wr w1 w3 : World} {u u' : Value} {j : Nat} {L l : TmL} {t : Tm} {vs : List Value} {v : Value} (hq : QR 20 1 w wr u j vs) (hB : Below wr.heap.size wr w1) (hA : ∀ k, k < w1.heap.size → u.ownBlock ≠ some k → w3.heap[k]? = w1.heap[k]? ∧ u'.ownBlock ≠ some k) (hz : w1.heap.size ≤ w3.heap.size) (hp : VPre wr (OwnV w.heap.size wr u) L vs (.cons t l)) (hv : t.V w1 (Fr wr w1) v) : VPre w3 (OwnV w.heap.size w3 u') L (vs ++ [v]) l := by
  have hz1 := hB.size
  have hw := hq.bel.size
  obtain ⟨k1, k2⟩ := ownV_keep (w := w) (v := u) (v' := u') (wr := wr) (w3 := w3) (by omega) (fun k h1 h2 h3 => ⟨by rw [(hA k (by omega) h3).1]; exact hB.block k h2, (hA k (by omega) h3).2⟩)
  have hne : ∀ k, wr.heap.size ≤ k → u.ownBlock ≠ some k := fun k hk e => by have := (owns_at hq.own k e).2; omega
  refine VPre.snoc _ _ t l v (VPre.same k1 k2 _ _ _ hp) (t.V_same (B := Fr wr w1) (fun k hk => ?_) (fun k hk => ?_) v hv)
  · exact (hA k hk.2 (hne k hk.1)).1
  · have h1 := hk.1; have h2 := hk.2
    exact ⟨by omega, by omega, (hA k hk.2 (hne k hk.1)).2⟩
theorem all_done {w wr : World} {j : Nat} {L : TmL} {vs : List Value} {al : Option Addr} {cl : Nat} (h : QR 20 1 w wr (.slice al j cl) j vs) (hp : VPre wr (OwnV w.heap.size wr (.slice al j cl)) L vs .nil) : L.V wr (Fr w wr) al 0 := by
  have hlen := VPre.len L vs .nil hp
  have h3 := h.own.1
  simp only [TmL.len] at hlen
  rcases h.own.2 with ⟨e, e0⟩ | ⟨g0, cap, cur, e, hb0, _⟩
  · have : L = .nil := by cases L with
      | nil => rfl
      | cons t l => simp [TmL.len] at hlen; omega
    subst this; exact trivial
  · injection e with e1 e2 e3
    subst e1
    have hown := h.own
    refine VPre.done (S := OwnV w.heap.size wr _) (fun k hk => ⟨hk.1, hk.2.1⟩) g0 ⟨hb0, (hown.lt g0 rfl).2⟩ L vs 0 hp (fun i x hx => ?_)
    have h9 := hown.cells (g := g0) rfl i x hx
    rw [addr_add] at h9; simpa using h9

set_option maxRecDepth 100000 in
set_option maxHeartbeats 2000000 in
theorem All_any (xs : List Int) (hby : By xs) (g0 o0 cap : Nat) (w : World) (hrd : RdB w (Lo w.heap.size) (some ⟨g0, o0, none⟩) xs) (hcp : xs.length ≤ cap) (hln : xs.length ≤ 140737488355328) (hJ : xs.length ≤ 1048576 ∨ ∃ L a, Sp.rdA xs (xs.length + 1) 0 = .ok L a ∧ L.len ≤ 1048576) :
    Calls Try.prog 29 #[.slice (some ⟨g0, o0, none⟩) xs.length cap] w (AllE xs w fun L w' al => L.V w' (Fr w w') al 0) := by
  obtain ⟨i0, hi, hz0, hz1, hz2⟩ := info_parts Try.infoI
  have HBY : Hid (By xs) := hby
  have HJ : Hid (xs.length ≤ 1048576 ∨ ∃ L a, Sp.rdA xs (xs.length + 1) 0 = .ok L a ∧ L.len ≤ 1048576) := hJ
  clear hJ
  have HD : Hid (∀ (W : World) (at' : Nat) (t : Tm) (p2 n : Nat), Below w.heap.size w W → Sp.rdV (xs.drop at') 64 0 0 = .ok (t, p2) n → Calls Try.prog 24 #[.slice (some ⟨g0, o0 + at', none⟩) (xs.length - at') (cap - at')] W fun e w' => ∃ v, e = .returned (.tuple #[v, .int .i64 (n : Int), .int .i64 0]) ∧ Below W.heap.size W w' ∧ t.V w' (Fr W w') v) := fun W at' t p2 n hW hr => by
    have := decX_ok (xs.drop at') (hby.drop at') t p2 n hr g0 (o0 + at') (cap - at') W ((rdb_drop hrd at').same (Same.of_below hW (Nat.le_refl _)) (Lo.le hW.size)) (by rw [List.length_drop]; omega) (by rw [List.length_drop]; omega)
    rw [List.length_drop] at this
    exact this
  have HDB : Hid (∀ (W : World) (at' q : Nat) (er : Int), Below w.heap.size w W → Sp.rdV (xs.drop at') 64 0 0 = .bad q er → er ≠ 0 → Calls Try.prog 24 #[.slice (some ⟨g0, o0 + at', none⟩) (xs.length - at') (cap - at')] W fun e w' => e = .returned (.tuple #[.nilIface, .int .i64 (q : Int), .int .i64 er]) ∧ Below W.heap.size W w') := fun W at' q er hW hr her => by
    have := Decode_bad (xs.drop at') (hby.drop at') q er hr her (some ⟨g0, o0 + at', none⟩) (cap - at') W ((rdb_drop hrd at').same (Same.of_below hW (Nat.le_refl _)) (Lo.le hW.size)) (by rw [List.length_drop]; omega) (by rw [List.length_drop]; omega)
    rw [List.length_drop] at this
    exact this
  have H0 : Hid (QR 20 1 w w (.slice none 0 0) 0 [] ∧ AI xs (xs.length + 1) 0 (fun L l => VPre w (OwnV w.heap.size w (.slice none 0 0)) L [] l)) :=
    ⟨⟨Below.refl _ _, ⟨rfl, .inl ⟨rfl, rfl⟩⟩⟩, AI.start _ _ (fun L => (VPre_nil _ _).2 rfl)⟩
  clear hby hrd
  go_enter Try.func29, Try.ntmps29
  go_wp2_with fail
  go_loopw [5, 6] (fun u x wr => ∃ (j at' f : Nat) (vs : List Value) (lv : Option Addr) (lc : Nat), u = .slice lv j lc ∧ x = .int .i64 at' ∧ j ≤ at' ∧ at' ≤ xs.length ∧ Hid (QR 20 1 w wr (.slice lv j lc) j vs ∧ AI xs f at' (fun L l => VPre wr (OwnV w.heap.size wr (.slice lv j lc)) L vs l))) (fun _ x _ => xs.length - (intOf x).toNat)
  case atStart => exact ⟨0, 0, xs.length + 1, [], none, 0, rfl, rfl, by omega, by omega, H0.out⟩
  case round =>
    obtain ⟨j, at', f, vs, lv, lc, rfl, rfl, hja, hal, HR⟩ := hrel
    clear H0
    by_cases hlt : at' < xs.length
    · have hq0 : (0 : Int) ≤ (at' : Int) := Int.natCast_nonneg _
      have hq1 : (at' : Int) ≤ (xs.length : Int) := by omega
      have hq2 : (at' : Int) ≤ (cap : Int) := by omega
      have hq3 : ¬ cap = at' := by omega
      have hq4 : IntKind.i64.wrap (at' : Int) = (at' : Int) := by rw [IntKind.wrap_i64]; omega
      have hq5 : (xs.length : Int) ≤ (cap : Int) := by omega
      cases hr : Sp.rdV (xs.drop at') 64 0 0 with
      | ok tp n =>
        obtain ⟨t, p2⟩ := tp
        have HRR : Hid (Sp.rdV (xs.drop at') 64 0 0 = .ok (t, p2) n) := hr
        clear hr
        obtain ⟨n1, n2, _⟩ := rd_len (HBY.out.drop at') HRR.out
        rw [List.length_drop] at n2
        have hq6 : IntKind.i64.wrap ((at' : Int) + (n : Int)) = (at' : Int) + (n : Int) := by rw [IntKind.wrap_i64]; omega
        go_wp2_with fail
        refine (HD.out wr at' t p2 n HR.out.1.bel HRR.out).mono ?_
        rintro e w1 ⟨v, rfl, hb, hv⟩
        have HB : Hid (Below wr.heap.size wr w1) := hb
        have HV : Hid (t.V w1 (Fr wr w1) v) := hv
        have hz := hb.size
        have hzw := HR.out.1.bel.size
        have hj20 : j ≤ 1048576 := by
          rcases HJ.out with h | ⟨L, a, h1, h2⟩
          · omega
          · obtain ⟨l, _, hp⟩ := HR.out.2.2.2.1 L a h1
            have h3 := VPre.len L vs l hp
            have h4 := HR.out.1.own.1
            omega
        rcases t.V_shape v hv with rfl | ⟨T, y, rfl⟩
        · clear hb hv
          go_wp2_with (at_builtin; refine wpList_app _ rfl _ _ 57 rfl w.heap.size 20 i0 .nilIface 1 16 Try.undAny hi hz0 hz1 hz2 rfl (by decide) (.slice lv j lc) j vs rfl ((owns_below HB.out HR.out.1.own).alloc _) ⟨w1.heap.size, 0, none⟩ 1 1 [.nilIface] rfl rfl (cell_one_new _ _ _) (one_nil) (by decide) (by unfold maxLen; omega) (by omega) (by simp; omega) ?_; intro g' cap' w3 hown' hgrow hor; have HAP := (HR.out.1.call HB.out).app hown' hgrow (by simpa [Value.ownBlock] using hor); have HAP : Hid _ := HAP; clear hown' hgrow hor)
          go_roundw
          case rel =>
            refine ⟨j + 1, at' + n, f - 1, vs ++ [.nilIface], some ⟨g', 0, none⟩, cap', rfl, by go_num, by omega, by omega, show _ ∧ _ from ⟨HAP.out.1, (HR.out.2.next HBY.out hlt HRR.out ?_).1⟩⟩
            intro L l hp
            exact all_step HR.out.1 HB.out HAP.out.2.1 HAP.out.2.2 hp HV.out
          case measure => simp [intOf]; omega
        · clear hb hv
          go_wp2_with (at_builtin; refine wpList_app _ rfl _ _ 57 rfl w.heap.size 20 i0 .nilIface 1 16 Try.undAny hi hz0 hz1 hz2 rfl (by decide) (.slice lv j lc) j vs rfl ((owns_below HB.out HR.out.1.own).alloc _) ⟨w1.heap.size, 0, none⟩ 1 1 [.iface T y] rfl rfl (cell_one_new _ _ _) (one_iface T y) (by decide) (by unfold maxLen; omega) (by omega) (by simp; omega) ?_; intro g' cap' w3 hown' hgrow hor; have HAP := (HR.out.1.call HB.out).app hown' hgrow (by simpa [Value.ownBlock] using hor); have HAP : Hid _ := HAP; clear hown' hgrow hor)
          go_roundw
          case rel =>
            refine ⟨j + 1, at' + n, f - 1, vs ++ [.iface T y], some ⟨g', 0, none⟩, cap', rfl, by go_num, by omega, by omega, show _ ∧ _ from ⟨HAP.out.1, (HR.out.2.next HBY.out hlt HRR.out ?_).1⟩⟩
            intro L l hp
            exact all_step HR.out.1 HB.out HAP.out.2.1 HAP.out.2.2 hp HV.out
          case measure => simp [intOf]; omega
      | bad q er =>
        have her := rdV_er 64 hr
        have HRR : Hid (Sp.rdV (xs.drop at') 64 0 0 = .bad q er ∧ er ≠ 0) := ⟨hr, her⟩
        have he : (er != 0) = true := by simp [her]
        clear hr her
        go_wp2_with fail
        refine (HDB.out wr at' q er HR.out.1.bel HRR.out.1 HRR.out.2).mono ?_
        rintro e w1 ⟨rfl, hb⟩
        have HB : Hid (Below w.heap.size w w1) := below_to HR.out.1.bel hb
        clear hb
        go_wp2_with fail
        exact bodyPost_ret (v := .tuple #[.slice none 0 0, .int .i64 (wrap64 ((at' : Int) + (q : Int))), .int .i64 er]) (by simp [results, Try.results29, go_sem] <;> rfl) rfl (.inr ⟨at' + q, er, HR.out.2.bad hlt HRR.out.1, HRR.out.2, rfl, HB.out⟩)
    · have h1 : xs.length ≤ at' := by omega
      have hae : at' = xs.length := by omega
      have HAE : Hid (at' = xs.length) := hae
      clear hae
      go_wp2_with fail
      refine bodyPost_ret (v := .tuple #[.slice lv j lc, .int .i64 (xs.length : Int), .int .i64 0]) (by simp [results, Try.results29, go_sem] <;> rfl) rfl (.inl ?_)
      obtain ⟨L, hL, hp⟩ := HR.out.2.fin h1
      have hlen : L.len = j := by
        have h2 := VPre.len L vs .nil hp
        have h3 := HR.out.1.own.1
        simp only [TmL.len] at h2
        omega
      refine ⟨L, at', lv, lc, hL, by omega, by rw [hlen], HR.out.1.bel, ?_⟩
      exact all_done HR.out.1 hp
end Go.Proofs.Ytmmiiapfefmcjaa

/- tenonref03.All. -/
namespace Go.Proofs.Ytmmiiapfefmcjaa
open Go.RowKit

end Go.Proofs.Ytmmiiapfefmcjaa

/- The Go function tenonlaw03.WireAlls returns true, where the bytes are at most 1048576. -/
namespace Go.Proofs.Ytmmiiapfefmcjaa
open Go.RowKit

def tN : Tm := lfT 1 false 0 0 ByteArray.empty ByteArray.empty 0
/-- each of the terms can be -/
def TmL.okA : TmL → Prop
  | .nil => True
  | .cons t l => t.all.e = 0 ∧ l.okA
end Go.Proofs.Ytmmiiapfefmcjaa

