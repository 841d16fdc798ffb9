/- tenonref03.Bytes at every term that can be; tenonref03.Encode. -/
import Derived.Test.YtdklpdclbedceaaRBytG
import Derived.Test.YtdklpdclbedceaaRefCheck
import Derived.Test.YtdklpdclbedceaaOrdV
import Derived.Test.YtdklpdclbedceaaMPlainG
namespace Go.Proofs.Ytdklpdclbedceaa
open Go.RowKit

set_option maxHeartbeats 1000000 in
theorem bytes_any (N : Nat) : BytC N := by
  induction N with
  | zero => intro t ht; cases t; simp [Tm.sz] at ht
  | succ N ih =>
    intro t hN cs B w hin hB ho hlen
    cases t with
    | mk k b i f tx by' rf l fs c vr =>
      have hlN : l.sz ≤ N ∧ fs.sz ≤ N := by simp [Tm.sz] at hN; omega
      obtain ⟨p1, p2, p3, p4⟩ := ho.parts
      obtain ⟨q1, q2, q3, q4, q5⟩ := ho.bounds
      simp only [Tm.In] at hin
      obtain ⟨ab, cb, al, cl, af, cf, rfl, bd, h1, h2, h3⟩ := hin
      have hk : k = 1 ∨ k = 2 ∨ k = 3 ∨ k = 4 ∨ k = 5 ∨ k = 6 ∨ k = 7 ∨ k = 8 ∨ k = 9 ∨ k = 10 := by omega
      rcases hk with rfl | rfl | rfl | rfl | rfl | rfl | rfl | rfl | rfl | rfl
      · rw [Tm.enc_1]; exact byt_1 _ _ _ _ _ _ _ _ _ _ w
      · rw [Tm.enc_2]
        cases b with
        | false => exact byt_2f _ _ _ _ _ _ _ _ _ w
        | true => exact byt_2t _ _ _ _ _ _ _ _ _ w
      · rw [Tm.enc_3]
        by_cases hn : i < 0
        · exact byt_3n _ _ _ _ _ _ _ _ _ _ w bd.i0 bd.i1 hn
        · exact byt_3p _ _ _ _ _ _ _ _ _ _ w bd.i0 bd.i1 hn
      · rw [Tm.enc_4]; exact byt_4 _ _ _ _ _ _ _ _ _ _ w
      · rw [Tm.enc_5]; exact byt_5 _ _ _ _ _ _ _ _ _ _ w (q1 rfl)
      · rw [Tm.enc_6]; exact byt_6 by' ab cb B _ _ _ _ _ _ _ _ _ w hB h1 (q2 rfl)
      · rw [Tm.enc_7]
        have e : rf = (rf.toNat : Int) := by have := bd.r0; omega
        have := byt_7 rf.toNat b i f tx (.slice ab by'.size cb) (.slice al l.len cl) (.slice af fs.len cf) c vr w (by have := bd.r1; have := bd.r0; omega)
        rw [← e] at this
        exact this
      · rw [Tm.enc_8]; rw [Tm.enc_8] at hlen; exact byt_8 N ih l hlN.1 al cl B _ _ _ _ _ _ _ _ _ w hB h2 (q3 rfl) (p3 rfl) hlen
      · rw [Tm.enc_9]; rw [Tm.enc_9] at hlen; exact byt_9 N ih fs hlN.2 af cf B _ _ _ _ _ _ _ _ _ w hB h3 (TmF.nm (q4 (.inl rfl))).1 (p4 (.inl rfl)) hlen
      · have hvr := head_ver (q5 rfl)
        have e : vr = (vr.toNat : Int) := by omega
        rw [Tm.enc_10]; rw [Tm.enc_10] at hlen
        have := byt_10 N ih fs hlN.2 af cf B vr.toNat b i f tx (.slice ab by'.size cb) rf (.slice al l.len cl) c w hB h3 (TmF.nm (q4 (.inr rfl))).1 (p4 (.inr rfl)) (head_len (q5 rfl)) (by omega) hlen
        rw [← e] at this
        exact this

set_option maxRecDepth 100000 in
set_option maxHeartbeats 1000000 in
theorem refEncode_ok (t : Tm) (cs : Array Value) (B : Nat → Prop) (w : World) (h : t.In w B cs) (hB : Sub B w) (he : t.all.e = 0) :
    Calls Try.prog 24 #[.agg cs] w fun e w' => ∃ g cap, e = .returned (.tuple #[.slice (some ⟨g, 0, none⟩) t.enc.length cap, .int .i64 0]) ∧ Outs w' w.heap.size (some ⟨g, 0, none⟩) cap t.enc ∧ Below w.heap.size w w' := by
  have HCk : Hid (∀ W, Below w.heap.size w W → Calls Try.prog 12 #[.agg cs] W fun e w' => e = .returned (.tuple #[.int .i64 t.cAt, .int .i64 0]) ∧ Below W.heap.size W w') := fun W hW => by
    have := refCheck_any t cs B W (t.In_same (hB.same hW) (fun _ h => h) cs h) (hB.later hW); rw [he] at this; exact this
  have HE : Hid (∀ W, Below w.heap.size w W → Calls Try.prog 48 #[.agg cs] W (NewH W t.enc)) := fun W hW =>
    ((bytes_any t.sz).at (Nat.le_refl _) h hB (Tm.ok_all he) (by have := Tm.enc_le he (Tm.In_bdd t cs h); omega) W hW).mono fun _ _ => NewB.hid
  obtain ⟨k, b, i, f, tx, vb, rf, vl, vf, c, vr, rfl⟩ : ∃ k b i f tx vb rf vl vf c vr, cs = tcells k b i f tx vb rf vl vf c vr := by
    cases t; simp only [Tm.In] at h; obtain ⟨_, _, _, _, _, _, rfl, _⟩ := h; exact ⟨_, _, _, _, _, _, _, _, _, _, _, rfl⟩
  clear h he
  unfold tcells at HCk HE ⊢
  go_enter Try.func24, Try.ntmps24
  go_wp2_with fail
  refine (HCk.out _ ((Below.refl _ _).alloc (Nat.le_refl _) _)).mono ?_
  rintro e w1 ⟨rfl, hb1⟩
  obtain ⟨hR, hbw, hsz⟩ := box_at1 hb1
  obtain ⟨r0, r1, r2, r3, r4, r5, r6, r7, r8, r9, r10⟩ := tbox hR
  have HB1 : Hid (Below w.heap.size w w1) := hbw
  clear hR hbw hb1
  go_wp2_with fail
  refine (HE.out _ HB1.out).mono ?_
  rintro e w2 ⟨m2, g2, cap2, rfl, H2⟩
  go_wp2_with fail
  go_ret2
  obtain ⟨hm, h1, h2⟩ := H2.out
  subst hm
  exact ⟨g2, cap2, rfl, ⟨⟨h1.1.1, h1.1.2.imp id fun ⟨g, c, cur, e1, e2, r⟩ => ⟨g, c, cur, e1, by have := HB1.out.size; omega, r⟩⟩, by have := HB1.out.size; have := h2.size; omega⟩, HB1.out.trans (h2.mono HB1.out.size)⟩

set_option maxRecDepth 100000 in
set_option maxHeartbeats 1000000 in
theorem refEncode_bad (t : Tm) (cs : Array Value) (B : Nat → Prop) (w : World) (h : t.In w B cs) (hB : Sub B w) (he : t.all.e ≠ 0) :
    Calls Try.prog 24 #[.agg cs] w fun e w' => e = .returned (.tuple #[.slice none 0 0, .int .i64 t.all.e]) ∧ Below w.heap.size w w' := by
  have HCk : Hid (∀ W, Below w.heap.size w W → Calls Try.prog 12 #[.agg cs] W fun e w' => e = .returned (.tuple #[.int .i64 t.cAt, .int .i64 t.all.e]) ∧ Below W.heap.size W w') := fun W hW => refCheck_any t cs B W (t.In_same (hB.same hW) (fun _ h => h) cs h) (hB.later hW)
  have he' := ne_bool he
  obtain ⟨k, b, i, f, tx, vb, rf, vl, vf, c, vr, rfl⟩ : ∃ k b i f tx vb rf vl vf c vr, cs = tcells k b i f tx vb rf vl vf c vr := by
    cases t; simp only [Tm.In] at h; obtain ⟨_, _, _, _, _, _, rfl, _⟩ := h; exact ⟨_, _, _, _, _, _, _, _, _, _, _, rfl⟩
  clear h he
  unfold tcells at HCk ⊢
  go_enter Try.func24, Try.ntmps24
  go_wp2_with fail
  refine (HCk.out _ ((Below.refl _ _).alloc (Nat.le_refl _) _)).mono ?_
  rintro e w1 ⟨rfl, hb1⟩
  have HB1 : Hid (Below w.heap.size w w1) := below_to ((Below.refl _ _).alloc (Nat.le_refl _) _) hb1
  clear hb1
  go_wp2_with fail
  go_ret2
  exact ⟨rfl, HB1.out⟩
end Go.Proofs.Ytdklpdclbedceaa
