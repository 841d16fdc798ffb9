/- Making dicts, records, and whatever value. -/
import Derived.Test.YtkomcebknllaiaaK27
import Derived.Test.YtkomcebknllaiaaK24
namespace Go.Proofs.Ytkomcebknllaiaa
open Go.RowKit

theorem rn_lt {xs : List Int} {s : Nat} (hby : By xs) : ∀ (k i n v a : Nat), i + k = 10 → n < 128 ^ i → Sp.rn xs s k i n = .ok v a → v < 18446744073709551616
  | 0, i, n, v, a, _, _, h => by simp [Sp.rn] at h
  | k + 1, i, n, v, a, hk, hn, h => by
    rw [Sp.rn] at h
    cases hx : xs[s + i]? with
    | none => rw [hx] at h; simp at h
    | some c =>
      rw [hx] at h
      simp only at h
      have hc := hby.get hx
      split at h
      · simp at h
      · rename_i hbad
        split at h
        · injection h with e1 e2
          subst e1
          by_cases h9 : i = 9
          · subst h9
            have h1 : c.toNat * 128 ^ 9 ≤ 1 * 128 ^ 9 := Nat.mul_le_mul_right _ (by omega)
            omega
          · have h8 : 128 ^ i ≤ 128 ^ 8 := Nat.pow_le_pow_right (by decide) (by omega)
            have h1 : c.toNat * 128 ^ i ≤ 127 * 128 ^ 8 := Nat.mul_le_mul (by omega) h8
            omega
        · refine rn_lt hby k (i + 1) _ v a (by omega) ?_ h
          have h1 : (c.toNat - 128) * 128 ^ i ≤ 127 * 128 ^ i := Nat.mul_le_mul_right _ (by omega)
          rw [Nat.pow_succ]; omega

section
variable (b : Nat) (a : Option Addr) (xs : List Int) (cap at' p : Nat) (w : World) (h : Rdr w b a xs cap at' p)
include h
set_option maxRecDepth 100000 in
set_option maxHeartbeats 2000000 in
theorem made_9 (hx : xs[at']? = some 9) (hby : By xs) (f : Nat) (HC : MC xs f) (start p0 p2 a2 : Nat) (L : TmF) (hr : Sp.rdD xs start (Sp.rdV xs f) (at' + 1) p0 = .ok (L, p2) a2) :
    Calls Try.prog 54 #[.pointer (some ⟨b, 0, none⟩)] w fun e w' => ∃ a' cap', e = .returned (.iface 73 (.slice a' L.len cap')) ∧ Rdr w' b a xs cap a2 p ∧ But b w w' ∧ L.LV w' (Fr w w') a' cap' := by
  have HX : Hid (By xs ∧ MC xs f ∧ Sp.rdD xs start (Sp.rdV xs f) (at' + 1) p0 = .ok (L, p2) a2) := ⟨hby, HC, hr⟩
  have HB : Hid (Calls Try.prog 99 #[.pointer (some ⟨b, 0, none⟩)] w fun e w' => e = .returned (.int .u8 9) ∧ Rdr w' b a xs cap (at' + 1) p ∧ But b w w') := rbyte_ok 9 b a xs cap at' p w h hx
  clear h hx hby HC hr
  go_enter Try.func54, Try.ntmps54
  go_wp2_with fail
  refine HB.out.mono ?_
  rintro e w1 ⟨rfl, hr1, hb1⟩
  have HR1 : Hid (Rdr w1 b a xs cap (at' + 1) p ∧ But b w w1) := ⟨hr1, hb1⟩
  clear hr1 hb1 HB
  go_wp2_with fail
  refine (madeFields_ok b a xs cap (at' + 1) p w1 HR1.out.1 HX.out.1 f HX.out.2.1 start p0 p2 a2 L HX.out.2.2).mono ?_
  rintro e w2 ⟨a8, cap8, rfl, hr2, hb2, hlv⟩
  have HR2 : Hid (Rdr w2 b a xs cap a2 p ∧ But b w1 w2 ∧ L.LV w2 (Fr w1 w2) a8 cap8) := ⟨hr2, hb2, hlv⟩
  clear hr2 hb2 hlv
  go_wp2_with fail
  go_ret
  have hz := HR1.out.2.size
  exact ⟨a8, cap8, rfl, HR2.out.1, HR1.out.2.trans HR2.out.2.1, L.LV_same (Same.refl _ _) (fun k hk => ⟨Nat.le_trans hz hk.1, hk.2⟩) a8 cap8 HR2.out.2.2⟩
set_option maxRecDepth 100000 in
set_option maxHeartbeats 2000000 in
theorem made_10 (hx : xs[at']? = some 10) (hby : By xs) (f : Nat) (HC : MC xs f) (start p0 p2 a2 : Nat) (L : TmF) (n a3 v a4 : Nat) (hn : Sp.rn xs (at' + 1) 10 0 0 = .ok n a3) (hl : a3 + n ≤ xs.length) (hv : Sp.rn xs (a3 + n) 10 0 0 = .ok v a4) (hv1 : v ≤ 1000) (hr : Sp.rdD xs start (Sp.rdV xs f) a4 p0 = .ok (L, p2) a2) :
    Calls Try.prog 54 #[.pointer (some ⟨b, 0, none⟩)] w fun e w' => ∃ g a' cap', e = .returned (.iface 75 (.pointer (some ⟨g, 0, none⟩))) ∧ Rdr w' b a xs cap a2 p ∧ But b w w' ∧ Fr w w' g ∧ w'.cell? ⟨g, 0, none⟩ = some (.string (Sp.txt ((xs.drop a3).take n))) ∧ w'.cell? ⟨g, 1, none⟩ = some (.int .i64 (v : Int)) ∧ w'.cell? ⟨g, 2, none⟩ = some (.slice a' L.len cap') ∧ L.RV w' (Fr w w') g a' cap' := by
  have HX : Hid (By xs ∧ MC xs f ∧ Sp.rdD xs start (Sp.rdV xs f) a4 p0 = .ok (L, p2) a2) := ⟨hby, HC, hr⟩
  have HY : Hid (Sp.rn xs (at' + 1) 10 0 0 = .ok n a3 ∧ a3 + n ≤ xs.length ∧ Sp.rn xs (a3 + n) 10 0 0 = .ok v a4) := ⟨hn, hl, hv⟩
  have HB : Hid (Calls Try.prog 99 #[.pointer (some ⟨b, 0, none⟩)] w fun e w' => e = .returned (.int .u8 10) ∧ Rdr w' b a xs cap (at' + 1) p ∧ But b w w') := rbyte_ok 10 b a xs cap at' p w h hx
  have hwv : IntKind.i64.wrap (v : Int) = (v : Int) := Go.wrap_small _ (by omega) (by omega)
  clear h hx hby HC hr hn hl hv
  go_enter Try.func54, Try.ntmps54
  go_wp2_with fail
  refine HB.out.mono ?_
  rintro e w1 ⟨rfl, hr1, hb1⟩
  have HR1 : Hid (Rdr w1 b a xs cap (at' + 1) p ∧ But b w w1) := ⟨hr1, hb1⟩
  clear hr1 hb1 HB
  go_wp2_with fail
  refine (rtext_ok n a3 b a xs cap (at' + 1) p w1 HR1.out.1 HX.out.1 HY.out.1 HY.out.2.1).mono ?_
  rintro e w2 ⟨a7, cap7, rfl, hrd2, hr2, hb2⟩
  have hcv : (convert 23 9 (.slice a7 n cap7)).run Try.prog w2 = .ok (.string (Sp.txt ((xs.drop a3).take n))) w2 := by
    have := conv_rd _ a7 cap7 (Lo b) w2 hrd2
    rw [part_len HY.out.2.1] at this; exact this
  have HR2 : Hid (Rdr w2 b a xs cap (a3 + n) p ∧ But b w w2) := ⟨hr2, HR1.out.2.trans hb2⟩
  clear hrd2 hr2 hb2 HR1
  go_wp2_with fail
  refine (rnumber_ok v a4 b a xs cap (a3 + n) p w2 HR2.out.1 HX.out.1 HY.out.2.2).mono ?_
  rintro e w3 ⟨rfl, hr3, hb3⟩
  have HR3 : Hid (Rdr w3 b a xs cap a4 p ∧ But b w w3) := ⟨hr3, HR2.out.2.trans hb3⟩
  clear hr3 hb3 HR2 hcv
  go_wp2_with fail
  refine (madeFields_ok b a xs cap a4 p w3 HR3.out.1 HX.out.1 f HX.out.2.1 start p0 p2 a2 L HX.out.2.2).mono ?_
  rintro e w4 ⟨a8, cap8, rfl, hr4, hb4, hlv⟩
  have HR4 : Hid (Rdr w4 b a xs cap a2 p ∧ But b w w4 ∧ L.LV w4 (Fr w w4) a8 cap8) := ⟨hr4, HR3.out.2.trans hb4, L.LV_same (Same.refl _ _) (fun k hk => ⟨Nat.le_trans HR3.out.2.size hk.1, hk.2⟩) a8 cap8 hlv⟩
  clear hr4 hb4 hlv HR3
  go_wp2_with fail
  go_ret
  have hz := HR4.out.2.1.size
  refine ⟨w4.heap.size, a8, cap8, rfl, HR4.out.1.call ((Below.refl _ _).alloc (Nat.le_refl _) _), HR4.out.2.1.alloc _, ⟨hz, by simp⟩, by simp, by simp, by simp, ⟨_, heap_alloc_new _ _⟩, L.LV_same (B' := Fr w (w4.alloc _)) (fun k hk => Below.heap_alloc _ _ _ hk.2) (fun k hk => ⟨hk.1, by have := hk.2; simp; omega⟩) a8 cap8 HR4.out.2.2⟩
end

theorem made_ok (xs : List Int) (hby : By xs) : ∀ f, MC xs f
  | 0 => fun b a cap at' p p0 t p2 a2 w h hr => by
    rw [Sp.rdV] at hr
    split at hr <;> simp at hr
  | f + 1 => fun b a cap at' p p0 t p2 a2 w h hr => by
    have HC := made_ok xs hby f
    have hln := h.ln
    rw [Sp.rdV] at hr
    cases hx : xs[at']? with
    | none => rw [hx] at hr; simp at hr
    | some k =>
      rw [hx] at hr
      simp only at hr
      by_cases hp : 16384 ≤ p0
      · rw [if_pos hp] at hr; simp at hr
      · rw [if_neg hp] at hr
        unfold Sp.rdB at hr
        split at hr
        · rename_i hk; subst hk
          injection hr with e1 e2; injection e1 with e3 e4; subst e2; subst e3
          refine (made_1 b a xs cap at' p w h hx).mono ?_
          rintro e w' ⟨rfl, hr, hb⟩; exact ⟨_, rfl, hr, hb, by simp [lfT, Tm.V]⟩
        split at hr
        · rename_i hk; subst hk
          cases hc : xs[at' + 1]? with
          | none => rw [hc] at hr; simp at hr
          | some c =>
            rw [hc] at hr
            simp only at hr
            split at hr
            · simp at hr
            · rename_i hc1
              injection hr with e1 e2; injection e1 with e3 e4; subst e2; subst e3
              refine (made_2 b a xs cap at' p w h hx c hc).mono ?_
              rintro e w' ⟨rfl, hr, hb⟩; exact ⟨_, rfl, hr, hb, by simp [lfT, Tm.V]⟩
        split at hr
        · rename_i hk; subst hk
          cases hn : Sp.rn xs (at' + 1) 10 0 0 with
          | bad q e => rw [hn] at hr; simp at hr
          | ok n a' =>
            rw [hn] at hr
            injection hr with e1 e2; injection e1 with e3 e4; subst e2; subst e3
            refine (made_3 b a xs cap at' p w h hx hby n _ hn (rn_lt hby 10 0 0 n _ rfl (by decide) hn)).mono ?_
            rintro e w' ⟨rfl, hr, hb⟩; exact ⟨_, rfl, hr, hb, by simp [lfT, Tm.V]⟩
        split at hr
        · rename_i hk; subst hk
          unfold Sp.tk at hr
          by_cases hl : at' + 1 + 8 ≤ xs.length
          · rw [if_pos hl] at hr
            injection hr with e1 e2; injection e1 with e3 e4; subst e2; subst e3
            refine (made_4 b a xs cap at' p w h hx hby hl).mono ?_
            have hlt := cat_lt _ (hby.part (at' + 1) 8)
            rw [part_len hl] at hlt
            rintro e w' ⟨rfl, hr, hb⟩; exact ⟨_, rfl, hr, hb, by simp only [lfT, Tm.V]; simp; exact ⟨rfl, hlt⟩⟩
          · rw [if_neg hl] at hr; simp at hr
        split at hr
        · rename_i hk
          cases hn : Sp.cnt xs (at' + 1) at' 65536 with
          | bad q e => rw [hn] at hr; simp at hr
          | ok n a' =>
            obtain ⟨hrn, hn4⟩ := cnt_ok hn
            rw [hn] at hr
            simp only at hr
            unfold Sp.tk at hr
            by_cases hl : a' + n ≤ xs.length
            · rw [if_pos hl] at hr
              injection hr with e1 e2; injection e1 with e3 e4; subst e2; subst e3
              have hsz : (Sp.txt ((xs.drop a').take n)).size ≤ maxLen := by rw [txt_size, part_len hl]; unfold maxLen; omega
              rcases hk with rfl | rfl
              · refine (made_5 b a xs cap at' p w h hx hby n a' hrn hl).mono ?_
                rintro e w' ⟨rfl, hr, hb⟩; exact ⟨_, rfl, hr, hb, by simp [lfT, Tm.V, hsz]⟩
              · refine (made_6 b a xs cap at' p w h hx hby n a' hrn hl hn4).mono ?_
                rintro e w' ⟨a8, cap8, rfl, hr, hb, hlv⟩; exact ⟨_, rfl, hr, hb, by rw [if_pos rfl]; exact Tm.V_of6 hlv⟩
            · rw [if_neg hl] at hr; simp at hr
        split at hr
        · rename_i hk; subst hk
          cases hn : Sp.rn xs (at' + 1) 10 0 0 with
          | bad q e => rw [hn] at hr; simp at hr
          | ok n a' =>
            rw [hn] at hr
            injection hr with e1 e2; injection e1 with e3 e4; subst e2; subst e3
            refine (made_7 b a xs cap at' p w h hx hby n _ hn).mono ?_
            rintro e w' ⟨rfl, hr, hb⟩; exact ⟨_, rfl, hr, hb, by simp [lfT, Tm.V]⟩
        split at hr
        · rename_i hk; subst hk
          cases hn : Sp.cnt xs (at' + 1) at' 4096 with
          | bad q e => rw [hn] at hr; simp at hr
          | ok n a' =>
            obtain ⟨hrn, hn4⟩ := cnt_ok hn
            rw [hn] at hr
            simp only at hr
            cases hL : Sp.rdL (Sp.rdV xs f) n a' (p0 + 1) with
            | bad q e => rw [hL] at hr; simp at hr
            | ok lp a3 =>
              obtain ⟨l, p3⟩ := lp
              rw [hL] at hr
              injection hr with e1 e2; injection e1 with e3 e4; subst e2; subst e3
              refine (made_8 b a xs cap at' p w h hx hby f HC n a' (p0 + 1) p3 _ l hrn hn4 hL).mono ?_
              rintro e w' ⟨a8, cap8, rfl, hr, hb, hlv⟩; exact ⟨_, rfl, hr, hb, Tm.V_of8 hlv⟩
        split at hr
        · rename_i hk; subst hk
          cases hL : Sp.rdD xs at' (Sp.rdV xs f) (at' + 1) (p0 + 1) with
          | bad q e => rw [hL] at hr; simp at hr
          | ok lp a3 =>
            obtain ⟨l, p3⟩ := lp
            rw [hL] at hr
            injection hr with e1 e2; injection e1 with e3 e4; subst e2; subst e3
            refine (made_9 b a xs cap at' p w h hx hby f HC at' (p0 + 1) p3 _ l hL).mono ?_
            rintro e w' ⟨a8, cap8, rfl, hr, hb, hlv⟩; exact ⟨_, rfl, hr, hb, Tm.V_of9 hlv⟩
        split at hr
        · rename_i hk; subst hk
          cases hN : Sp.rdN xs (at' + 1) at' with
          | bad q e => rw [hN] at hr; simp at hr
          | ok c a' =>
            obtain ⟨nn, an, hrn, hn32, hle, rfl, rfl, hnm⟩ := rdN_ok hN
            rw [hN] at hr
            simp only at hr
            cases hv : Sp.rn xs (an + nn) 10 0 0 with
            | bad q e => rw [hv] at hr; simp at hr
            | ok v a4 =>
              rw [hv] at hr
              simp only at hr
              split at hr
              · simp at hr
              · rename_i hv1
                cases hL : Sp.rdD xs at' (Sp.rdV xs f) a4 (p0 + 1) with
                | bad q e => rw [hL] at hr; simp at hr
                | ok lp a3 =>
                  obtain ⟨l, p3⟩ := lp
                  rw [hL] at hr
                  injection hr with e1 e2; injection e1 with e3 e4; subst e2; subst e3
                  refine (made_10 b a xs cap at' p w h hx hby f HC at' (p0 + 1) p3 _ l nn an v a4 hrn hle hv (by omega) hL).mono ?_
                  rintro e w' ⟨g, a8, cap8, rfl, hr, hb, hg, c0, c1, c2, hrv⟩
                  exact ⟨_, rfl, hr, hb, Tm.V_of10 hg c0 c1 c2 (by rw [txt_size, part_len hle]; unfold maxLen; omega) hrv⟩
        · simp at hr
end Go.Proofs.Ytkomcebknllaiaa

/- wire.Decode and wire.Skip at bytes that begin with a value. -/
namespace Go.Proofs.Ytkomcebknllaiaa
open Go.RowKit

theorem RdB.take {w : World} {B : Nat → Prop} {a : Option Addr} {xs : List Int} (h : RdB w B a xs) (n : Nat) : RdB w B a (xs.take n) := fun j u hu => by
  rw [List.getElem?_take] at hu
  split at hu
  · exact h j u hu
  · simp at hu
theorem By.take {xs : List Int} (h : By xs) (n : Nat) : By (xs.take n) := fun x hx => h x (List.mem_of_mem_take hx)

set_option maxRecDepth 100000 in
set_option maxHeartbeats 1000000 in
theorem Skip_ok (xs : List Int) (hby : By xs) (t : Tm) (p2 a2 : Nat) (hr : Sp.rdV xs 64 0 0 = .ok (t, p2) a2) (a : Option Addr) (cap : Nat) (w : World) (hrd : RdB w (Lo w.heap.size) a xs) (hcp : xs.length ≤ cap) (hln : xs.length ≤ 281474976710656) :
    Calls Try.prog 30 #[.slice a xs.length cap] w fun e w' => e = .returned (.tuple #[.int .i64 (a2 : Int), .int .i64 0]) ∧ Below w.heap.size w w' := by
  have HL : Hid (Calls Try.prog 53 #[.slice a xs.length cap] w fun e w' => e = .returned (.tuple #[.int .i64 (a2 : Int), .int .i64 0]) ∧ Below w.heap.size w w') := look_ok xs hby t p2 a2 hr a cap w hrd hcp hln
  clear hr hby hrd
  go_enter Try.func30, Try.ntmps30
  go_wp2_with fail
  refine HL.out.mono ?_
  rintro e w1 ⟨rfl, hb1⟩
  go_wp2_with fail
  go_ret2
  exact ⟨rfl, hb1⟩

set_option maxRecDepth 100000 in
set_option maxHeartbeats 1000000 in
theorem Decode_ok (xs : List Int) (hby : By xs) (t : Tm) (p2 p3 a2 : Nat) (hr : Sp.rdV xs 64 0 0 = .ok (t, p2) a2) (hr2 : Sp.rdV (xs.take a2) 64 0 0 = .ok (t, p3) a2) (hle : a2 ≤ xs.length) (g0 o0 : Nat) (cap : Nat) (w : World) (hrd : RdB w (Lo w.heap.size) (some ⟨g0, o0, none⟩) xs) (hcp : xs.length ≤ cap) (hln : xs.length ≤ 281474976710656) :
    Calls Try.prog 29 #[.slice (some ⟨g0, o0, none⟩) xs.length cap] w fun e w' => ∃ v, e = .returned (.tuple #[v, .int .i64 (a2 : Int), .int .i64 0]) ∧ Below w.heap.size w w' ∧ t.V w' (Fr w w') v := by
  have HL : Hid (Calls Try.prog 53 #[.slice (some ⟨g0, o0, none⟩) xs.length cap] w fun e w' => e = .returned (.tuple #[.int .i64 (a2 : Int), .int .i64 0]) ∧ Below w.heap.size w w') := look_ok xs hby t p2 a2 hr _ cap w hrd hcp hln
  have hlt : (xs.take a2).length = a2 := by rw [List.length_take]; omega
  have HX : Hid (By (xs.take a2) ∧ Sp.rdV (xs.take a2) 64 0 0 = .ok (t, p3) a2 ∧ RdB w (Lo w.heap.size) (some ⟨g0, o0, none⟩) (xs.take a2) ∧ (xs.take a2).length = a2) := ⟨hby.take _, hr2, hrd.take _, hlt⟩
  clear hr hby hrd hr2 hlt
  go_enter Try.func29, Try.ntmps29
  go_wp2_with fail
  refine HL.out.mono ?_
  rintro e w1 ⟨rfl, hb1⟩
  have HB1 : Hid (Below w.heap.size w w1) := hb1
  clear hb1 HL
  go_wp2_with fail
  have HN : Hid (Rdr (w1.alloc (.cells #[.slice (some ⟨g0, o0, none⟩) a2 cap, .int .i64 0, .int .i64 0] 95)) w1.heap.size (some ⟨g0, o0, none⟩) (xs.take a2) cap 0 0) := by
    have := newRdr w1 (some ⟨g0, o0, none⟩) (xs.take a2) cap (HX.out.2.2.1.same (Same.of_below HB1.out (Nat.le_refl _)) (Lo.le HB1.out.size)) (by rw [HX.out.2.2.2]; omega) (by rw [HX.out.2.2.2]; omega)
    rw [HX.out.2.2.2] at this
    exact this
  refine (made_ok (xs.take a2) HX.out.1 64 w1.heap.size _ cap 0 0 0 t p3 a2 _ HN.out HX.out.2.1).mono ?_
  rintro e w2 ⟨v, rfl, hr2, hb2, hv⟩
  have hz := HB1.out.size
  have HE : Hid (Below w.heap.size w w2 ∧ t.V w2 (Fr w w2) v) := ⟨(HB1.out.alloc hz _).trans (hb2.below hz), t.V_same (Same.refl _ _) (fun k hk => ⟨by have := hk.1; simp at this; omega, hk.2⟩) v hv⟩
  clear hr2 hb2 hv
  go_wp2_with fail
  go_ret3
  exact ⟨v, rfl, HE.out⟩
end Go.Proofs.Ytkomcebknllaiaa
