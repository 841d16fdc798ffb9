/- Making dicts, records, and whatever value. -/
import Derived.Test.YtmmiiapfefmcjaaA7
import Derived.Deep.RegionHeld3
namespace Go.Proofs.Ytmmiiapfefmcjaa
open Go.RowKit

theorem rn_lt {xs : List Int} {s : Nat} (hby : By xs) : ∀ (k i n v a : Nat), i + k = 10 → n < 128 ^ i → Sp.rn xs s k i n = .ok v a → v < 18446744073709551616
  | 0, i, n, v, a, _, _, h => by simp [Sp.rn] at h
  | k + 1, i, n, v, a, hk, hn, h => by
    rw [Sp.rn] at h
    cases hx : xs[s + i]? with
    | none => rw [hx] at h; simp at h
    | some c =>
      rw [hx] at h
      simp only at h
      have hc := hby.get hx
      split at h
      · simp at h
      · rename_i hbad
        split at h
        · injection h with e1 e2
          subst e1
          by_cases h9 : i = 9
          · subst h9
            have h1 : c.toNat * 128 ^ 9 ≤ 1 * 128 ^ 9 := Nat.mul_le_mul_right _ (by omega)
            omega
          · have h8 : 128 ^ i ≤ 128 ^ 8 := Nat.pow_le_pow_right (by decide) (by omega)
            have h1 : c.toNat * 128 ^ i ≤ 127 * 128 ^ 8 := Nat.mul_le_mul (by omega) h8
            omega
        · refine rn_lt hby k (i + 1) _ v a (by omega) ?_ h
          have h1 : (c.toNat - 128) * 128 ^ i ≤ 127 * 128 ^ i := Nat.mul_le_mul_right _ (by omega)
          rw [Nat.pow_succ]; omega

section
variable (b : Nat) (a : Option Addr) (xs : List Int) (cap at' p : Nat) (w : World) (h : Rdr w b a xs cap at' p)
include h
set_option maxRecDepth 100000 in
set_option maxHeartbeats 2000000 in
theorem made_9 (hx : xs[at']? = some 9) (hby : By xs) (f : Nat) (HC : MC xs f) (start p0 p2 a2 : Nat) (L : TmF) (hr : Sp.rdD xs start (Sp.rdV xs f) (at' + 1) p0 = .ok (L, p2) a2) :
    Calls Try.prog 48 #[.pointer (some ⟨b, 0, none⟩)] w fun e w' => ∃ a' cap', e = .returned (.iface 72 (.slice a' L.len cap')) ∧ Rdr w' b a xs cap a2 p ∧ But b w w' ∧ L.LV w' (Fr w w') a' cap' := by
  have HX : Hid (By xs ∧ MC xs f ∧ Sp.rdD xs start (Sp.rdV xs f) (at' + 1) p0 = .ok (L, p2) a2) := ⟨hby, HC, hr⟩
  have HB : Hid (Calls Try.prog 84 #[.pointer (some ⟨b, 0, none⟩)] w fun e w' => e = .returned (.int .u8 9) ∧ Rdr w' b a xs cap (at' + 1) p ∧ But b w w') := rbyte_ok 9 b a xs cap at' p w h hx
  clear h hx hby HC hr
  go_enter Try.func48, Try.ntmps48
  go_wp2_with fail
  refine HB.out.mono ?_
  rintro e w1 ⟨rfl, hr1, hb1⟩
  have HR1 : Hid (Rdr w1 b a xs cap (at' + 1) p ∧ But b w w1) := ⟨hr1, hb1⟩
  clear hr1 hb1 HB
  go_wp2_with fail
  refine (madeFields_ok b a xs cap (at' + 1) p w1 HR1.out.1 HX.out.1 f HX.out.2.1 start p0 p2 a2 L HX.out.2.2).mono ?_
  rintro e w2 ⟨a8, cap8, rfl, hr2, hb2, hlv⟩
  have HR2 : Hid (Rdr w2 b a xs cap a2 p ∧ But b w1 w2 ∧ L.LV w2 (Fr w1 w2) a8 cap8) := ⟨hr2, hb2, hlv⟩
  clear hr2 hb2 hlv
  go_wp2_with fail
  go_ret
  have hz := HR1.out.2.size
  exact ⟨a8, cap8, rfl, HR2.out.1, HR1.out.2.trans HR2.out.2.1, L.LV_same (Same.refl _ _) (fun k hk => ⟨Nat.le_trans hz hk.1, hk.2⟩) a8 cap8 HR2.out.2.2⟩
set_option maxRecDepth 100000 in
set_option maxHeartbeats 2000000 in
theorem made_10 (hx : xs[at']? = some 10) (hby : By xs) (f : Nat) (HC : MC xs f) (start p0 p2 a2 : Nat) (L : TmF) (n a3 v a4 : Nat) (hn : Sp.rn xs (at' + 1) 10 0 0 = .ok n a3) (hl : a3 + n ≤ xs.length) (hv : Sp.rn xs (a3 + n) 10 0 0 = .ok v a4) (hv1 : v ≤ 1000) (hr : Sp.rdD xs start (Sp.rdV xs f) a4 p0 = .ok (L, p2) a2) :
    Calls Try.prog 48 #[.pointer (some ⟨b, 0, none⟩)] w fun e w' => ∃ g a' cap', e = .returned (.iface 74 (.pointer (some ⟨g, 0, none⟩))) ∧ Rdr w' b a xs cap a2 p ∧ But b w w' ∧ Fr w w' g ∧ w'.cell? ⟨g, 0, none⟩ = some (.string (Sp.txt ((xs.drop a3).take n))) ∧ w'.cell? ⟨g, 1, none⟩ = some (.int .i64 (v : Int)) ∧ w'.cell? ⟨g, 2, none⟩ = some (.slice a' L.len cap') ∧ L.RV w' (Fr w w') g a' cap' := by
  have HX : Hid (By xs ∧ MC xs f ∧ Sp.rdD xs start (Sp.rdV xs f) a4 p0 = .ok (L, p2) a2) := ⟨hby, HC, hr⟩
  have HY : Hid (Sp.rn xs (at' + 1) 10 0 0 = .ok n a3 ∧ a3 + n ≤ xs.length ∧ Sp.rn xs (a3 + n) 10 0 0 = .ok v a4) := ⟨hn, hl, hv⟩
  have HB : Hid (Calls Try.prog 84 #[.pointer (some ⟨b, 0, none⟩)] w fun e w' => e = .returned (.int .u8 10) ∧ Rdr w' b a xs cap (at' + 1) p ∧ But b w w') := rbyte_ok 10 b a xs cap at' p w h hx
  have hwv : IntKind.i64.wrap (v : Int) = (v : Int) := Go.wrap_small _ (by omega) (by omega)
  clear h hx hby HC hr hn hl hv
  go_enter Try.func48, Try.ntmps48
  go_wp2_with fail
  refine HB.out.mono ?_
  rintro e w1 ⟨rfl, hr1, hb1⟩
  have HR1 : Hid (Rdr w1 b a xs cap (at' + 1) p ∧ But b w w1) := ⟨hr1, hb1⟩
  clear hr1 hb1 HB
  go_wp2_with fail
  refine (rtext_ok n a3 b a xs cap (at' + 1) p w1 HR1.out.1 HX.out.1 HY.out.1 HY.out.2.1).mono ?_
  rintro e w2 ⟨a7, cap7, rfl, hrd2, hr2, hb2⟩
  have hcv : (convert 23 9 (.slice a7 n cap7)).run Try.prog w2 = .ok (.string (Sp.txt ((xs.drop a3).take n))) w2 := by
    have := conv_rd _ a7 cap7 (Lo b) w2 hrd2
    rw [part_len HY.out.2.1] at this; exact this
  have HR2 : Hid (Rdr w2 b a xs cap (a3 + n) p ∧ But b w w2) := ⟨hr2, HR1.out.2.trans hb2⟩
  clear hrd2 hr2 hb2 HR1
  go_wp2_with fail
  refine (rnumber_ok v a4 b a xs cap (a3 + n) p w2 HR2.out.1 HX.out.1 HY.out.2.2).mono ?_
  rintro e w3 ⟨rfl, hr3, hb3⟩
  have HR3 : Hid (Rdr w3 b a xs cap a4 p ∧ But b w w3) := ⟨hr3, HR2.out.2.trans hb3⟩
  clear hr3 hb3 HR2 hcv
  go_wp2_with fail
  refine (madeFields_ok b a xs cap a4 p w3 HR3.out.1 HX.out.1 f HX.out.2.1 start p0 p2 a2 L HX.out.2.2).mono ?_
  rintro e w4 ⟨a8, cap8, rfl, hr4, hb4, hlv⟩
  have HR4 : Hid (Rdr w4 b a xs cap a2 p ∧ But b w w4 ∧ L.LV w4 (Fr w w4) a8 cap8) := ⟨hr4, HR3.out.2.trans hb4, L.LV_same (Same.refl _ _) (fun k hk => ⟨Nat.le_trans HR3.out.2.size hk.1, hk.2⟩) a8 cap8 hlv⟩
  clear hr4 hb4 hlv HR3
  go_wp2_with fail
  go_ret
  have hz := HR4.out.2.1.size
  refine ⟨w4.heap.size, a8, cap8, rfl, HR4.out.1.call ((Below.refl _ _).alloc (Nat.le_refl _) _), HR4.out.2.1.alloc _, ⟨hz, by simp⟩, by simp, by simp, by simp, ⟨_, heap_alloc_new _ _⟩, L.LV_same (B' := Fr w (w4.alloc _)) (fun k hk => Below.heap_alloc _ _ _ hk.2) (fun k hk => ⟨hk.1, by have := hk.2; simp; omega⟩) a8 cap8 HR4.out.2.2⟩
end

theorem made_ok (xs : List Int) (hby : By xs) : ∀ f, MC xs f
  | 0 => fun b a cap at' p p0 t p2 a2 w h hr => by
    rw [Sp.rdV] at hr
    split at hr <;> simp at hr
  | f + 1 => fun b a cap at' p p0 t p2 a2 w h hr => by
    have HC := made_ok xs hby f
    have hln := h.ln
    rw [Sp.rdV] at hr
    cases hx : xs[at']? with
    | none => rw [hx] at hr; simp at hr
    | some k =>
      rw [hx] at hr
      simp only at hr
      by_cases hp : 16384 ≤ p0
      · rw [if_pos hp] at hr; simp at hr
      · rw [if_neg hp] at hr
        unfold Sp.rdB at hr
        split at hr
        · rename_i hk; subst hk
          injection hr with e1 e2; injection e1 with e3 e4; subst e2; subst e3
          refine (made_1 b a xs cap at' p w h hx).mono ?_
          rintro e w' ⟨rfl, hr, hb⟩; exact ⟨_, rfl, hr, hb, by simp [lfT, Tm.V]⟩
        split at hr
        · rename_i hk; subst hk
          cases hc : xs[at' + 1]? with
          | none => rw [hc] at hr; simp at hr
          | some c =>
            rw [hc] at hr
            simp only at hr
            split at hr
            · simp at hr
            · rename_i hc1
              injection hr with e1 e2; injection e1 with e3 e4; subst e2; subst e3
              refine (made_2 b a xs cap at' p w h hx c hc).mono ?_
              rintro e w' ⟨rfl, hr, hb⟩; exact ⟨_, rfl, hr, hb, by simp [lfT, Tm.V]⟩
        split at hr
        · rename_i hk; subst hk
          cases hn : Sp.rn xs (at' + 1) 10 0 0 with
          | bad q e => rw [hn] at hr; simp at hr
          | ok n a' =>
            rw [hn] at hr
            injection hr with e1 e2; injection e1 with e3 e4; subst e2; subst e3
            refine (made_3 b a xs cap at' p w h hx hby n _ hn (rn_lt hby 10 0 0 n _ rfl (by decide) hn)).mono ?_
            rintro e w' ⟨rfl, hr, hb⟩; exact ⟨_, rfl, hr, hb, by simp [lfT, Tm.V]⟩
        split at hr
        · rename_i hk; subst hk
          unfold Sp.tk at hr
          by_cases hl : at' + 1 + 8 ≤ xs.length
          · rw [if_pos hl] at hr
            injection hr with e1 e2; injection e1 with e3 e4; subst e2; subst e3
            refine (made_4 b a xs cap at' p w h hx hby hl).mono ?_
            have hlt := cat_lt _ (hby.part (at' + 1) 8)
            rw [part_len hl] at hlt
            rintro e w' ⟨rfl, hr, hb⟩; exact ⟨_, rfl, hr, hb, by simp only [lfT, Tm.V]; simp; exact ⟨rfl, hlt⟩⟩
          · rw [if_neg hl] at hr; simp at hr
        split at hr
        · rename_i hk
          cases hn : Sp.cnt xs (at' + 1) at' 65536 with
          | bad q e => rw [hn] at hr; simp at hr
          | ok n a' =>
            obtain ⟨hrn, hn4⟩ := cnt_ok hn
            rw [hn] at hr
            simp only at hr
            unfold Sp.tk at hr
            by_cases hl : a' + n ≤ xs.length
            · rw [if_pos hl] at hr
              injection hr with e1 e2; injection e1 with e3 e4; subst e2; subst e3
              have hsz : (Sp.txt ((xs.drop a').take n)).size ≤ maxLen := by rw [txt_size, part_len hl]; unfold maxLen; omega
              rcases hk with rfl | rfl
              · refine (made_5 b a xs cap at' p w h hx hby n a' hrn hl).mono ?_
                rintro e w' ⟨rfl, hr, hb⟩; exact ⟨_, rfl, hr, hb, by simp [lfT, Tm.V, hsz]⟩
              · refine (made_6 b a xs cap at' p w h hx hby n a' hrn hl hn4).mono ?_
                rintro e w' ⟨a8, cap8, rfl, hr, hb, hlv⟩; exact ⟨_, rfl, hr, hb, by rw [if_pos rfl]; exact Tm.V_of6 hlv⟩
            · rw [if_neg hl] at hr; simp at hr
        split at hr
        · rename_i hk; subst hk
          cases hn : Sp.rn xs (at' + 1) 10 0 0 with
          | bad q e => rw [hn] at hr; simp at hr
          | ok n a' =>
            rw [hn] at hr
            injection hr with e1 e2; injection e1 with e3 e4; subst e2; subst e3
            refine (made_7 b a xs cap at' p w h hx hby n _ hn).mono ?_
            rintro e w' ⟨rfl, hr, hb⟩; exact ⟨_, rfl, hr, hb, by simp [lfT, Tm.V]⟩
        split at hr
        · rename_i hk; subst hk
          cases hn : Sp.cnt xs (at' + 1) at' 4096 with
          | bad q e => rw [hn] at hr; simp at hr
          | ok n a' =>
            obtain ⟨hrn, hn4⟩ := cnt_ok hn
            rw [hn] at hr
            simp only at hr
            cases hL : Sp.rdL (Sp.rdV xs f) n a' (p0 + 1) with
            | bad q e => rw [hL] at hr; simp at hr
            | ok lp a3 =>
              obtain ⟨l, p3⟩ := lp
              rw [hL] at hr
              injection hr with e1 e2; injection e1 with e3 e4; subst e2; subst e3
              refine (made_8 b a xs cap at' p w h hx hby f HC n a' (p0 + 1) p3 _ l hrn hn4 hL).mono ?_
              rintro e w' ⟨a8, cap8, rfl, hr, hb, hlv⟩; exact ⟨_, rfl, hr, hb, Tm.V_of8 hlv⟩
        split at hr
        · rename_i hk; subst hk
          cases hL : Sp.rdD xs at' (Sp.rdV xs f) (at' + 1) (p0 + 1) with
          | bad q e => rw [hL] at hr; simp at hr
          | ok lp a3 =>
            obtain ⟨l, p3⟩ := lp
            rw [hL] at hr
            injection hr with e1 e2; injection e1 with e3 e4; subst e2; subst e3
            refine (made_9 b a xs cap at' p w h hx hby f HC at' (p0 + 1) p3 _ l hL).mono ?_
            rintro e w' ⟨a8, cap8, rfl, hr, hb, hlv⟩; exact ⟨_, rfl, hr, hb, Tm.V_of9 hlv⟩
        split at hr
        · rename_i hk; subst hk
          cases hN : Sp.rdN xs (at' + 1) at' with
          | bad q e => rw [hN] at hr; simp at hr
          | ok c a' =>
            obtain ⟨nn, an, hrn, hn32, hle, rfl, rfl, hnm⟩ := rdN_ok hN
            rw [hN] at hr
            simp only at hr
            cases hv : Sp.rn xs (an + nn) 10 0 0 with
            | bad q e => rw [hv] at hr; simp at hr
            | ok v a4 =>
              rw [hv] at hr
              simp only at hr
              split at hr
              · simp at hr
              · rename_i hv1
                cases hL : Sp.rdD xs at' (Sp.rdV xs f) a4 (p0 + 1) with
                | bad q e => rw [hL] at hr; simp at hr
                | ok lp a3 =>
                  obtain ⟨l, p3⟩ := lp
                  rw [hL] at hr
                  injection hr with e1 e2; injection e1 with e3 e4; subst e2; subst e3
                  refine (made_10 b a xs cap at' p w h hx hby f HC at' (p0 + 1) p3 _ l nn an v a4 hrn hle hv (by omega) hL).mono ?_
                  rintro e w' ⟨g, a8, cap8, rfl, hr, hb, hg, c0, c1, c2, hrv⟩
                  exact ⟨_, rfl, hr, hb, Tm.V_of10 hg c0 c1 c2 (by rw [txt_size, part_len hle]; unfold maxLen; omega) hrv⟩
        · simp at hr
end Go.Proofs.Ytmmiiapfefmcjaa

/- The document's reading: bad, one. -/
namespace Go.Proofs.Ytmmiiapfefmcjaa
open Go.RowKit

/-- the document's reading, as it is handed on -/
def rdg (a : Option Addr) (n cap at' p place : Nat) (why : Int) : Array Value := #[.slice a n cap, .int .i64 (at' : Int), .int .i64 (p : Int), .int .i64 (place : Int), .int .i64 why]
theorem set5 (W : World) (g k : Nat) (h : k ≠ g) (a b c d e : Value) : (((((W.setCell ⟨g, 0, none⟩ a).setCell ⟨g, 1, none⟩ b).setCell ⟨g, 2, none⟩ c).setCell ⟨g, 3, none⟩ d).setCell ⟨g, 4, none⟩ e).heap[k]? = W.heap[k]? := by
  rw [Below.heap_setCell _ _ _ _ h, Below.heap_setCell _ _ _ _ h, Below.heap_setCell _ _ _ _ h, Below.heap_setCell _ _ _ _ h, Below.heap_setCell _ _ _ _ h]
theorem five {w : World} {g : Nat} {a b c d e : Value} {t : TypeId} (h : w.heap[g]? = some (.cells #[a, b, c, d, e] t (0, 0))) : w.cell? ⟨g, 0, none⟩ = some a ∧ w.cell? ⟨g, 1, none⟩ = some b ∧ w.cell? ⟨g, 2, none⟩ = some c ∧ w.cell? ⟨g, 3, none⟩ = some d ∧ w.cell? ⟨g, 4, none⟩ = some e := by
  have hh := fun j => cell_of_row w g j _ _ _ h
  exact ⟨hh 0, hh 1, hh 2, hh 3, hh 4⟩

theorem put5 {w1 : World} {g : Nat} {cur : Array Value} {t : TypeId} (h : w1.heap[g]? = some (.cells cur t (0, 0))) (hs : cur.size = 5) (a b c d e : Value) : ((setN w1 g 0 [a, b, c, d, e]).cell? ⟨g, 0, none⟩ = some a ∧ (setN w1 g 0 [a, b, c, d, e]).cell? ⟨g, 1, none⟩ = some b ∧ (setN w1 g 0 [a, b, c, d, e]).cell? ⟨g, 2, none⟩ = some c ∧ (setN w1 g 0 [a, b, c, d, e]).cell? ⟨g, 3, none⟩ = some d ∧ (setN w1 g 0 [a, b, c, d, e]).cell? ⟨g, 4, none⟩ = some e) ∧ ∀ B, B ≤ g → Below B w1 (setN w1 g 0 [a, b, c, d, e]) := by
  have hc : ∀ i, i < 5 → ∃ u, w1.cell? ⟨g, 0 + i, none⟩ = some u := fun i hi => ⟨cur[i], by rw [Nat.zero_add, cell_of_row _ _ i _ _ _ h]; simp [hs, hi]⟩
  refine ⟨⟨?_, ?_, ?_, ?_, ?_⟩, fun B hB => setN_below hB _ _ _ _ (Below.refl _ _)⟩
  · exact setN_in _ w1 0 0 a rfl (hc 0 (by decide))
  · exact setN_in _ w1 0 1 b rfl (hc 1 (by decide))
  · exact setN_in _ w1 0 2 c rfl (hc 2 (by decide))
  · exact setN_in _ w1 0 3 d rfl (hc 3 (by decide))
  · exact setN_in _ w1 0 4 e rfl (hc 4 (by decide))
theorem own5 {w1 : World} {g : Nat} {a b c d e : Value} {t : TypeId} (h : w1.heap[g]? = some (.cells #[a, b, c, d, e] t (0, 0))) : (w1.cell? ⟨g, 0, none⟩ = some a ∧ w1.cell? ⟨g, 1, none⟩ = some b ∧ w1.cell? ⟨g, 2, none⟩ = some c ∧ w1.cell? ⟨g, 3, none⟩ = some d ∧ w1.cell? ⟨g, 4, none⟩ = some e) ∧ w1.frozen? ⟨g, 0, none⟩ = false ∧ w1.frozen? ⟨g, 1, none⟩ = false ∧ w1.frozen? ⟨g, 2, none⟩ = false ∧ w1.frozen? ⟨g, 3, none⟩ = false ∧ w1.frozen? ⟨g, 4, none⟩ = false :=
  ⟨five h, frozen_of_row _ _ 0 _ _ h, frozen_of_row _ _ 1 _ _ h, frozen_of_row _ _ 2 _ _ h, frozen_of_row _ _ 3 _ _ h, frozen_of_row _ _ 4 _ _ h⟩
/-- two boxes, made one behind the other, stand behind a call -/
theorem boxes {w : World} {A B : Obj} {w1 : World} (h : Below ((w.alloc A).alloc B).heap.size ((w.alloc A).alloc B) w1) : w1.heap[w.heap.size]? = some A ∧ w1.heap[w.heap.size + 1]? = some B ∧ Below w.heap.size w w1 := by
  refine ⟨?_, ?_, below_to (((Below.refl _ _).alloc (Nat.le_refl _) _).alloc (by simp) _) h⟩
  · rw [h.block w.heap.size (by simp; omega), Below.heap_alloc _ _ _ (by simp)]; exact heap_alloc_new w _
  · rw [h.block (w.heap.size + 1) (by simp)]
    have := heap_alloc_new (w.alloc A) B
    simpa using this

set_option maxRecDepth 100000 in
set_option maxHeartbeats 1000000 in
theorem rgbad_ok (at' p : Int) (a : Option Addr) (m cap : Nat) (w : World) (q er : Int) :
    Calls Try.prog 91 #[.agg #[.slice a m cap, .int .i64 at', .int .i64 p, .int .i64 0, .int .i64 0], .int .i64 q, .int .i64 er] w fun e w' => e = .returned (.agg #[.slice a m cap, .int .i64 at', .int .i64 p, .int .i64 q, .int .i64 er]) ∧ Below w.heap.size w w' := by
  go_enter Try.func91, Try.ntmps91
  go_wp2_with fail
  refine bodyPost_ret (v := .agg #[.slice a m cap, .int .i64 at', .int .i64 p, .int .i64 q, .int .i64 er]) (by simp [results, Try.results91, go_sem] <;> rfl) rfl ⟨rfl, ?_⟩
  exact ((Below.refl _ _).alloc (Nat.le_refl _) _).alloc (by simp) _

set_option maxRecDepth 100000 in
set_option maxHeartbeats 1000000 in
theorem rgone_ok (xs : List Int) (a : Option Addr) (cap at' p : Nat) (w : World) (c : Int) (hx : xs[at']? = some c) (hrd : RdB w (Lo w.heap.size) a xs) (hln : xs.length ≤ 281474976710656) :
    Calls Try.prog 92 #[.agg (rdg a xs.length cap at' p 0 0)] w fun e w' => e = .returned (.tuple #[.agg (rdg a xs.length cap (at' + 1) p 0 0), .int .u8 c]) ∧ Below w.heap.size w w' := by
  have hl : at' < xs.length := (List.getElem?_eq_some_iff.1 hx).1
  obtain ⟨g, o, rfl, hg, hc⟩ := hrd at' c hx
  have he : ((at' : Int) == (xs.length : Int)) = false := by simp; omega
  have hg' : g < w.heap.size := hg
  have hi0 : (0 : Int) ≤ (at' : Int) := Int.natCast_nonneg _
  have hi1 : (at' : Int) < (xs.length : Int) := by omega
  have hwa : wrap64 ((at' : Int) + 1 - 1) = (at' : Int) := by unfold wrap64; omega
  have hwb : IntKind.i64.wrap ((at' : Int) + 1 - 1) = (at' : Int) := by rw [IntKind.wrap_i64]; omega
  have hwc : IntKind.i64.wrap (at' : Int) = (at' : Int) := by rw [IntKind.wrap_i64]; omega
  have hwd : wrap64 (at' : Int) = (at' : Int) := by unfold wrap64; omega
  have hne : w.heap.size ≠ w.heap.size + 1 := by omega
  have hne2 : g ≠ w.heap.size + 1 := by omega
  have HX : Hid (∀ W : World, W.heap[w.heap.size]? = some (.cells #[.slice (some ⟨g, o, none⟩) xs.length cap, .int .i64 ((at' : Int) + 1), .int .i64 (p : Int), .int .i64 0, .int .i64 0] 94 (0, 0)) → W.heap[g]? = w.heap[g]? → (W.cell? ⟨w.heap.size, 0, none⟩ = some (.slice (some ⟨g, o, none⟩) xs.length cap) ∧ W.cell? ⟨w.heap.size, 1, none⟩ = some (.int .i64 ((at' : Int) + 1)) ∧ W.cell? ⟨w.heap.size, 2, none⟩ = some (.int .i64 (p : Int)) ∧ W.cell? ⟨w.heap.size, 3, none⟩ = some (.int .i64 0) ∧ W.cell? ⟨w.heap.size, 4, none⟩ = some (.int .i64 0)) ∧ W.cell? ⟨g, o + at', none⟩ = some (.int .u8 c)) := fun W h1 h2 => ⟨five h1, by rw [World.cell?_of_block (w := w) (a := ⟨g, o + at', none⟩) h2]; exact hc⟩
  clear hx hrd hg hc
  unfold rdg
  go_enter Try.func92, Try.ntmps92
  go_wp2_with fail
  have HW : Hid (∀ B : Obj, ((w.alloc (.cells #[.slice (some ⟨g, o, none⟩) xs.length cap, .int .i64 ((at' : Int) + 1), .int .i64 (p : Int), .int .i64 0, .int .i64 0] 94)).alloc B).heap[w.heap.size]? = some (.cells #[.slice (some ⟨g, o, none⟩) xs.length cap, .int .i64 ((at' : Int) + 1), .int .i64 (p : Int), .int .i64 0, .int .i64 0] 94 (0, 0)) ∧ ((w.alloc (.cells #[.slice (some ⟨g, o, none⟩) xs.length cap, .int .i64 ((at' : Int) + 1), .int .i64 (p : Int), .int .i64 0, .int .i64 0] 94)).alloc B).heap[g]? = w.heap[g]?) := fun B => by
    refine ⟨?_, ?_⟩
    · rw [Below.heap_alloc _ _ _ (by simp)]; exact heap_alloc_new w _
    · rw [Below.heap_alloc _ _ _ (by simp; omega), Below.heap_alloc _ _ _ hg']
  go_region_held3 (fun W => (W.cell? ⟨w.heap.size, 0, none⟩ = some (.slice (some ⟨g, o, none⟩) xs.length cap) ∧ W.cell? ⟨w.heap.size, 1, none⟩ = some (.int .i64 ((at' : Int) + 1)) ∧ W.cell? ⟨w.heap.size, 2, none⟩ = some (.int .i64 (p : Int)) ∧ W.cell? ⟨w.heap.size, 3, none⟩ = some (.int .i64 0) ∧ W.cell? ⟨w.heap.size, 4, none⟩ = some (.int .i64 0)) ∧ W.cell? ⟨g, o + at', none⟩ = some (.int .u8 c))
    (first | exact HX.out _ (HW.out _).1 (HW.out _).2 | exact HX.out _ ((set5 _ _ _ hne _ _ _ _ _).trans (HW.out _).1) ((set5 _ _ _ hne2 _ _ _ _ _).trans (HW.out _).2))
    (fail)
  go_wp2_with fail
  refine bodyPost_ret (v := .tuple #[.agg #[.slice (some ⟨g, o, none⟩) xs.length cap, .int .i64 ((at' : Int) + 1), .int .i64 (p : Int), .int .i64 0, .int .i64 0], .int .u8 c]) (by simp [results, Try.results92, go_sem] <;> rfl) rfl ⟨rfl, ?_⟩
  exact (((Below.refl _ _).alloc (Nat.le_refl _) _).alloc (by simp) _).drew

set_option maxRecDepth 100000 in
set_option maxHeartbeats 1000000 in
theorem rgone_end (a : Option Addr) (n cap p : Nat) (w : World) :
    Calls Try.prog 92 #[.agg (rdg a n cap n p 0 0)] w fun e w' => e = .returned (.tuple #[.agg (rdg a n cap n p n 4), .int .u8 0]) ∧ Below w.heap.size w w' := by
  have HBd : Hid (∀ W, Calls Try.prog 91 #[.agg #[.slice a n cap, .int .i64 (n : Int), .int .i64 (p : Int), .int .i64 0, .int .i64 0], .int .i64 (n : Int), .int .i64 4] W fun e w' => e = .returned (.agg #[.slice a n cap, .int .i64 (n : Int), .int .i64 (p : Int), .int .i64 (n : Int), .int .i64 4]) ∧ Below W.heap.size W w') := fun W => rgbad_ok n p a n cap W n 4
  have he : ((n : Int) == (n : Int)) = true := by simp
  unfold rdg
  go_enter Try.func92, Try.ntmps92
  go_wp2_with fail
  refine (HBd.out _).mono ?_
  rintro e w1 ⟨rfl, hb1⟩
  obtain ⟨hA, hBx, hbw⟩ := boxes hb1
  obtain ⟨⟨u0, u1, u2, u3, u4⟩, z0, z1, z2, z3, z4⟩ := own5 hBx
  have HP := put5 hBx rfl (.slice a n cap) (.int .i64 (n : Int)) (.int .i64 (p : Int)) (.int .i64 (n : Int)) (.int .i64 4)
  have HP : Hid _ := HP
  have HB : Hid (Below w.heap.size w w1) := hbw
  clear hb1 hA hBx hbw
  go_wp2_with fail
  show bodyPost _ _ _ _ _ (setN w1 (w.heap.size + 1) 0 [.slice a n cap, .int .i64 (n : Int), .int .i64 (p : Int), .int .i64 (n : Int), .int .i64 4])
  generalize setN w1 (w.heap.size + 1) 0 [.slice a n cap, .int .i64 (n : Int), .int .i64 (p : Int), .int .i64 (n : Int), .int .i64 4] = W2 at HP ⊢
  obtain ⟨⟨r0, r1, r2, r3, r4⟩, hbb⟩ := HP.out
  refine bodyPost_ret (v := .tuple #[.agg #[.slice a n cap, .int .i64 (n : Int), .int .i64 (p : Int), .int .i64 (n : Int), .int .i64 4], .int .u8 0]) (by simp [results, Try.results92, go_sem, r0, r1, r2, r3, r4]) rfl ⟨rfl, HB.out.trans (hbb _ (by omega))⟩

set_option maxRecDepth 100000 in
set_option maxHeartbeats 1000000 in
theorem rgone_bad (a : Option Addr) (n cap at' p q : Nat) (er : Int) (her : er ≠ 0) (w : World) :
    Calls Try.prog 92 #[.agg (rdg a n cap at' p q er)] w fun e w' => e = .returned (.tuple #[.agg (rdg a n cap at' p q er), .int .u8 0]) ∧ Below w.heap.size w w' := by
  have he : (er != 0) = true := by simp [her]
  clear her
  unfold rdg
  go_enter Try.func92, Try.ntmps92
  go_wp2_with fail
  refine bodyPost_ret (v := .tuple #[.agg #[.slice a n cap, .int .i64 (at' : Int), .int .i64 (p : Int), .int .i64 (q : Int), .int .i64 er], .int .u8 0]) (by simp [results, Try.results92, go_sem] <;> rfl) rfl ⟨rfl, ?_⟩
  exact ((Below.refl _ _).alloc (Nat.le_refl _) _).alloc (by simp) _
end Go.Proofs.Ytmmiiapfefmcjaa

/- The document's reading of a number. -/
namespace Go.Proofs.Ytmmiiapfefmcjaa
open Go.RowKit

theorem row5 {w1 : World} {g : Nat} {z0 z1 z2 z3 z4 : Value} {t : TypeId} (h : w1.heap[g]? = some (.cells #[z0, z1, z2, z3, z4] t (0, 0))) (a b c d e : Value) : (setN w1 g 0 [a, b, c, d, e]).heap[g]? = some (.cells #[a, b, c, d, e] t (0, 0)) := by
  have h1 := heap_setCell_same w1 g 0 _ _ a h
  have h2 := heap_setCell_same _ g 1 _ _ b h1
  have h3 := heap_setCell_same _ g 2 _ _ c h2
  have h4 := heap_setCell_same _ g 3 _ _ d h3
  have h5 := heap_setCell_same _ g 4 _ _ e h4
  simpa [setN] using h5
/-- the reading that a method was handed, in a box of its own, and the box of its result behind it -/
structure RB (w wr : World) (a b c d e : Value) : Prop where
  bel : Below w.heap.size w wr
  box : wr.heap[w.heap.size]? = some (.cells #[a, b, c, d, e] 94 (0, 0))
  res : ∃ z0 z1 z2 z3 z4, wr.heap[w.heap.size + 1]? = some (.cells #[z0, z1, z2, z3, z4] 94 (0, 0))
theorem RB.lt {w wr : World} {a b c d e : Value} (h : RB w wr a b c d e) : w.heap.size + 1 < wr.heap.size := by
  obtain ⟨_, _, _, _, _, hr⟩ := h.res
  have := (five hr).1
  exact World.block_lt_of_cell? _ _ this
theorem RB.call {w wr w1 : World} {a b c d e : Value} (h : RB w wr a b c d e) (hb : Below wr.heap.size wr w1) : RB w w1 a b c d e := by
  have hl := h.lt
  obtain ⟨z0, z1, z2, z3, z4, hr⟩ := h.res
  exact ⟨below_to h.bel hb, by rw [hb.block w.heap.size (by omega)]; exact h.box, z0, z1, z2, z3, z4, by rw [hb.block (w.heap.size + 1) hl]; exact hr⟩
theorem RB.put {w wr : World} {a b c d e : Value} (h : RB w wr a b c d e) (a' b' c' d' e' : Value) : RB w (setN wr w.heap.size 0 [a', b', c', d', e']) a' b' c' d' e' := by
  obtain ⟨z0, z1, z2, z3, z4, hr⟩ := h.res
  exact ⟨setN_below (Nat.le_refl _) _ _ _ _ h.bel, row5 h.box _ _ _ _ _, z0, z1, z2, z3, z4, by rw [setN_other (by omega)]; exact hr⟩
/-- what the walk wants of the two boxes -/
theorem RB.get {w wr : World} {a b c d e : Value} (h : RB w wr a b c d e) : ((wr.cell? ⟨w.heap.size, 0, none⟩ = some a ∧ wr.cell? ⟨w.heap.size, 1, none⟩ = some b ∧ wr.cell? ⟨w.heap.size, 2, none⟩ = some c ∧ wr.cell? ⟨w.heap.size, 3, none⟩ = some d ∧ wr.cell? ⟨w.heap.size, 4, none⟩ = some e) ∧ wr.frozen? ⟨w.heap.size, 0, none⟩ = false ∧ wr.frozen? ⟨w.heap.size, 1, none⟩ = false ∧ wr.frozen? ⟨w.heap.size, 2, none⟩ = false ∧ wr.frozen? ⟨w.heap.size, 3, none⟩ = false ∧ wr.frozen? ⟨w.heap.size, 4, none⟩ = false) ∧ ∃ z0 z1 z2 z3 z4, (wr.cell? ⟨w.heap.size + 1, 0, none⟩ = some z0 ∧ wr.cell? ⟨w.heap.size + 1, 1, none⟩ = some z1 ∧ wr.cell? ⟨w.heap.size + 1, 2, none⟩ = some z2 ∧ wr.cell? ⟨w.heap.size + 1, 3, none⟩ = some z3 ∧ wr.cell? ⟨w.heap.size + 1, 4, none⟩ = some z4) ∧ wr.frozen? ⟨w.heap.size + 1, 0, none⟩ = false ∧ wr.frozen? ⟨w.heap.size + 1, 1, none⟩ = false ∧ wr.frozen? ⟨w.heap.size + 1, 2, none⟩ = false ∧ wr.frozen? ⟨w.heap.size + 1, 3, none⟩ = false ∧ wr.frozen? ⟨w.heap.size + 1, 4, none⟩ = false := by
  obtain ⟨z0, z1, z2, z3, z4, hr⟩ := h.res
  exact ⟨own5 h.box, z0, z1, z2, z3, z4, own5 hr⟩
theorem RB.fin {w wr : World} {a b c d e : Value} (h : RB w wr a b c d e) (a' b' c' d' e' : Value) : ((setN wr (w.heap.size + 1) 0 [a', b', c', d', e']).cell? ⟨w.heap.size + 1, 0, none⟩ = some a' ∧ (setN wr (w.heap.size + 1) 0 [a', b', c', d', e']).cell? ⟨w.heap.size + 1, 1, none⟩ = some b' ∧ (setN wr (w.heap.size + 1) 0 [a', b', c', d', e']).cell? ⟨w.heap.size + 1, 2, none⟩ = some c' ∧ (setN wr (w.heap.size + 1) 0 [a', b', c', d', e']).cell? ⟨w.heap.size + 1, 3, none⟩ = some d' ∧ (setN wr (w.heap.size + 1) 0 [a', b', c', d', e']).cell? ⟨w.heap.size + 1, 4, none⟩ = some e') ∧ Below w.heap.size w (setN wr (w.heap.size + 1) 0 [a', b', c', d', e']) := by
  obtain ⟨z0, z1, z2, z3, z4, hr⟩ := h.res
  obtain ⟨h1, h2⟩ := put5 hr rfl a' b' c' d' e'
  exact ⟨h1, h.bel.trans (h2 _ (by omega))⟩
theorem RB.new (w : World) (a b c d e z0 z1 z2 z3 z4 : Value) : RB w ((w.alloc (.cells #[a, b, c, d, e] 94)).alloc (.cells #[z0, z1, z2, z3, z4] 94)) a b c d e := by
  obtain ⟨h1, h2, h3⟩ := boxes (Below.refl _ ((w.alloc (.cells #[a, b, c, d, e] 94)).alloc (.cells #[z0, z1, z2, z3, z4] 94)))
  exact ⟨h3, h1, z0, z1, z2, z3, z4, h2⟩

/-- five cells written one by one, the worlds between them by names of their own -/
theorem chain5 {w1 : World} {g : Nat} {z0 z1 z2 z3 z4 : Value} {t : TypeId} (h : w1.heap[g]? = some (.cells #[z0, z1, z2, z3, z4] t (0, 0))) (a b c d e : Value) : ∃ W1 W2 W3 W4 W5 : World, w1.setCell ⟨g, 0, none⟩ a = W1 ∧ W1.setCell ⟨g, 1, none⟩ b = W2 ∧ W2.setCell ⟨g, 2, none⟩ c = W3 ∧ W3.setCell ⟨g, 3, none⟩ d = W4 ∧ W4.setCell ⟨g, 4, none⟩ e = W5 ∧ (w1.cell? ⟨g, 0, none⟩ = some z0 ∧ w1.frozen? ⟨g, 0, none⟩ = false) ∧ (W1.cell? ⟨g, 1, none⟩ = some z1 ∧ W1.frozen? ⟨g, 1, none⟩ = false) ∧ (W2.cell? ⟨g, 2, none⟩ = some z2 ∧ W2.frozen? ⟨g, 2, none⟩ = false) ∧ (W3.cell? ⟨g, 3, none⟩ = some z3 ∧ W3.frozen? ⟨g, 3, none⟩ = false) ∧ (W4.cell? ⟨g, 4, none⟩ = some z4 ∧ W4.frozen? ⟨g, 4, none⟩ = false) ∧ W5 = setN w1 g 0 [a, b, c, d, e] := by
  have h1 := heap_setCell_same w1 g 0 _ _ a h
  have h2 := heap_setCell_same _ g 1 _ _ b h1
  have h3 := heap_setCell_same _ g 2 _ _ c h2
  have h4 := heap_setCell_same _ g 3 _ _ d h3
  refine ⟨_, _, _, _, _, rfl, rfl, rfl, rfl, rfl, ⟨?_, frozen_of_row _ _ 0 _ _ h⟩, ⟨?_, frozen_of_row _ _ 1 _ _ h1⟩, ⟨?_, frozen_of_row _ _ 2 _ _ h2⟩, ⟨?_, frozen_of_row _ _ 3 _ _ h3⟩, ⟨?_, frozen_of_row _ _ 4 _ _ h4⟩, rfl⟩
  · rw [cell_of_row _ _ 0 _ _ _ h]; rfl
  · rw [cell_of_row _ _ 1 _ _ _ h1]; simp
  · rw [cell_of_row _ _ 2 _ _ _ h2]; simp
  · rw [cell_of_row _ _ 3 _ _ _ h3]; simp
  · rw [cell_of_row _ _ 4 _ _ _ h4]; simp

set_option maxRecDepth 100000 in
set_option maxHeartbeats 1000000 in
theorem rgnum_pass (a : Option Addr) (n cap at' p q : Nat) (er : Int) (her : er ≠ 0) (w : World) :
    Calls Try.prog 117 #[.agg (rdg a n cap at' p q er)] w fun e w' => e = .returned (.tuple #[.agg (rdg a n cap at' p q er), .int .u64 0]) ∧ Below w.heap.size w w' := by
  have HO : Hid (∀ W, Calls Try.prog 92 #[.agg #[.slice a n cap, .int .i64 (at' : Int), .int .i64 (p : Int), .int .i64 (q : Int), .int .i64 er]] W fun e w' => e = .returned (.tuple #[.agg #[.slice a n cap, .int .i64 (at' : Int), .int .i64 (p : Int), .int .i64 (q : Int), .int .i64 er], .int .u8 0]) ∧ Below W.heap.size W w') := fun W => rgone_bad a n cap at' p q er her W
  have he : (er != 0) = true := by simp [her]
  have HN : Hid (∀ z0 z1 z2 z3 z4, RB w ((w.alloc (.cells #[.slice a n cap, .int .i64 (at' : Int), .int .i64 (p : Int), .int .i64 (q : Int), .int .i64 er] 94)).alloc (.cells #[z0, z1, z2, z3, z4] 94)) (.slice a n cap) (.int .i64 (at' : Int)) (.int .i64 (p : Int)) (.int .i64 (q : Int)) (.int .i64 er)) := fun _ _ _ _ _ => RB.new _ _ _ _ _ _ _ _ _ _ _
  clear her
  unfold rdg
  go_enter Try.func117, Try.ntmps117
  go_wp2_with fail
  go_loopw [6] (fun x wr => x = .int .i64 0 ∧ Hid (RB w wr (.slice a n cap) (.int .i64 (at' : Int)) (.int .i64 (p : Int)) (.int .i64 (q : Int)) (.int .i64 er))) (fun _ _ => 0)
  case atStart => exact ⟨rfl, HN.out _ _ _ _ _⟩
  case round =>
    obtain ⟨rfl, HR⟩ := hrel
    clear HN
    obtain ⟨⟨⟨c0, c1, c2, c3, c4⟩, y0, y1, y2, y3, y4⟩, z0, z1, z2, z3, z4, ⟨d0, d1, d2, d3, d4⟩, x0, x1, x2, x3, x4⟩ := HR.out.get
    clear y0 y1 y2 y3 y4 d0 d1 d2 d3 d4 x0 x1 x2 x3 x4
    go_wp2_with fail
    refine (HO.out _).mono ?_
    rintro e w1 ⟨rfl, hb1⟩
    have HR1 : Hid (RB w w1 (.slice a n cap) (.int .i64 (at' : Int)) (.int .i64 (p : Int)) (.int .i64 (q : Int)) (.int .i64 er)) := HR.out.call hb1
    clear hb1 c0 c1 c2 c3 c4
    obtain ⟨W1, W2, W3, W4, W5, k1, k2, k3, k4, k5, ⟨c0, y0⟩, ⟨c1, y1⟩, ⟨c2, y2⟩, ⟨c3, y3⟩, ⟨c4, y4⟩, hW5⟩ := chain5 HR1.out.box (.slice a n cap) (.int .i64 (at' : Int)) (.int .i64 (p : Int)) (.int .i64 (q : Int)) (.int .i64 er)
    have HR2 : Hid (RB w W5 (.slice a n cap) (.int .i64 (at' : Int)) (.int .i64 (p : Int)) (.int .i64 (q : Int)) (.int .i64 er)) := by rw [hW5]; exact HR1.out.put _ _ _ _ _
    clear hW5
    obtain ⟨⟨⟨e0, e1, e2, e3, e4⟩, _⟩, _⟩ := HR2.out.get
    obtain ⟨v0, v1, v2, v3, v4, hres⟩ := HR2.out.res
    obtain ⟨V1, V2, V3, V4, V5, l1, l2, l3, l4, l5, ⟨d0, x0⟩, ⟨d1, x1⟩, ⟨d2, x2⟩, ⟨d3, x3⟩, ⟨d4, x4⟩, hV5⟩ := chain5 hres (.slice a n cap) (.int .i64 (at' : Int)) (.int .i64 (p : Int)) (.int .i64 (q : Int)) (.int .i64 er)
    have HF := HR2.out.fin (.slice a n cap) (.int .i64 (at' : Int)) (.int .i64 (p : Int)) (.int .i64 (q : Int)) (.int .i64 er)
    rw [← hV5] at HF
    have HF : Hid _ := HF
    clear hV5 hres
    go_wp2_with fail
    obtain ⟨⟨r0, r1, r2, r3, r4⟩, hbb⟩ := HF.out
    refine bodyPost_ret (v := .tuple #[.agg #[.slice a n cap, .int .i64 (at' : Int), .int .i64 (p : Int), .int .i64 (q : Int), .int .i64 er], .int .u64 0]) (by simp [results, Try.results117, go_sem, r0, r1, r2, r3, r4]) rfl ⟨rfl, hbb⟩
end Go.Proofs.Ytmmiiapfefmcjaa

