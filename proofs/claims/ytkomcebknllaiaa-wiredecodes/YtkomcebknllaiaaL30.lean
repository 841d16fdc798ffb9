/- tenonref03.Decode. -/
import Derived.Test.YtkomcebknllaiaaL29
import Derived.Test.YtkomcebknllaiaaL3
import Derived.Defers
import Derived.Recover
import Derived.Deep.RegionHeld3
namespace Go.Proofs.Ytkomcebknllaiaa
open Go.RowKit

set_option maxRecDepth 100000 in
set_option maxHeartbeats 4000000 in
theorem rgterm_top (xs : List Int) (hby : By xs) (a : Option Addr) (cap : Nat) (w : World) (hcp : xs.length ≤ cap) (hrd : RdB w (Lo w.heap.size) a xs) (hln : xs.length ≤ 281474976710656) :
    Calls Try.prog 55 #[.agg #[.slice a xs.length cap, .int .i64 0, .int .i64 0, .int .i64 0, .int .i64 0], .int .i64 1] w fun e w' => ∃ (a2 p2 q : Nat) (er : Int) (u : Int) (b : Bool) (i : Int) (f : Nat) (tx : ByteArray) (ab : Option Addr) (nb cb : Nat) (rf : Int) (al : Option Addr) (nl cl : Nat) (af : Option Addr) (nf cf : Nat) (c : ByteArray) (vr : Int), e = .returned (.tuple #[.agg #[.slice a xs.length cap, .int .i64 (a2 : Int), .int .i64 (p2 : Int), .int .i64 (q : Int), .int .i64 er], .agg #[.int .i64 u, .bool b, .int .i64 i, .float .f64 f, .string tx, .slice ab nb cb, .int .u64 rf, .slice al nl cl, .slice af nf cf, .string c, .int .i64 vr]]) ∧ Below w.heap.size w w' ∧ TR (Sp.rdV xs 64) xs.length 0 0 w w' a2 p2 q er #[.int .i64 u, .bool b, .int .i64 i, .float .f64 f, .string tx, .slice ab nb cb, .int .u64 rf, .slice al nl cl, .slice af nf cf, .string c, .int .i64 vr] := by
  cases xs with
  | nil =>
    refine (rgterm_end a 0 cap 0 1 w).mono ?_
    rintro e w' ⟨rfl, hb⟩
    exact ⟨0, 0, 0, 4, _, _, _, _, _, _, _, _, _, _, _, _, _, _, _, _, _, rfl, hb, .inr ⟨by decide, by simp [Sp.rdV]⟩⟩
  | cons x l =>
    obtain ⟨g, o, rfl, _, _⟩ := hrd 0 x rfl
    have := rgterm_all (x :: l) hby (some ⟨g, o, none⟩) cap hcp (fun h => by cases h) (fun q h => by injection h with h; subst h; rfl) hln 64 (Nat.le_refl _) 0 0 w (by simp) hrd
    exact this
set_option maxRecDepth 100000 in
set_option maxHeartbeats 4000000 in
theorem refDecode_ok (xs : List Int) (hby : By xs) (t : Tm) (p2 a2 : Nat) (hr : Sp.rdV xs 64 0 0 = .ok (t, p2) a2) (a : Option Addr) (cap : Nat) (w : World) (hcp : xs.length ≤ cap) (hrd : RdB w (Lo w.heap.size) a xs) (hln : xs.length ≤ 281474976710656) :
    Calls Try.prog 31 #[.slice a xs.length cap] w fun e w' => ∃ (u : Int) (b : Bool) (i : Int) (f : Nat) (tx : ByteArray) (ab : Option Addr) (nb cb : Nat) (rf : Int) (al : Option Addr) (nl cl : Nat) (af : Option Addr) (nf cf : Nat) (c : ByteArray) (vr : Int), e = .returned (.tuple #[.agg #[.int .i64 u, .bool b, .int .i64 i, .float .f64 f, .string tx, .slice ab nb cb, .int .u64 rf, .slice al nl cl, .slice af nf cf, .string c, .int .i64 vr], .int .i64 (a2 : Int), .int .i64 0]) ∧ Below w.heap.size w w' ∧ t.In w' (Fr w w') #[.int .i64 u, .bool b, .int .i64 i, .float .f64 f, .string tx, .slice ab nb cb, .int .u64 rf, .slice al nl cl, .slice af nf cf, .string c, .int .i64 vr] := by
  have HT : Hid (∀ W, Below w.heap.size w W → Calls Try.prog 55 #[.agg #[.slice a xs.length cap, .int .i64 0, .int .i64 0, .int .i64 0, .int .i64 0], .int .i64 1] W fun e w' => ∃ (a2 p2 q : Nat) (er : Int) (u : Int) (b : Bool) (i : Int) (f : Nat) (tx : ByteArray) (ab : Option Addr) (nb cb : Nat) (rf : Int) (al : Option Addr) (nl cl : Nat) (af : Option Addr) (nf cf : Nat) (c : ByteArray) (vr : Int), e = .returned (.tuple #[.agg #[.slice a xs.length cap, .int .i64 (a2 : Int), .int .i64 (p2 : Int), .int .i64 (q : Int), .int .i64 er], .agg #[.int .i64 u, .bool b, .int .i64 i, .float .f64 f, .string tx, .slice ab nb cb, .int .u64 rf, .slice al nl cl, .slice af nf cf, .string c, .int .i64 vr]]) ∧ Below W.heap.size W w' ∧ TR (Sp.rdV xs 64) xs.length 0 0 W w' a2 p2 q er #[.int .i64 u, .bool b, .int .i64 i, .float .f64 f, .string tx, .slice ab nb cb, .int .u64 rf, .slice al nl cl, .slice af nf cf, .string c, .int .i64 vr]) := fun W hW => rgterm_top xs hby a cap W hcp (hrd.same (Same.of_below hW (Nat.le_refl _)) (Lo.le hW.size)) hln
  have HRR : Hid (Sp.rdV xs 64 0 0 = .ok (t, p2) a2) := hr
  clear hr hby hcp hrd hln
  go_enter Try.func31, Try.ntmps31
  go_wp2_with fail
  refine (HT.out _ ((Below.refl _ _).alloc (Nat.le_refl _) _)).mono ?_
  rintro e w1 ⟨a3, p3, q, er, u, b, i, f, tx, ab, nb, cb, rf, al, nl, cl, af, nf, cf, c, vr, rfl, hb, hT⟩
  rcases hT with ⟨t', h1, rfl, rfl, h4, h5⟩ | ⟨_, h1⟩
  · rw [HRR.out] at h1
    injection h1 with e1 e2
    injection e1 with e1 e3
    subst e1 e2 e3
    have HIN : Hid (t.In w1 (Fr (w.alloc (.cells #[.int .i64 0, .bool false, .int .i64 0, .float .f64 0, .string ⟨#[]⟩, .slice none 0 0, .int .u64 0, .slice none 0 0, .slice none 0 0, .string ⟨#[]⟩, .int .i64 0] 29)) w1) #[.int .i64 u, .bool b, .int .i64 i, .float .f64 f, .string tx, .slice ab nb cb, .int .u64 rf, .slice al nl cl, .slice af nf cf, .string c, .int .i64 vr]) := h5
    have HB : Hid (Below (w.alloc (.cells #[.int .i64 0, .bool false, .int .i64 0, .float .f64 0, .string ⟨#[]⟩, .slice none 0 0, .int .u64 0, .slice none 0 0, .slice none 0 0, .string ⟨#[]⟩, .int .i64 0] 29)).heap.size (w.alloc (.cells #[.int .i64 0, .bool false, .int .i64 0, .float .f64 0, .string ⟨#[]⟩, .slice none 0 0, .int .u64 0, .slice none 0 0, .slice none 0 0, .string ⟨#[]⟩, .int .i64 0] 29)) w1) := hb
    have hrow : w1.heap[w.heap.size]? = some (.cells #[.int .i64 0, .bool false, .int .i64 0, .float .f64 0, .string ⟨#[]⟩, .slice none 0 0, .int .u64 0, .slice none 0 0, .slice none 0 0, .string ⟨#[]⟩, .int .i64 0] 29 (0, 0)) := by rw [hb.block _ (by simp)]; exact heap_alloc_new w _
    have HROW : Hid _ := hrow
    clear h4 h5 hb hrow
    obtain ⟨W2, HW2⟩ : ∃ W2, Hid (((w1.alloc (.cells #[.slice a xs.length cap, .int .i64 (a2 : Int), .int .i64 (p2 : Int), .int .i64 0, .int .i64 0] 98)).alloc (.cells #[.int .i64 u, .bool b, .int .i64 i, .float .f64 f, .string tx, .slice ab nb cb, .int .u64 rf, .slice al nl cl, .slice af nf cf, .string c, .int .i64 vr] 29)) = W2) := ⟨_, rfl⟩
    have hb2 : Below w1.heap.size w1 W2 := by rw [← HW2.out]; exact ((Below.refl _ _).alloc (Nat.le_refl _) _).alloc (by simp) _
    have hrb : W2.heap[w1.heap.size]? = some (.cells #[.slice a xs.length cap, .int .i64 (a2 : Int), .int .i64 (p2 : Int), .int .i64 0, .int .i64 0] 98 (0, 0)) := by
      rw [← HW2.out, Below.heap_alloc _ _ _ (by simp)]; exact heap_alloc_new w1 _
    have htb : W2.heap[w1.heap.size + 1]? = some (.cells #[.int .i64 u, .bool b, .int .i64 i, .float .f64 f, .string tx, .slice ab nb cb, .int .u64 rf, .slice al nl cl, .slice af nf cf, .string c, .int .i64 vr] 29 (0, 0)) := by
      have := heap_alloc_new (w1.alloc (.cells #[.slice a xs.length cap, .int .i64 (a2 : Int), .int .i64 (p2 : Int), .int .i64 0, .int .i64 0] 98)) (.cells #[.int .i64 u, .bool b, .int .i64 i, .float .f64 f, .string tx, .slice ab nb cb, .int .u64 rf, .slice al nl cl, .slice af nf cf, .string c, .int .i64 vr] 29)
      rw [HW2.out] at this; simpa using this
    have hlt := lt_row HROW.out
    have hres : W2.heap[w.heap.size]? = some (.cells #[.int .i64 0, .bool false, .int .i64 0, .float .f64 0, .string ⟨#[]⟩, .slice none 0 0, .int .u64 0, .slice none 0 0, .slice none 0 0, .string ⟨#[]⟩, .int .i64 0] 29 (0, 0)) := by rw [hb2.block _ hlt]; exact HROW.out
    obtain ⟨U1, U2, U3, U4, U5, U6, U7, U8, U9, U10, U11, m0, m1, m2, m3, m4, m5, m6, m7, m8, m9, m10, ⟨b0, g0⟩, ⟨b1, g1⟩, ⟨b2, g2⟩, ⟨b3, g3⟩, ⟨b4, g4⟩, ⟨b5, g5⟩, ⟨b6, g6⟩, ⟨b7, g7⟩, ⟨b8, g8⟩, ⟨b9, g9⟩, ⟨b10, g10⟩, hU⟩ := chain11 (w1 := W2.drew) hres (.int .i64 u) (.bool b) (.int .i64 i) (.float .f64 f) (.string tx) (.slice ab nb cb) (.int .u64 rf) (.slice al nl cl) (.slice af nf cf) (.string c) (.int .i64 vr)
    have hur := row11 (w1 := W2.drew) hres (.int .i64 u) (.bool b) (.int .i64 i) (.float .f64 f) (.string tx) (.slice ab nb cb) (.int .u64 rf) (.slice al nl cl) (.slice af nf cf) (.string c) (.int .i64 vr)
    rw [← hU] at hur
    have HS0 : Hid (W2.drew.cell? ⟨w1.heap.size, 1, none⟩ = some (.int .i64 (a2 : Int)) ∧ (W2.drew.cell? ⟨w1.heap.size + 1, 0, none⟩ = some (.int .i64 u) ∧ W2.drew.cell? ⟨w1.heap.size + 1, 1, none⟩ = some (.bool b) ∧ W2.drew.cell? ⟨w1.heap.size + 1, 2, none⟩ = some (.int .i64 i) ∧ W2.drew.cell? ⟨w1.heap.size + 1, 3, none⟩ = some (.float .f64 f) ∧ W2.drew.cell? ⟨w1.heap.size + 1, 4, none⟩ = some (.string tx) ∧ W2.drew.cell? ⟨w1.heap.size + 1, 5, none⟩ = some (.slice ab nb cb) ∧ W2.drew.cell? ⟨w1.heap.size + 1, 6, none⟩ = some (.int .u64 rf) ∧ W2.drew.cell? ⟨w1.heap.size + 1, 7, none⟩ = some (.slice al nl cl) ∧ W2.drew.cell? ⟨w1.heap.size + 1, 8, none⟩ = some (.slice af nf cf) ∧ W2.drew.cell? ⟨w1.heap.size + 1, 9, none⟩ = some (.string c) ∧ W2.drew.cell? ⟨w1.heap.size + 1, 10, none⟩ = some (.int .i64 vr))) := ⟨(own5 (w1 := W2.drew) hrb).1.2.1, own11 (w := W2.drew) htb⟩
    have HS1 : Hid (U11.cell? ⟨w1.heap.size, 1, none⟩ = some (.int .i64 (a2 : Int)) ∧ (U11.cell? ⟨w1.heap.size + 1, 0, none⟩ = some (.int .i64 u) ∧ U11.cell? ⟨w1.heap.size + 1, 1, none⟩ = some (.bool b) ∧ U11.cell? ⟨w1.heap.size + 1, 2, none⟩ = some (.int .i64 i) ∧ U11.cell? ⟨w1.heap.size + 1, 3, none⟩ = some (.float .f64 f) ∧ U11.cell? ⟨w1.heap.size + 1, 4, none⟩ = some (.string tx) ∧ U11.cell? ⟨w1.heap.size + 1, 5, none⟩ = some (.slice ab nb cb) ∧ U11.cell? ⟨w1.heap.size + 1, 6, none⟩ = some (.int .u64 rf) ∧ U11.cell? ⟨w1.heap.size + 1, 7, none⟩ = some (.slice al nl cl) ∧ U11.cell? ⟨w1.heap.size + 1, 8, none⟩ = some (.slice af nf cf) ∧ U11.cell? ⟨w1.heap.size + 1, 9, none⟩ = some (.string c) ∧ U11.cell? ⟨w1.heap.size + 1, 10, none⟩ = some (.int .i64 vr))) := by
      have h1 : U11.heap[w1.heap.size]? = some (.cells #[.slice a xs.length cap, .int .i64 (a2 : Int), .int .i64 (p2 : Int), .int .i64 0, .int .i64 0] 98 (0, 0)) := by rw [hU, setN_other (by omega)]; exact hrb
      have h2 : U11.heap[w1.heap.size + 1]? = some (.cells #[.int .i64 u, .bool b, .int .i64 i, .float .f64 f, .string tx, .slice ab nb cb, .int .u64 rf, .slice al nl cl, .slice af nf cf, .string c, .int .i64 vr] 29 (0, 0)) := by rw [hU, setN_other (by omega)]; exact htb
      exact ⟨(own5 h1).1.2.1, own11 h2⟩
    have HFIN : Hid (Below w.heap.size w U11 ∧ t.In U11 (Fr w U11) #[.int .i64 u, .bool b, .int .i64 i, .float .f64 f, .string tx, .slice ab nb cb, .int .u64 rf, .slice al nl cl, .slice af nf cf, .string c, .int .i64 vr]) := by
      have hbw : Below w.heap.size w w1 := ((Below.refl _ _).alloc (Nat.le_refl _) _).trans (HB.out.mono (by simp))
      have hs2 := hb2.size
      refine ⟨by rw [hU]; exact setN_below (Nat.le_refl _) _ _ _ _ ((hbw.trans (hb2.mono hbw.size)).drew), ?_⟩
      refine t.In_same (B := Fr (w.alloc (.cells #[.int .i64 0, .bool false, .int .i64 0, .float .f64 0, .string ⟨#[]⟩, .slice none 0 0, .int .u64 0, .slice none 0 0, .slice none 0 0, .string ⟨#[]⟩, .int .i64 0] 29)) w1) (fun k hk => ?_) (fun k hk => ?_) _ HIN.out
      · have h1 := hk.1; simp at h1
        rw [hU, setN_other (by omega)]; exact hb2.block k hk.2
      · have h1 := hk.1; have h2 := hk.2; simp at h1
        refine ⟨by omega, ?_⟩
        rw [hU, setN_size]
        show k < W2.heap.size
        omega
    obtain ⟨s0, s1, s2, s3, s4, s5, s6, s7, s8, s9, s10⟩ := own11 hur
    clear hrb htb hlt hres hU hur hb2
    go_wp2_with fail
    rw [HW2.out]
    go_region_held3 (fun W => W.cell? ⟨w1.heap.size, 1, none⟩ = some (.int .i64 (a2 : Int)) ∧ (W.cell? ⟨w1.heap.size + 1, 0, none⟩ = some (.int .i64 u) ∧ W.cell? ⟨w1.heap.size + 1, 1, none⟩ = some (.bool b) ∧ W.cell? ⟨w1.heap.size + 1, 2, none⟩ = some (.int .i64 i) ∧ W.cell? ⟨w1.heap.size + 1, 3, none⟩ = some (.float .f64 f) ∧ W.cell? ⟨w1.heap.size + 1, 4, none⟩ = some (.string tx) ∧ W.cell? ⟨w1.heap.size + 1, 5, none⟩ = some (.slice ab nb cb) ∧ W.cell? ⟨w1.heap.size + 1, 6, none⟩ = some (.int .u64 rf) ∧ W.cell? ⟨w1.heap.size + 1, 7, none⟩ = some (.slice al nl cl) ∧ W.cell? ⟨w1.heap.size + 1, 8, none⟩ = some (.slice af nf cf) ∧ W.cell? ⟨w1.heap.size + 1, 9, none⟩ = some (.string c) ∧ W.cell? ⟨w1.heap.size + 1, 10, none⟩ = some (.int .i64 vr)))
      (first | with_reducible exact HS0.out | with_reducible exact HS1.out)
      (fail)
    go_wp2_with fail
    exact bodyPost_ret (v := .tuple #[.agg #[.int .i64 u, .bool b, .int .i64 i, .float .f64 f, .string tx, .slice ab nb cb, .int .u64 rf, .slice al nl cl, .slice af nf cf, .string c, .int .i64 vr], .int .i64 (a2 : Int), .int .i64 0]) (by simp [results, Try.results31, go_sem, s0, s1, s2, s3, s4, s5, s6, s7, s8, s9, s10] <;> rfl) rfl ⟨u, b, i, f, tx, ab, nb, cb, rf, al, nl, cl, af, nf, cf, c, vr, rfl, HFIN.out.1, HFIN.out.2⟩
  · rw [HRR.out] at h1; cases h1
set_option maxRecDepth 100000 in
set_option maxHeartbeats 4000000 in
theorem refDecode_bad (xs : List Int) (hby : By xs) (q : Nat) (er : Int) (hr : Sp.rdV xs 64 0 0 = .bad q er) (a : Option Addr) (cap : Nat) (w : World) (hcp : xs.length ≤ cap) (hrd : RdB w (Lo w.heap.size) a xs) (hln : xs.length ≤ 281474976710656) :
    Calls Try.prog 31 #[.slice a xs.length cap] w fun e w' => e = .returned (.tuple #[.agg #[.int .i64 0, .bool false, .int .i64 0, .float .f64 0, .string ⟨#[]⟩, .slice none 0 0, .int .u64 0, .slice none 0 0, .slice none 0 0, .string ⟨#[]⟩, .int .i64 0], .int .i64 (q : Int), .int .i64 er]) ∧ Below w.heap.size w w' := by
  have HT : Hid (∀ W, Below w.heap.size w W → Calls Try.prog 55 #[.agg #[.slice a xs.length cap, .int .i64 0, .int .i64 0, .int .i64 0, .int .i64 0], .int .i64 1] W fun e w' => ∃ (a2 p2 q : Nat) (er : Int) (u : Int) (b : Bool) (i : Int) (f : Nat) (tx : ByteArray) (ab : Option Addr) (nb cb : Nat) (rf : Int) (al : Option Addr) (nl cl : Nat) (af : Option Addr) (nf cf : Nat) (c : ByteArray) (vr : Int), e = .returned (.tuple #[.agg #[.slice a xs.length cap, .int .i64 (a2 : Int), .int .i64 (p2 : Int), .int .i64 (q : Int), .int .i64 er], .agg #[.int .i64 u, .bool b, .int .i64 i, .float .f64 f, .string tx, .slice ab nb cb, .int .u64 rf, .slice al nl cl, .slice af nf cf, .string c, .int .i64 vr]]) ∧ Below W.heap.size W w' ∧ TR (Sp.rdV xs 64) xs.length 0 0 W w' a2 p2 q er #[.int .i64 u, .bool b, .int .i64 i, .float .f64 f, .string tx, .slice ab nb cb, .int .u64 rf, .slice al nl cl, .slice af nf cf, .string c, .int .i64 vr]) := fun W hW => rgterm_top xs hby a cap W hcp (hrd.same (Same.of_below hW (Nat.le_refl _)) (Lo.le hW.size)) hln
  have HRR : Hid (Sp.rdV xs 64 0 0 = .bad q er) := hr
  clear hr hby hcp hrd hln
  go_enter Try.func31, Try.ntmps31
  go_wp2_with fail
  refine (HT.out _ ((Below.refl _ _).alloc (Nat.le_refl _) _)).mono ?_
  rintro e w1 ⟨a3, p3, q', er', u, b, i, f, tx, ab, nb, cb, rf, al, nl, cl, af, nf, cf, c, vr, rfl, hb, hT⟩
  rcases hT with ⟨t', h1, _⟩ | ⟨her, h1⟩
  · rw [HRR.out] at h1; cases h1
  · rw [HRR.out] at h1
    injection h1 with e1 e2
    subst e1 e2
    have HB : Hid (Below (w.alloc (.cells #[.int .i64 0, .bool false, .int .i64 0, .float .f64 0, .string ⟨#[]⟩, .slice none 0 0, .int .u64 0, .slice none 0 0, .slice none 0 0, .string ⟨#[]⟩, .int .i64 0] 29)).heap.size (w.alloc (.cells #[.int .i64 0, .bool false, .int .i64 0, .float .f64 0, .string ⟨#[]⟩, .slice none 0 0, .int .u64 0, .slice none 0 0, .slice none 0 0, .string ⟨#[]⟩, .int .i64 0] 29)) w1) := hb
    have hrow : w1.heap[w.heap.size]? = some (.cells #[.int .i64 0, .bool false, .int .i64 0, .float .f64 0, .string ⟨#[]⟩, .slice none 0 0, .int .u64 0, .slice none 0 0, .slice none 0 0, .string ⟨#[]⟩, .int .i64 0] 29 (0, 0)) := by rw [hb.block _ (by simp)]; exact heap_alloc_new w _
    have HROW : Hid _ := hrow
    have he : (er != 0) = true := by simp [her]
    clear hb hrow her
    obtain ⟨W2, HW2⟩ : ∃ W2, Hid (((w1.alloc (.cells #[.slice a xs.length cap, .int .i64 (a3 : Int), .int .i64 (p3 : Int), .int .i64 (q : Int), .int .i64 er] 98)).alloc (.cells #[.int .i64 u, .bool b, .int .i64 i, .float .f64 f, .string tx, .slice ab nb cb, .int .u64 rf, .slice al nl cl, .slice af nf cf, .string c, .int .i64 vr] 29)) = W2) := ⟨_, rfl⟩
    have hb2 : Below w1.heap.size w1 W2 := by rw [← HW2.out]; exact ((Below.refl _ _).alloc (Nat.le_refl _) _).alloc (by simp) _
    have hrb : W2.heap[w1.heap.size]? = some (.cells #[.slice a xs.length cap, .int .i64 (a3 : Int), .int .i64 (p3 : Int), .int .i64 (q : Int), .int .i64 er] 98 (0, 0)) := by
      rw [← HW2.out, Below.heap_alloc _ _ _ (by simp)]; exact heap_alloc_new w1 _
    have hlt := lt_row HROW.out
    have hres : W2.heap[w.heap.size]? = some (.cells #[.int .i64 0, .bool false, .int .i64 0, .float .f64 0, .string ⟨#[]⟩, .slice none 0 0, .int .u64 0, .slice none 0 0, .slice none 0 0, .string ⟨#[]⟩, .int .i64 0] 29 (0, 0)) := by rw [hb2.block _ hlt]; exact HROW.out
    obtain ⟨U1, U2, U3, U4, U5, U6, U7, U8, U9, U10, U11, m0, m1, m2, m3, m4, m5, m6, m7, m8, m9, m10, ⟨b0, g0⟩, ⟨b1, g1⟩, ⟨b2, g2⟩, ⟨b3, g3⟩, ⟨b4, g4⟩, ⟨b5, g5⟩, ⟨b6, g6⟩, ⟨b7, g7⟩, ⟨b8, g8⟩, ⟨b9, g9⟩, ⟨b10, g10⟩, hU⟩ := chain11 (w1 := W2.drew) hres (.int .i64 0) (.bool false) (.int .i64 0) (.float .f64 0) (.string ⟨#[]⟩) (.slice none 0 0) (.int .u64 0) (.slice none 0 0) (.slice none 0 0) (.string ⟨#[]⟩) (.int .i64 0)
    have hur := row11 (w1 := W2.drew) hres (.int .i64 0) (.bool false) (.int .i64 0) (.float .f64 0) (.string ⟨#[]⟩) (.slice none 0 0) (.int .u64 0) (.slice none 0 0) (.slice none 0 0) (.string ⟨#[]⟩) (.int .i64 0)
    rw [← hU] at hur
    have HS0 : Hid (W2.drew.cell? ⟨w1.heap.size, 3, none⟩ = some (.int .i64 (q : Int)) ∧ W2.drew.cell? ⟨w1.heap.size, 4, none⟩ = some (.int .i64 er)) := ⟨(own5 (w1 := W2.drew) hrb).1.2.2.2.1, (own5 (w1 := W2.drew) hrb).1.2.2.2.2⟩
    have HS1 : Hid (U11.cell? ⟨w1.heap.size, 3, none⟩ = some (.int .i64 (q : Int)) ∧ U11.cell? ⟨w1.heap.size, 4, none⟩ = some (.int .i64 er)) := by
      have h1 : U11.heap[w1.heap.size]? = some (.cells #[.slice a xs.length cap, .int .i64 (a3 : Int), .int .i64 (p3 : Int), .int .i64 (q : Int), .int .i64 er] 98 (0, 0)) := by rw [hU, setN_other (by omega)]; exact hrb
      exact ⟨(own5 h1).1.2.2.2.1, (own5 h1).1.2.2.2.2⟩
    have HFIN : Hid (Below w.heap.size w U11) := by
      have hbw : Below w.heap.size w w1 := ((Below.refl _ _).alloc (Nat.le_refl _) _).trans (HB.out.mono (by simp))
      show Below _ _ _
      rw [hU]; exact setN_below (Nat.le_refl _) _ _ _ _ ((hbw.trans (hb2.mono hbw.size)).drew)
    obtain ⟨s0, s1, s2, s3, s4, s5, s6, s7, s8, s9, s10⟩ := own11 hur
    clear hrb hlt hres hU hur hb2
    go_wp2_with fail
    rw [HW2.out]
    go_region_held3 (fun W => W.cell? ⟨w1.heap.size, 3, none⟩ = some (.int .i64 (q : Int)) ∧ W.cell? ⟨w1.heap.size, 4, none⟩ = some (.int .i64 er))
      (first | with_reducible exact HS0.out | with_reducible exact HS1.out)
      (fail)
    go_wp2_with fail
    exact bodyPost_ret (v := .tuple #[.agg #[.int .i64 0, .bool false, .int .i64 0, .float .f64 0, .string ⟨#[]⟩, .slice none 0 0, .int .u64 0, .slice none 0 0, .slice none 0 0, .string ⟨#[]⟩, .int .i64 0], .int .i64 (q : Int), .int .i64 er]) (by simp [results, Try.results31, go_sem, s0, s1, s2, s3, s4, s5, s6, s7, s8, s9, s10] <;> rfl) rfl ⟨rfl, HFIN.out⟩
end Go.Proofs.Ytkomcebknllaiaa

/- The reader's value where nothing is wrong, kind by kind. -/
namespace Go.Proofs.Ytkomcebknllaiaa
open Go.RowKit

section
variable (d : Int) (b : Nat) (a : Option Addr) (xs : List Int) (cap at' p : Nat) (w : World) (h : Rdr w b a xs cap at' p) (hp : p < 16384) (hd : d ≤ 64)
include h hp hd
set_option maxRecDepth 100000 in
set_option maxHeartbeats 2000000 in
theorem dval_1 (hx : xs[at']? = some 1) : Calls Try.prog 98 #[.pointer (some ⟨b, 0, none⟩), .int .i64 d] w fun e w' => e = .returned (.tuple #[]) ∧ Rdr w' b a xs cap (at' + 1) (p + 1) ∧ But b w w' := by
  have HK : Hid (Calls Try.prog 117 #[.pointer (some ⟨b, 0, none⟩), .int .i64 d] w fun e w' => e = .returned (.int .u8 1) ∧ Rdr w' b a xs cap (at' + 1) (p + 1) ∧ But b w w') := kind_ok 1 d b a xs cap at' p w h hx hp hd
  obtain ⟨c0, c1, c2, f1, f2, rd, cp, ln, le, np⟩ := h
  clear rd hx
  go_enter Try.func98, Try.ntmps98
  go_wp2_with fail
  refine HK.out.mono ?_
  rintro e w1 ⟨rfl, hr1, hb1⟩
  have HR1 : Hid (Rdr w1 b a xs cap (at' + 1) (p + 1) ∧ But b w w1) := ⟨hr1, hb1⟩
  clear hr1 hb1 HK
  go_wp2_with fail
  go_end0
  exact ⟨rfl, HR1.out⟩
set_option maxRecDepth 100000 in
set_option maxHeartbeats 2000000 in
theorem dval_2 (hx : xs[at']? = some 2) (c : Int) (hc : xs[at' + 1]? = some c) (hc1 : c ≤ 1) : Calls Try.prog 98 #[.pointer (some ⟨b, 0, none⟩), .int .i64 d] w fun e w' => e = .returned (.tuple #[]) ∧ Rdr w' b a xs cap (at' + 2) (p + 1) ∧ But b w w' := by
  have HX : Hid (xs[at' + 1]? = some c) := hc
  have HK : Hid (Calls Try.prog 117 #[.pointer (some ⟨b, 0, none⟩), .int .i64 d] w fun e w' => e = .returned (.int .u8 2) ∧ Rdr w' b a xs cap (at' + 1) (p + 1) ∧ But b w w') := kind_ok 2 d b a xs cap at' p w h hx hp hd
  obtain ⟨c0, c1, c2, f1, f2, rd, cp, ln, le, np⟩ := h
  clear rd hx hc
  go_enter Try.func98, Try.ntmps98
  go_wp2_with fail
  refine HK.out.mono ?_
  rintro e w1 ⟨rfl, hr1, hb1⟩
  have HR1 : Hid (Rdr w1 b a xs cap (at' + 1) (p + 1) ∧ But b w w1) := ⟨hr1, hb1⟩
  clear hr1 hb1 HK
  go_wp2_with fail
  refine (rbool_ok c b a xs cap (at' + 1) (p + 1) w1 HR1.out.1 HX.out hc1).mono ?_
  rintro e w2 ⟨rfl, hr2, hb2⟩
  have HR2 : Hid (Rdr w2 b a xs cap (at' + 2) (p + 1) ∧ But b w1 w2) := ⟨hr2, hb2⟩
  clear hr2 hb2
  go_wp2_with fail
  go_end0
  exact ⟨rfl, HR2.out.1, HR1.out.2.trans HR2.out.2⟩
set_option maxRecDepth 100000 in
set_option maxHeartbeats 2000000 in
theorem dval_3 (hx : xs[at']? = some 3) (hby : By xs) (n a2 : Nat) (hn : Sp.rn xs (at' + 1) 10 0 0 = .ok n a2) : Calls Try.prog 98 #[.pointer (some ⟨b, 0, none⟩), .int .i64 d] w fun e w' => e = .returned (.tuple #[]) ∧ Rdr w' b a xs cap a2 (p + 1) ∧ But b w w' := by
  have HX : Hid (By xs ∧ Sp.rn xs (at' + 1) 10 0 0 = .ok n a2) := ⟨hby, hn⟩
  have HK : Hid (Calls Try.prog 117 #[.pointer (some ⟨b, 0, none⟩), .int .i64 d] w fun e w' => e = .returned (.int .u8 3) ∧ Rdr w' b a xs cap (at' + 1) (p + 1) ∧ But b w w') := kind_ok 3 d b a xs cap at' p w h hx hp hd
  obtain ⟨c0, c1, c2, f1, f2, rd, cp, ln, le, np⟩ := h
  clear rd hx hby hn
  go_enter Try.func98, Try.ntmps98
  go_wp2_with fail
  refine HK.out.mono ?_
  rintro e w1 ⟨rfl, hr1, hb1⟩
  have HR1 : Hid (Rdr w1 b a xs cap (at' + 1) (p + 1) ∧ But b w w1) := ⟨hr1, hb1⟩
  clear hr1 hb1 HK
  go_wp2_with fail
  refine (rnumber_ok n a2 b a xs cap (at' + 1) (p + 1) w1 HR1.out.1 HX.out.1 HX.out.2).mono ?_
  rintro e w2 ⟨rfl, hr2, hb2⟩
  have HR2 : Hid (Rdr w2 b a xs cap a2 (p + 1) ∧ But b w1 w2) := ⟨hr2, hb2⟩
  clear hr2 hb2
  go_wp2_with fail
  go_end0
  exact ⟨rfl, HR2.out.1, HR1.out.2.trans HR2.out.2⟩
set_option maxRecDepth 100000 in
set_option maxHeartbeats 2000000 in
theorem dval_7 (hx : xs[at']? = some 7) (hby : By xs) (n a2 : Nat) (hn : Sp.rn xs (at' + 1) 10 0 0 = .ok n a2) : Calls Try.prog 98 #[.pointer (some ⟨b, 0, none⟩), .int .i64 d] w fun e w' => e = .returned (.tuple #[]) ∧ Rdr w' b a xs cap a2 (p + 1) ∧ But b w w' := by
  have HX : Hid (By xs ∧ Sp.rn xs (at' + 1) 10 0 0 = .ok n a2) := ⟨hby, hn⟩
  have HK : Hid (Calls Try.prog 117 #[.pointer (some ⟨b, 0, none⟩), .int .i64 d] w fun e w' => e = .returned (.int .u8 7) ∧ Rdr w' b a xs cap (at' + 1) (p + 1) ∧ But b w w') := kind_ok 7 d b a xs cap at' p w h hx hp hd
  obtain ⟨c0, c1, c2, f1, f2, rd, cp, ln, le, np⟩ := h
  clear rd hx hby hn
  go_enter Try.func98, Try.ntmps98
  go_wp2_with fail
  refine HK.out.mono ?_
  rintro e w1 ⟨rfl, hr1, hb1⟩
  have HR1 : Hid (Rdr w1 b a xs cap (at' + 1) (p + 1) ∧ But b w w1) := ⟨hr1, hb1⟩
  clear hr1 hb1 HK
  go_wp2_with fail
  refine (rnumber_ok n a2 b a xs cap (at' + 1) (p + 1) w1 HR1.out.1 HX.out.1 HX.out.2).mono ?_
  rintro e w2 ⟨rfl, hr2, hb2⟩
  have HR2 : Hid (Rdr w2 b a xs cap a2 (p + 1) ∧ But b w1 w2) := ⟨hr2, hb2⟩
  clear hr2 hb2
  go_wp2_with fail
  go_end0
  exact ⟨rfl, HR2.out.1, HR1.out.2.trans HR2.out.2⟩
set_option maxRecDepth 100000 in
set_option maxHeartbeats 2000000 in
theorem dval_4 (hx : xs[at']? = some 4) (hl : at' + 1 + 8 ≤ xs.length) : Calls Try.prog 98 #[.pointer (some ⟨b, 0, none⟩), .int .i64 d] w fun e w' => e = .returned (.tuple #[]) ∧ Rdr w' b a xs cap (at' + 1 + 8) (p + 1) ∧ But b w w' := by
  have HX : Hid (at' + 1 + 8 ≤ xs.length) := hl
  have HK : Hid (Calls Try.prog 117 #[.pointer (some ⟨b, 0, none⟩), .int .i64 d] w fun e w' => e = .returned (.int .u8 4) ∧ Rdr w' b a xs cap (at' + 1) (p + 1) ∧ But b w w') := kind_ok 4 d b a xs cap at' p w h hx hp hd
  obtain ⟨c0, c1, c2, f1, f2, rd, cp, ln, le, np⟩ := h
  clear rd hx hl
  go_enter Try.func98, Try.ntmps98
  go_wp2_with fail
  refine HK.out.mono ?_
  rintro e w1 ⟨rfl, hr1, hb1⟩
  have HR1 : Hid (Rdr w1 b a xs cap (at' + 1) (p + 1) ∧ But b w w1) := ⟨hr1, hb1⟩
  clear hr1 hb1 HK
  go_wp2_with fail
  refine (take_ok 8 b a xs cap (at' + 1) (p + 1) w1 HR1.out.1 HX.out).mono ?_
  rintro e w2 ⟨_, _, rfl, _, hr2, hb2⟩
  have HR2 : Hid (Rdr w2 b a xs cap (at' + 1 + 8) (p + 1) ∧ But b w1 w2) := ⟨hr2, hb2⟩
  clear hr2 hb2
  go_wp2_with fail
  go_end0
  exact ⟨rfl, HR2.out.1, HR1.out.2.trans HR2.out.2⟩
set_option maxRecDepth 100000 in
set_option maxHeartbeats 2000000 in
theorem dval_5 (hx : xs[at']? = some 5) (hby : By xs) (n a2 : Nat) (hn : Sp.rn xs (at' + 1) 10 0 0 = .ok n a2) (hm : n ≤ 65536) (hl : a2 + n ≤ xs.length) : Calls Try.prog 98 #[.pointer (some ⟨b, 0, none⟩), .int .i64 d] w fun e w' => e = .returned (.tuple #[]) ∧ Rdr w' b a xs cap (a2 + n) (p + 1) ∧ But b w w' := by
  have HX : Hid (By xs ∧ Sp.rn xs (at' + 1) 10 0 0 = .ok n a2 ∧ n ≤ 65536 ∧ a2 + n ≤ xs.length) := ⟨hby, hn, hm, hl⟩
  have HK : Hid (Calls Try.prog 117 #[.pointer (some ⟨b, 0, none⟩), .int .i64 d] w fun e w' => e = .returned (.int .u8 5) ∧ Rdr w' b a xs cap (at' + 1) (p + 1) ∧ But b w w') := kind_ok 5 d b a xs cap at' p w h hx hp hd
  obtain ⟨c0, c1, c2, f1, f2, rd, cp, ln, le, np⟩ := h
  clear rd hx hby hn hl
  go_enter Try.func98, Try.ntmps98
  go_wp2_with fail
  refine HK.out.mono ?_
  rintro e w1 ⟨rfl, hr1, hb1⟩
  have HR1 : Hid (Rdr w1 b a xs cap (at' + 1) (p + 1) ∧ But b w w1) := ⟨hr1, hb1⟩
  clear hr1 hb1 HK
  go_wp2_with fail
  refine (count_ok n a2 at' 65536 b a xs cap (at' + 1) (p + 1) w1 HR1.out.1 HX.out.1 HX.out.2.1 HX.out.2.2.1 (by decide)).mono ?_
  rintro e w3 ⟨rfl, hr3, hb3⟩
  have HR3 : Hid (Rdr w3 b a xs cap a2 (p + 1) ∧ But b w1 w3) := ⟨hr3, hb3⟩
  clear hr3 hb3
  go_wp2_with fail
  refine (take_ok n b a xs cap a2 (p + 1) w3 HR3.out.1 HX.out.2.2.2).mono ?_
  rintro e w2 ⟨_, _, rfl, _, hr2, hb2⟩
  have HR2 : Hid (Rdr w2 b a xs cap (a2 + n) (p + 1) ∧ But b w3 w2) := ⟨hr2, hb2⟩
  clear hr2 hb2
  go_wp2_with fail
  go_end0
  exact ⟨rfl, HR2.out.1, HR1.out.2.trans (HR3.out.2.trans HR2.out.2)⟩
set_option maxRecDepth 100000 in
set_option maxHeartbeats 2000000 in
theorem dval_6 (hx : xs[at']? = some 6) (hby : By xs) (n a2 : Nat) (hn : Sp.rn xs (at' + 1) 10 0 0 = .ok n a2) (hm : n ≤ 65536) (hl : a2 + n ≤ xs.length) : Calls Try.prog 98 #[.pointer (some ⟨b, 0, none⟩), .int .i64 d] w fun e w' => e = .returned (.tuple #[]) ∧ Rdr w' b a xs cap (a2 + n) (p + 1) ∧ But b w w' := by
  have HX : Hid (By xs ∧ Sp.rn xs (at' + 1) 10 0 0 = .ok n a2 ∧ n ≤ 65536 ∧ a2 + n ≤ xs.length) := ⟨hby, hn, hm, hl⟩
  have HK : Hid (Calls Try.prog 117 #[.pointer (some ⟨b, 0, none⟩), .int .i64 d] w fun e w' => e = .returned (.int .u8 6) ∧ Rdr w' b a xs cap (at' + 1) (p + 1) ∧ But b w w') := kind_ok 6 d b a xs cap at' p w h hx hp hd
  obtain ⟨c0, c1, c2, f1, f2, rd, cp, ln, le, np⟩ := h
  clear rd hx hby hn hl
  go_enter Try.func98, Try.ntmps98
  go_wp2_with fail
  refine HK.out.mono ?_
  rintro e w1 ⟨rfl, hr1, hb1⟩
  have HR1 : Hid (Rdr w1 b a xs cap (at' + 1) (p + 1) ∧ But b w w1) := ⟨hr1, hb1⟩
  clear hr1 hb1 HK
  go_wp2_with fail
  refine (count_ok n a2 at' 65536 b a xs cap (at' + 1) (p + 1) w1 HR1.out.1 HX.out.1 HX.out.2.1 HX.out.2.2.1 (by decide)).mono ?_
  rintro e w3 ⟨rfl, hr3, hb3⟩
  have HR3 : Hid (Rdr w3 b a xs cap a2 (p + 1) ∧ But b w1 w3) := ⟨hr3, hb3⟩
  clear hr3 hb3
  go_wp2_with fail
  refine (take_ok n b a xs cap a2 (p + 1) w3 HR3.out.1 HX.out.2.2.2).mono ?_
  rintro e w2 ⟨_, _, rfl, _, hr2, hb2⟩
  have HR2 : Hid (Rdr w2 b a xs cap (a2 + n) (p + 1) ∧ But b w3 w2) := ⟨hr2, hb2⟩
  clear hr2 hb2
  go_wp2_with fail
  go_end0
  exact ⟨rfl, HR2.out.1, HR1.out.2.trans (HR3.out.2.trans HR2.out.2)⟩
set_option maxRecDepth 100000 in
set_option maxHeartbeats 2000000 in
theorem dval_9 (hx : xs[at']? = some 9) (hby : By xs) (f : Nat) (HC : VC xs f) (hdf : d + 1 = 65 - (f : Int)) (hf : f ≤ 64) (L : TmF) (p2 a2 : Nat) (hr : Sp.rdD xs at' (Sp.rdV xs f) (at' + 1) (p + 1) = .ok (L, p2) a2) : Calls Try.prog 98 #[.pointer (some ⟨b, 0, none⟩), .int .i64 d] w fun e w' => e = .returned (.tuple #[]) ∧ Rdr w' b a xs cap a2 p2 ∧ But b w w' := by
  have HX : Hid (By xs ∧ VC xs f ∧ Sp.rdD xs at' (Sp.rdV xs f) (at' + 1) (p + 1) = .ok (L, p2) a2) := ⟨hby, HC, hr⟩
  have HK : Hid (Calls Try.prog 117 #[.pointer (some ⟨b, 0, none⟩), .int .i64 d] w fun e w' => e = .returned (.int .u8 9) ∧ Rdr w' b a xs cap (at' + 1) (p + 1) ∧ But b w w') := kind_ok 9 d b a xs cap at' p w h hx hp hd
  obtain ⟨c0, c1, c2, f1, f2, rd, cp, ln, le, np⟩ := h
  clear rd hx hby HC hr
  go_enter Try.func98, Try.ntmps98
  go_wp2_with fail
  refine HK.out.mono ?_
  rintro e w1 ⟨rfl, hr1, hb1⟩
  have HR1 : Hid (Rdr w1 b a xs cap (at' + 1) (p + 1) ∧ But b w w1) := ⟨hr1, hb1⟩
  clear hr1 hb1 HK
  go_wp2_with fail
  refine (dfields_ok f xs HX.out.1 HX.out.2.1 at' d hdf hf b a cap (at' + 1) (p + 1) L p2 a2 w1 HR1.out.1 HX.out.2.2).mono ?_
  rintro e w2 ⟨rfl, hr2, hb2⟩
  have HR2 : Hid (Rdr w2 b a xs cap a2 p2 ∧ But b w1 w2) := ⟨hr2, hb2⟩
  clear hr2 hb2
  go_wp2_with fail
  go_end0
  exact ⟨rfl, HR2.out.1, HR1.out.2.trans HR2.out.2⟩
set_option maxRecDepth 100000 in
set_option maxHeartbeats 2000000 in
theorem dval_10 (hx : xs[at']? = some 10) (hby : By xs) (f : Nat) (HC : VC xs f) (hdf : d + 1 = 65 - (f : Int)) (hf : f ≤ 64) (L : TmF) (p2 a2 : Nat) (n a3 v a4 : Nat) (hn : Sp.rn xs (at' + 1) 10 0 0 = .ok n a3) (hn32 : n ≤ 32) (hl : a3 + n ≤ xs.length) (hnm : Sp.isNm (Sp.txt ((xs.drop a3).take n)) = true) (hv : Sp.rn xs (a3 + n) 10 0 0 = .ok v a4) (hv1 : 1 ≤ v ∧ v ≤ 1000) (hr : Sp.rdD xs at' (Sp.rdV xs f) a4 (p + 1) = .ok (L, p2) a2) : Calls Try.prog 98 #[.pointer (some ⟨b, 0, none⟩), .int .i64 d] w fun e w' => e = .returned (.tuple #[]) ∧ Rdr w' b a xs cap a2 p2 ∧ But b w w' := by
  have HX : Hid (By xs ∧ VC xs f ∧ Sp.rdD xs at' (Sp.rdV xs f) a4 (p + 1) = .ok (L, p2) a2) := ⟨hby, HC, hr⟩
  have HY : Hid (Sp.rn xs (at' + 1) 10 0 0 = .ok n a3 ∧ a3 + n ≤ xs.length ∧ Sp.isNm (Sp.txt ((xs.drop a3).take n)) = true ∧ Sp.rn xs (a3 + n) 10 0 0 = .ok v a4) := ⟨hn, hl, hnm, hv⟩
  have HK : Hid (Calls Try.prog 117 #[.pointer (some ⟨b, 0, none⟩), .int .i64 d] w fun e w' => e = .returned (.int .u8 10) ∧ Rdr w' b a xs cap (at' + 1) (p + 1) ∧ But b w w') := kind_ok 10 d b a xs cap at' p w h hx hp hd
  obtain ⟨c0, c1, c2, f1, f2, rd, cp, ln, le, np⟩ := h
  clear rd hx hby HC hr hn hl hnm hv
  go_enter Try.func98, Try.ntmps98
  go_wp2_with fail
  refine HK.out.mono ?_
  rintro e w1 ⟨rfl, hr1, hb1⟩
  have HR1 : Hid (Rdr w1 b a xs cap (at' + 1) (p + 1) ∧ But b w w1) := ⟨hr1, hb1⟩
  clear hr1 hb1 HK
  go_wp2_with fail
  refine (rname_ok n a3 at' b a xs cap (at' + 1) (p + 1) w1 HR1.out.1 HX.out.1 HY.out.1 hn32 HY.out.2.1 HY.out.2.2.1).mono ?_
  rintro e w3 ⟨_, _, rfl, _, hr3, hb3⟩
  have HR3 : Hid (Rdr w3 b a xs cap (a3 + n) (p + 1) ∧ But b w1 w3) := ⟨hr3, hb3⟩
  clear hr3 hb3
  go_wp2_with fail
  refine (version_ok v a4 at' b a xs cap (a3 + n) (p + 1) w3 HR3.out.1 HX.out.1 HY.out.2.2.2 hv1).mono ?_
  rintro e w4 ⟨rfl, hr4, hb4⟩
  have HR4 : Hid (Rdr w4 b a xs cap a4 (p + 1) ∧ But b w3 w4) := ⟨hr4, hb4⟩
  clear hr4 hb4
  go_wp2_with fail
  refine (dfields_ok f xs HX.out.1 HX.out.2.1 at' d hdf hf b a cap a4 (p + 1) L p2 a2 w4 HR4.out.1 HX.out.2.2).mono ?_
  rintro e w2 ⟨rfl, hr2, hb2⟩
  have HR2 : Hid (Rdr w2 b a xs cap a2 p2 ∧ But b w4 w2) := ⟨hr2, hb2⟩
  clear hr2 hb2
  go_wp2_with fail
  go_end0
  exact ⟨rfl, HR2.out.1, HR1.out.2.trans (HR3.out.2.trans (HR4.out.2.trans HR2.out.2))⟩
end
end Go.Proofs.Ytkomcebknllaiaa

/- The reader's value: a list; and all kinds, where nothing is wrong. -/
namespace Go.Proofs.Ytkomcebknllaiaa
open Go.RowKit

section
variable (d : Int) (b : Nat) (a : Option Addr) (xs : List Int) (cap at' p : Nat) (w : World) (h : Rdr w b a xs cap at' p) (hp : p < 16384) (hd : d ≤ 64)
include h hp hd
set_option maxRecDepth 100000 in
set_option maxHeartbeats 2000000 in
theorem dval_8 (hx : xs[at']? = some 8) (hby : By xs) (f : Nat) (HC : VC xs f) (hdf : d + 1 = 65 - (f : Int)) (hf : f ≤ 64) (L : TmL) (p2 a2 n a1 : Nat) (hn : Sp.rn xs (at' + 1) 10 0 0 = .ok n a1) (hn4 : n ≤ 4096) (hr : Sp.rdL (Sp.rdV xs f) n a1 (p + 1) = .ok (L, p2) a2) : Calls Try.prog 98 #[.pointer (some ⟨b, 0, none⟩), .int .i64 d] w fun e w' => e = .returned (.tuple #[]) ∧ Rdr w' b a xs cap a2 p2 ∧ But b w w' := by
  have HX : Hid (By xs ∧ VC xs f ∧ Sp.rn xs (at' + 1) 10 0 0 = .ok n a1 ∧ n ≤ 4096) := ⟨hby, HC, hn, hn4⟩
  have HR : Hid (Sp.rdL (Sp.rdV xs f) n a1 (p + 1) = .ok (L, p2) a2) := hr
  have hwd : IntKind.i64.wrap (d + 1) = d + 1 := Go.wrap_small _ (by omega) (by omega)
  have HK : Hid (Calls Try.prog 117 #[.pointer (some ⟨b, 0, none⟩), .int .i64 d] w fun e w' => e = .returned (.int .u8 8) ∧ Rdr w' b a xs cap (at' + 1) (p + 1) ∧ But b w w') := kind_ok 8 d b a xs cap at' p w h hx hp hd
  obtain ⟨c0, c1, c2, f1, f2, rd, cp, ln, le, np⟩ := h
  clear rd hx hby HC hr hn
  go_enter Try.func98, Try.ntmps98
  go_wp2_with fail
  refine HK.out.mono ?_
  rintro e w1 ⟨rfl, hr1, hb1⟩
  have HR1 : Hid (Rdr w1 b a xs cap (at' + 1) (p + 1) ∧ But b w w1) := ⟨hr1, hb1⟩
  clear hr1 hb1 HK
  go_wp2_with fail
  refine (count_ok n a1 at' 4096 b a xs cap (at' + 1) (p + 1) w1 HR1.out.1 HX.out.1 HX.out.2.2.1 HX.out.2.2.2 (by decide)).mono ?_
  rintro e w2 ⟨rfl, hr2, hb2⟩
  have HR2 : Hid (Rdr w2 b a xs cap a1 (p + 1) ∧ But b w w2) := ⟨hr2, HR1.out.2.trans hb2⟩
  clear hr2 hb2
  go_wp2_with fail
  go_loopw [43] (fun x wr => ∃ (k j pp aa : Nat) (l : TmL), x = .int .i64 (k : Int) ∧ k + j = n ∧ Hid (Sp.rdL (Sp.rdV xs f) j aa pp = .ok (l, p2) a2 ∧ Rdr wr b a xs cap aa pp ∧ But b w wr)) (fun x _ => n - (intOf x).toNat)
  case atStart => exact ⟨0, n, p + 1, a1, L, rfl, by omega, HR.out, HR2.out⟩
  case round =>
    obtain ⟨k, j, pp, aa, l, rfl, hkj, HI⟩ := hrel
    clear HR HR1 HR2
    cases j with
    | zero =>
      have h1 : ¬ ((k : Int) < (n : Int)) := by omega
      obtain ⟨hrf, hrd, hbl⟩ := HI.out
      rw [Sp.rdL] at hrf
      injection hrf with e1 e2
      injection e1 with e3 e4
      subst e4
      subst e2
      have HF : Hid (Rdr wr b a xs cap aa pp ∧ But b w wr) := ⟨hrd, hbl⟩
      clear hrd hbl HI
      go_wp2_with fail
      go_end0
      exact ⟨rfl, HF.out⟩
    | succ j =>
      have h1 : (k : Int) < (n : Int) := by omega
      obtain ⟨hrf, hrd, hbl⟩ := HI.out
      rw [Sp.rdL] at hrf
      cases hv : Sp.rdV xs f aa pp with
      | bad q e => rw [hv] at hrf; simp at hrf
      | ok tp av =>
        obtain ⟨t, p1⟩ := tp
        rw [hv] at hrf
        simp only at hrf
        cases hq : Sp.rdL (Sp.rdV xs f) j av p1 with
        | bad q e => rw [hq] at hrf; simp at hrf
        | ok lp a3 =>
          obtain ⟨l3, p3⟩ := lp
          rw [hq] at hrf
          simp only at hrf
          injection hrf with e1 e2
          injection e1 with e3 e4
          subst e4
          subst e2
          have HVV : Hid (Sp.rdV xs f aa pp = .ok (t, p1) av) := hv
          have HQ : Hid (Sp.rdL (Sp.rdV xs f) j av p1 = .ok (l3, p3) a3) := hq
          have HBL : Hid (Rdr wr b a xs cap aa pp ∧ But b w wr) := ⟨hrd, hbl⟩
          clear hrd hbl HI hv hq
          go_wp2_with fail
          refine (HX.out.2.1 b a cap aa pp t p1 av wr _ (by omega) HBL.out.1 HVV.out).mono ?_
          rintro e w4 ⟨rfl, hr4, hb4⟩
          have HR4 : Hid (Rdr w4 b a xs cap av p1 ∧ But b wr w4) := ⟨hr4, hb4⟩
          clear hr4 hb4
          go_wp2_with fail
          go_roundw
          case rel => exact ⟨k + 1, j, p1, av, l3, by go_num, by omega, HQ.out, HR4.out.1, HBL.out.2.trans HR4.out.2⟩
          case measure => simp [intOf]; omega
end

theorem value_ok (xs : List Int) (hby : By xs) : ∀ f, f ≤ 64 → VC xs f
  | 0, _ => fun b a cap at' p t p2 a2 w d hd h hr => by
    rw [Sp.rdV] at hr
    split at hr <;> simp at hr
  | f + 1, hf => fun b a cap at' p t p2 a2 w d hd h hr => by
    have HC := value_ok xs hby f (by omega)
    rw [Sp.rdV] at hr
    cases hx : xs[at']? with
    | none => rw [hx] at hr; simp at hr
    | some k =>
      rw [hx] at hr
      simp only at hr
      by_cases hp : 16384 ≤ p
      · rw [if_pos hp] at hr; simp at hr
      · rw [if_neg hp] at hr
        have hp : p < 16384 := by omega
        have hd4 : d ≤ 64 := by omega
        have hdf : d + 1 = 65 - (f : Int) := by omega
        unfold Sp.rdB at hr
        split at hr
        · rename_i hk; subst hk
          injection hr with e1 e2; injection e1 with e3 e4; subst e2; subst e4
          exact dval_1 d b a xs cap at' p w h hp hd4 hx
        split at hr
        · rename_i hk; subst hk
          cases hc : xs[at' + 1]? with
          | none => rw [hc] at hr; simp at hr
          | some c =>
            rw [hc] at hr
            simp only at hr
            split at hr
            · simp at hr
            · rename_i hc1
              injection hr with e1 e2; injection e1 with e3 e4; subst e2; subst e4
              exact dval_2 d b a xs cap at' p w h hp hd4 hx c hc (by omega)
        split at hr
        · rename_i hk; subst hk
          cases hn : Sp.rn xs (at' + 1) 10 0 0 with
          | bad q e => rw [hn] at hr; simp at hr
          | ok n a' =>
            rw [hn] at hr
            injection hr with e1 e2; injection e1 with e3 e4; subst e2; subst e4
            exact dval_3 d b a xs cap at' p w h hp hd4 hx hby n _ hn
        split at hr
        · rename_i hk; subst hk
          unfold Sp.tk at hr
          by_cases hl : at' + 1 + 8 ≤ xs.length
          · rw [if_pos hl] at hr
            injection hr with e1 e2; injection e1 with e3 e4; subst e2; subst e4
            exact dval_4 d b a xs cap at' p w h hp hd4 hx hl
          · rw [if_neg hl] at hr; simp at hr
        split at hr
        · rename_i hk
          cases hn : Sp.cnt xs (at' + 1) at' 65536 with
          | bad q e => rw [hn] at hr; simp at hr
          | ok n a' =>
            obtain ⟨hrn, hn4⟩ := cnt_ok hn
            rw [hn] at hr
            simp only at hr
            unfold Sp.tk at hr
            by_cases hl : a' + n ≤ xs.length
            · rw [if_pos hl] at hr
              injection hr with e1 e2; injection e1 with e3 e4; subst e2; subst e4
              rcases hk with rfl | rfl
              · exact dval_5 d b a xs cap at' p w h hp hd4 hx hby n a' hrn hn4 hl
              · exact dval_6 d b a xs cap at' p w h hp hd4 hx hby n a' hrn hn4 hl
            · rw [if_neg hl] at hr; simp at hr
        split at hr
        · rename_i hk; subst hk
          cases hn : Sp.rn xs (at' + 1) 10 0 0 with
          | bad q e => rw [hn] at hr; simp at hr
          | ok n a' =>
            rw [hn] at hr
            injection hr with e1 e2; injection e1 with e3 e4; subst e2; subst e4
            exact dval_7 d b a xs cap at' p w h hp hd4 hx hby n _ hn
        split at hr
        · rename_i hk; subst hk
          cases hn : Sp.cnt xs (at' + 1) at' 4096 with
          | bad q e => rw [hn] at hr; simp at hr
          | ok n a' =>
            obtain ⟨hrn, hn4⟩ := cnt_ok hn
            rw [hn] at hr
            simp only at hr
            cases hL : Sp.rdL (Sp.rdV xs f) n a' (p + 1) with
            | bad q e => rw [hL] at hr; simp at hr
            | ok lp a3 =>
              obtain ⟨l, p3⟩ := lp
              rw [hL] at hr
              injection hr with e1 e2; injection e1 with e3 e4; subst e2; subst e4
              exact dval_8 d b a xs cap at' p w h hp hd4 hx hby f HC hdf (by omega) l _ _ n a' hrn hn4 hL
        split at hr
        · rename_i hk; subst hk
          cases hL : Sp.rdD xs at' (Sp.rdV xs f) (at' + 1) (p + 1) with
          | bad q e => rw [hL] at hr; simp at hr
          | ok lp a3 =>
            obtain ⟨l, p3⟩ := lp
            rw [hL] at hr
            injection hr with e1 e2; injection e1 with e3 e4; subst e2; subst e4
            exact dval_9 d b a xs cap at' p w h hp hd4 hx hby f HC hdf (by omega) l _ _ hL
        split at hr
        · rename_i hk; subst hk
          cases hN : Sp.rdN xs (at' + 1) at' with
          | bad q e => rw [hN] at hr; simp at hr
          | ok c a' =>
            obtain ⟨nn, an, hrn, hn32, hle, rfl, rfl, hnm⟩ := rdN_ok hN
            rw [hN] at hr
            simp only at hr
            cases hv : Sp.rn xs (an + nn) 10 0 0 with
            | bad q e => rw [hv] at hr; simp at hr
            | ok v a4 =>
              rw [hv] at hr
              simp only at hr
              split at hr
              · simp at hr
              · rename_i hv1
                cases hL : Sp.rdD xs at' (Sp.rdV xs f) a4 (p + 1) with
                | bad q e => rw [hL] at hr; simp at hr
                | ok lp a3 =>
                  obtain ⟨l, p3⟩ := lp
                  rw [hL] at hr
                  injection hr with e1 e2; injection e1 with e3 e4; subst e2; subst e4
                  exact dval_10 d b a xs cap at' p w h hp hd4 hx hby f HC hdf (by omega) l _ _ nn an v a4 hrn hn32 hle hnm hv (by omega) hL
        · simp at hr
end Go.Proofs.Ytkomcebknllaiaa

/- wire.look's deferred closure: a reader that gave up is caught. -/
namespace Go.Proofs.Ytkomcebknllaiaa
open Go.RowKit

theorem cell_off {w : World} {g o b i : Nat} (h : b ≠ g) (v : Value) : (w.setCell ⟨g, o, none⟩ v).cell? ⟨b, i, none⟩ = w.cell? ⟨b, i, none⟩ := World.cell?_setCell_other _ _ _ _ (by intro e; injection e with e1 _; exact h e1.symm)

set_option maxRecDepth 100000 in
set_option maxHeartbeats 1000000 in
theorem catch_idle (pa pw : Addr) (w : World) :
    CallsD Try.prog 97 #[.pointer (some pa), .pointer (some pw)] .returning w fun e u' w' => e = .returned (.tuple #[]) ∧ u' = .returning ∧ w' = w := by
  refine callsD_of_wpS Try.func97 rfl fun c₀ cs hu => ?_
  apply wpS_seq
  apply wpS_region
  simp [wpOpsS, go_sem, recoverD, hu, Try.ntmps97, Exit.thenS]
  refine wpS_of_wp ?_
  go_wp2_with fail
  cases c₀
  simp_all [bodyPostS, results, Try.results97]

set_option maxRecDepth 100000 in
set_option maxHeartbeats 1000000 in
theorem catch_fault (ga gw : Nat) (x y q e0 : Int) (older : List PanicEntry) (w : World) (hga : w.cell? ⟨ga, 0, none⟩ = some (.int .i64 x)) (hgw : w.cell? ⟨gw, 0, none⟩ = some (.int .i64 y)) (hfa : w.frozen? ⟨ga, 0, none⟩ = false) (hfw : w.frozen? ⟨gw, 0, none⟩ = false) (hne : ga ≠ gw) :
    CallsD Try.prog 97 #[.pointer (some ⟨ga, 0, none⟩), .pointer (some ⟨gw, 0, none⟩)] (.panicking ({ v := .iface 148 (.agg #[.int .i64 q, .int .i64 e0]), recovered := false } :: older)) w fun e u' w' => e = .returned (.tuple #[]) ∧ u' = .panicking ({ v := .iface 148 (.agg #[.int .i64 q, .int .i64 e0]), recovered := true } :: older) ∧ w'.cell? ⟨ga, 0, none⟩ = some (.int .i64 q) ∧ w'.cell? ⟨gw, 0, none⟩ = some (.int .i64 e0) ∧ (∀ B, B ≤ ga → B ≤ gw → Below B w w') := by
  refine callsD_of_wpS Try.func97 rfl fun c₀ cs hu => ?_
  apply wpS_seq
  apply wpS_region
  simp [wpOpsS, go_sem, recoverD, hu, Try.ntmps97, Exit.thenS]
  refine wpS_of_wp ?_
  simp [Array.replicate, List.replicate]
  have hta : ∀ W, Sem.run Try.prog (Instr.typeAssert (Value.iface 148 (Value.agg #[Value.int IntKind.i64 q, Value.int IntKind.i64 e0])) 20 148 true) W = .ok (.tuple #[.agg #[.int .i64 q, .int .i64 e0], .bool true]) W := fun W => by kernel_rfl
  have hla : ga < w.heap.size := World.block_lt_of_cell? _ _ hga
  have hlw : gw < w.heap.size := World.block_lt_of_cell? _ _ hgw
  go_wp2_with fail
  have HB0 : Hid (Below w.heap.size w (w.alloc (Obj.cells #[Value.int IntKind.i64 q, Value.int IntKind.i64 e0] 148))) := (Below.refl _ _).alloc (Nat.le_refl _) _
  have d0 : (w.alloc (Obj.cells #[Value.int IntKind.i64 q, Value.int IntKind.i64 e0] 148)).cell? ⟨w.heap.size, 0, none⟩ = some (.int .i64 q) := by simp
  have d1 : (w.alloc (Obj.cells #[Value.int IntKind.i64 q, Value.int IntKind.i64 e0] 148)).cell? ⟨w.heap.size, 1, none⟩ = some (.int .i64 e0) := by simp
  generalize w.alloc (Obj.cells #[Value.int IntKind.i64 q, Value.int IntKind.i64 e0] 148) = W0 at HB0 d0 d1 ⊢
  have da : W0.cell? ⟨ga, 0, none⟩ = some (.int .i64 x) := by rw [HB0.out.cell (p := ⟨ga, 0, none⟩) hla]; exact hga
  have dw : W0.cell? ⟨gw, 0, none⟩ = some (.int .i64 y) := by rw [HB0.out.cell (p := ⟨gw, 0, none⟩) hlw]; exact hgw
  have fa : W0.frozen? ⟨ga, 0, none⟩ = false := by rw [World.frozen?_of_block (w := w) (HB0.out.block ga hla)]; exact hfa
  have fw : W0.frozen? ⟨gw, 0, none⟩ = false := by rw [World.frozen?_of_block (w := w) (HB0.out.block gw hlw)]; exact hfw
  have hna : w.heap.size ≠ ga := by omega
  have hnw : w.heap.size ≠ gw := by omega
  have HX : Hid (∀ W : World, W.heap[w.heap.size]? = W0.heap[w.heap.size]? → W.cell? ⟨w.heap.size, 0, none⟩ = some (.int .i64 q) ∧ W.cell? ⟨w.heap.size, 1, none⟩ = some (.int .i64 e0)) := fun W hW => ⟨by rw [World.cell?_of_block (w := W0) (a := ⟨w.heap.size, 0, none⟩) hW]; exact d0, by rw [World.cell?_of_block (w := W0) (a := ⟨w.heap.size, 1, none⟩) hW]; exact d1⟩
  have HA : Hid (∀ v, (W0.setCell ⟨ga, 0, none⟩ v).heap[w.heap.size]? = W0.heap[w.heap.size]?) := fun v => Below.heap_setCell W0 ⟨ga, 0, none⟩ v _ hna
  have HW : Hid (∀ (W : World) v, (W.setCell ⟨gw, 0, none⟩ v).heap[w.heap.size]? = W.heap[w.heap.size]?) := fun W v => Below.heap_setCell W ⟨gw, 0, none⟩ v _ hnw
  go_region_held3 (fun W => W.cell? ⟨w.heap.size, 0, none⟩ = some (.int .i64 q) ∧ W.cell? ⟨w.heap.size, 1, none⟩ = some (.int .i64 e0))
    (first | exact HX.out _ rfl | exact HX.out _ (HA.out _) | exact HX.out _ ((HW.out _ _).trans (HA.out _)))
    (fail)
  have R : Hid ((((W0.setCell ⟨ga, 0, none⟩ (.int .i64 q)).setCell ⟨gw, 0, none⟩ (.int .i64 e0)).drew).cell? ⟨ga, 0, none⟩ = some (.int .i64 q) ∧ (((W0.setCell ⟨ga, 0, none⟩ (.int .i64 q)).setCell ⟨gw, 0, none⟩ (.int .i64 e0)).drew).cell? ⟨gw, 0, none⟩ = some (.int .i64 e0) ∧ ∀ B, B ≤ ga → B ≤ gw → Below B w (((W0.setCell ⟨ga, 0, none⟩ (.int .i64 q)).setCell ⟨gw, 0, none⟩ (.int .i64 e0)).drew)) := by
    refine ⟨?_, ?_, fun B h1 h2 => ((((HB0.out.mono (by omega)).setCell (p := ⟨ga, 0, none⟩) h1 _).setCell (p := ⟨gw, 0, none⟩) h2 _)).drew⟩
    · show ((W0.setCell ⟨ga, 0, none⟩ (.int .i64 q)).setCell ⟨gw, 0, none⟩ (.int .i64 e0)).cell? ⟨ga, 0, none⟩ = _
      rw [cell_off hne]; exact sc_eq da
    · show ((W0.setCell ⟨ga, 0, none⟩ (.int .i64 q)).setCell ⟨gw, 0, none⟩ (.int .i64 e0)).cell? ⟨gw, 0, none⟩ = _
      exact sc_eq (by rw [cell_off hne.symm]; exact dw)
  generalize ((W0.setCell ⟨ga, 0, none⟩ (.int .i64 q)).setCell ⟨gw, 0, none⟩ (.int .i64 e0)).drew = W1 at R ⊢
  simp +zetaDelta [Exit.inBlock, bodyPostS, results, Try.results97]
  exact R.out
end Go.Proofs.Ytkomcebknllaiaa
