/- The document's reading of a value, whatever the bytes are; tenonref03.Decode. -/
import Derived.Test.YtmmiiapfefmcjaaA30
namespace Go.Proofs.Ytmmiiapfefmcjaa
open Go.RowKit

set_option maxRecDepth 100000 in
set_option maxHeartbeats 4000000 in
theorem rgbody_each (xs : List Int) (a : Option Addr) (cap s p : Nat) (deep : Int) (w : World) (hX : RX xs a cap s w) (hdp : 0 ≤ deep ∧ deep ≤ 64) (step : Nat → Nat → Rs (Tm × Nat)) (HT : Hid (∀ (at0 p0 : Nat) (W : World), Below w.heap.size w W → at0 ≤ xs.length → Calls Try.prog 49 #[.agg #[.slice a xs.length cap, .int .i64 (at0 : Int), .int .i64 (p0 : Int), .int .i64 0, .int .i64 0], .int .i64 (deep + 1)] W fun e w' => ∃ (a2 p2 q : Nat) (er : Int) (u : Int) (b : Bool) (i : Int) (f : Nat) (tx : ByteArray) (ab : Option Addr) (nb cb : Nat) (rf : Int) (al : Option Addr) (nl cl : Nat) (af : Option Addr) (nf cf : Nat) (c : ByteArray) (vr : Int), e = .returned (.tuple #[.agg #[.slice a xs.length cap, .int .i64 (a2 : Int), .int .i64 (p2 : Int), .int .i64 (q : Int), .int .i64 er], .agg #[.int .i64 u, .bool b, .int .i64 i, .float .f64 f, .string tx, .slice ab nb cb, .int .u64 rf, .slice al nl cl, .slice af nf cf, .string c, .int .i64 vr]]) ∧ Below W.heap.size W w' ∧ TR step xs.length at0 p0 W w' a2 p2 q er #[.int .i64 u, .bool b, .int .i64 i, .float .f64 f, .string tx, .slice ab nb cb, .int .u64 rf, .slice al nl cl, .slice af nf cf, .string c, .int .i64 vr])) (k : Int) (hk : 1 ≤ k ∧ k ≤ 10) :
    Calls Try.prog 93 #[.agg #[.slice a xs.length cap, .int .i64 ((s + 1 : Nat) : Int), .int .i64 (p : Int), .int .i64 0, .int .i64 0], .agg #[.int .i64 k, .bool false, .int .i64 0, .float .f64 0, .string ⟨#[]⟩, .slice none 0 0, .int .u64 0, .slice none 0 0, .slice none 0 0, .string ⟨#[]⟩, .int .i64 0], .int .i64 (s : Int), .int .i64 deep] w fun e w' => ∃ (a2 p2 q : Nat) (er : Int) (u : Int) (b : Bool) (i : Int) (f : Nat) (tx : ByteArray) (ab : Option Addr) (nb cb : Nat) (rf : Int) (al : Option Addr) (nl cl : Nat) (af : Option Addr) (nf cf : Nat) (c : ByteArray) (vr : Int), e = .returned (.tuple #[.agg #[.slice a xs.length cap, .int .i64 (a2 : Int), .int .i64 (p2 : Int), .int .i64 (q : Int), .int .i64 er], .agg #[.int .i64 u, .bool b, .int .i64 i, .float .f64 f, .string tx, .slice ab nb cb, .int .u64 rf, .slice al nl cl, .slice af nf cf, .string c, .int .i64 vr]]) ∧ Below w.heap.size w w' ∧ BR xs step k s p w w' a2 p2 q er #[.int .i64 u, .bool b, .int .i64 i, .float .f64 f, .string tx, .slice ab nb cb, .int .u64 rf, .slice al nl cl, .slice af nf cf, .string c, .int .i64 vr] := by
  have h : k = 1 ∨ k = 2 ∨ k = 3 ∨ k = 4 ∨ k = 5 ∨ k = 6 ∨ k = 7 ∨ k = 8 ∨ k = 9 ∨ k = 10 := by omega
  rcases h with rfl | rfl | rfl | rfl | rfl | rfl | rfl | rfl | rfl | rfl
  · exact rgbody_all1 xs a cap s p deep w hX step
  · exact rgbody_all2 xs a cap s p deep w hX step
  · exact rgbody_all3 xs a cap s p deep w hX step
  · exact rgbody_all4 xs a cap s p deep w hX step
  · exact rgbody_all5 xs a cap s p deep w hX step
  · exact rgbody_all6 xs a cap s p deep w hX step
  · exact rgbody_all7 xs a cap s p deep w hX step
  · exact rgbody_all8 xs a cap s p deep w hX hdp step HT
  · exact rgbody_all9 xs a cap s p deep w hX hdp step HT
  · exact rgbody_all10 xs a cap s p deep w hX hdp step HT
theorem rdB_none {xs : List Int} {step : Nat → Nat → Rs (Tm × Nat)} {k : Int} {s p : Nat} (h : k < 1 ∨ 10 < k) : Sp.rdB xs step k s p = .bad s 30 := by
  unfold Sp.rdB
  rw [if_neg (by omega), if_neg (by omega), if_neg (by omega), if_neg (by omega), if_neg (by omega), if_neg (by omega), if_neg (by omega), if_neg (by omega), if_neg (by omega)]
set_option maxRecDepth 100000 in
set_option maxHeartbeats 4000000 in
theorem rgterm_all (xs : List Int) (hby : By xs) (a : Option Addr) (cap : Nat) (hcp : xs.length ≤ cap) (hnl : a = none → cap = 0) (hsp : ∀ q, a = some q → q.spot = none) (hln : xs.length ≤ 281474976710656) : ∀ (fu : Nat), fu ≤ 64 → ∀ (at0 p0 : Nat) (w : World), at0 ≤ xs.length → RdB w (Lo w.heap.size) a xs →
    Calls Try.prog 49 #[.agg #[.slice a xs.length cap, .int .i64 (at0 : Int), .int .i64 (p0 : Int), .int .i64 0, .int .i64 0], .int .i64 (65 - (fu : Int))] w fun e w' => ∃ (a2 p2 q : Nat) (er : Int) (u : Int) (b : Bool) (i : Int) (f : Nat) (tx : ByteArray) (ab : Option Addr) (nb cb : Nat) (rf : Int) (al : Option Addr) (nl cl : Nat) (af : Option Addr) (nf cf : Nat) (c : ByteArray) (vr : Int), e = .returned (.tuple #[.agg #[.slice a xs.length cap, .int .i64 (a2 : Int), .int .i64 (p2 : Int), .int .i64 (q : Int), .int .i64 er], .agg #[.int .i64 u, .bool b, .int .i64 i, .float .f64 f, .string tx, .slice ab nb cb, .int .u64 rf, .slice al nl cl, .slice af nf cf, .string c, .int .i64 vr]]) ∧ Below w.heap.size w w' ∧ TR (Sp.rdV xs fu) xs.length at0 p0 w w' a2 p2 q er #[.int .i64 u, .bool b, .int .i64 i, .float .f64 f, .string tx, .slice ab nb cb, .int .u64 rf, .slice al nl cl, .slice af nf cf, .string c, .int .i64 vr]
  | 0, _, at0, p0, w, hle, hrd => by
    by_cases hl : at0 = xs.length
    · subst hl
      refine (rgterm_end a xs.length cap p0 _ w).mono ?_
      rintro e w' ⟨rfl, hb⟩
      exact ⟨xs.length, p0, xs.length, 4, _, _, _, _, _, _, _, _, _, _, _, _, _, _, _, _, _, rfl, hb, .inr ⟨by decide, by simp [Sp.rdV]⟩⟩
    · have hl2 : at0 < xs.length := by omega
      have hr : Sp.rdV xs 0 at0 p0 = .bad at0 2 := by rw [Sp.rdV, if_neg (by omega)]
      by_cases hp : 16384 ≤ p0
      · refine (rgterm_most a xs.length cap at0 p0 _ w hl2 hp).mono ?_
        rintro e w' ⟨rfl, hb⟩
        exact ⟨at0, p0, at0, 2, _, _, _, _, _, _, _, _, _, _, _, _, _, _, _, _, _, rfl, hb, .inr ⟨by decide, hr⟩⟩
      · refine (rgterm_deep a xs.length cap at0 p0 _ w hl2 (by omega) (by decide)).mono ?_
        rintro e w' ⟨rfl, hb⟩
        exact ⟨at0, p0, at0, 2, _, _, _, _, _, _, _, _, _, _, _, _, _, _, _, _, _, rfl, hb, .inr ⟨by decide, hr⟩⟩
  | fu + 1, hf, at0, p0, w, hle, hrd => by
    by_cases hl : at0 = xs.length
    · subst hl
      refine (rgterm_end a xs.length cap p0 _ w).mono ?_
      rintro e w' ⟨rfl, hb⟩
      exact ⟨xs.length, p0, xs.length, 4, _, _, _, _, _, _, _, _, _, _, _, _, _, _, _, _, _, rfl, hb, .inr ⟨by decide, by simp [Sp.rdV]⟩⟩
    · have hl2 : at0 < xs.length := by omega
      obtain ⟨k, hx⟩ : ∃ k, xs[at0]? = some k := ⟨_, List.getElem?_eq_getElem hl2⟩
      have hd : 65 - ((fu + 1 : Nat) : Int) = 64 - (fu : Int) := by omega
      rw [hd]
      by_cases hp : 16384 ≤ p0
      · refine (rgterm_most a xs.length cap at0 p0 _ w hl2 hp).mono ?_
        rintro e w' ⟨rfl, hb⟩
        exact ⟨at0, p0, at0, 2, _, _, _, _, _, _, _, _, _, _, _, _, _, _, _, _, _, rfl, hb, .inr ⟨by decide, by rw [Sp.rdV, hx]; dsimp only; rw [if_pos hp]⟩⟩
      · have hr : Sp.rdV xs (fu + 1) at0 p0 = Sp.rdB xs (Sp.rdV xs fu) k at0 (p0 + 1) := by rw [Sp.rdV, hx]; dsimp only; rw [if_neg hp]
        by_cases hk0 : k < 1
        · refine (rgterm_tag0 xs a cap at0 p0 k _ w hx hrd hln (by omega) (by omega) hk0).mono ?_
          rintro e w' ⟨rfl, hb⟩
          exact ⟨at0 + 1, p0 + 1, at0, 30, _, _, _, _, _, _, _, _, _, _, _, _, _, _, _, _, _, rfl, hb, .inr ⟨by decide, by rw [hr]; exact rdB_none (by omega)⟩⟩
        · by_cases hk1 : 10 < k
          · refine (rgterm_tag1 xs a cap at0 p0 k _ w hx hrd hln (by omega) (by omega) hk1).mono ?_
            rintro e w' ⟨rfl, hb⟩
            exact ⟨at0 + 1, p0 + 1, at0, 30, _, _, _, _, _, _, _, _, _, _, _, _, _, _, _, _, _, rfl, hb, .inr ⟨by decide, by rw [hr]; exact rdB_none (by omega)⟩⟩
          · have ih := rgterm_all xs hby a cap hcp hnl hsp hln fu (by omega)
            refine (rgterm_go xs a cap at0 p0 k (64 - (fu : Int)) w hx hrd hln (by omega) (by omega) (by omega) (fun W W' a2 p2 q er cs => BR xs (Sp.rdV xs fu) k at0 (p0 + 1) W W' a2 p2 q er cs) (fun W hW => ?_)).mono ?_
            · have hrdW := hrd.same (Same.of_below hW (Nat.le_refl _)) (Lo.le hW.size)
              have e1 : ((at0 : Int) + 1) = ((at0 + 1 : Nat) : Int) := by omega
              have e2 : ((p0 : Int) + 1) = ((p0 + 1 : Nat) : Int) := by omega
              rw [e1, e2]
              refine rgbody_each xs a cap at0 (p0 + 1) (64 - (fu : Int)) W ⟨hby, hcp, hnl, hsp, hrdW, hln, hl2⟩ (by omega) (Sp.rdV xs fu) (fun at1 p1 W' hW' h1 => ?_) k (by omega)
              have e3 : (64 - (fu : Int) + 1) = 65 - (fu : Int) := by omega
              rw [e3]
              exact ih at1 p1 W' h1 (hrdW.same (Same.of_below hW' (Nat.le_refl _)) (Lo.le hW'.size))
            · rintro e w' ⟨a2, p2, q, er, u, b, i, f, tx, ab, nb, cb, rf, al, nl, cl, af, nf, cf, c, vr, rfl, hb, W, W', hbw, hsm, hsz, hB⟩
              refine ⟨a2, p2, q, er, u, b, i, f, tx, ab, nb, cb, rf, al, nl, cl, af, nf, cf, c, vr, rfl, hb, ?_⟩
              unfold TR
              rw [hr]
              rcases hB with ⟨t, h1, h2, h3, h4, h5⟩ | h
              · exact .inl ⟨t, h1, h2, h3, h4, t.In_same (B := Fr W W') (B' := Fr w w') hsm (fun k hk => ⟨by have := hk.1; have := hbw.size; omega, by have := hk.2; omega⟩) _ h5⟩
              · exact .inr h
end Go.Proofs.Ytmmiiapfefmcjaa

/- tenonref03.Decode. -/
namespace Go.Proofs.Ytmmiiapfefmcjaa
open Go.RowKit

set_option maxRecDepth 100000 in
set_option maxHeartbeats 4000000 in
theorem rgterm_top (xs : List Int) (hby : By xs) (a : Option Addr) (cap : Nat) (w : World) (hcp : xs.length ≤ cap) (hrd : RdB w (Lo w.heap.size) a xs) (hln : xs.length ≤ 281474976710656) :
    Calls Try.prog 49 #[.agg #[.slice a xs.length cap, .int .i64 0, .int .i64 0, .int .i64 0, .int .i64 0], .int .i64 1] w fun e w' => ∃ (a2 p2 q : Nat) (er : Int) (u : Int) (b : Bool) (i : Int) (f : Nat) (tx : ByteArray) (ab : Option Addr) (nb cb : Nat) (rf : Int) (al : Option Addr) (nl cl : Nat) (af : Option Addr) (nf cf : Nat) (c : ByteArray) (vr : Int), e = .returned (.tuple #[.agg #[.slice a xs.length cap, .int .i64 (a2 : Int), .int .i64 (p2 : Int), .int .i64 (q : Int), .int .i64 er], .agg #[.int .i64 u, .bool b, .int .i64 i, .float .f64 f, .string tx, .slice ab nb cb, .int .u64 rf, .slice al nl cl, .slice af nf cf, .string c, .int .i64 vr]]) ∧ Below w.heap.size w w' ∧ TR (Sp.rdV xs 64) xs.length 0 0 w w' a2 p2 q er #[.int .i64 u, .bool b, .int .i64 i, .float .f64 f, .string tx, .slice ab nb cb, .int .u64 rf, .slice al nl cl, .slice af nf cf, .string c, .int .i64 vr] := by
  cases xs with
  | nil =>
    refine (rgterm_end a 0 cap 0 1 w).mono ?_
    rintro e w' ⟨rfl, hb⟩
    exact ⟨0, 0, 0, 4, _, _, _, _, _, _, _, _, _, _, _, _, _, _, _, _, _, rfl, hb, .inr ⟨by decide, by simp [Sp.rdV]⟩⟩
  | cons x l =>
    obtain ⟨g, o, rfl, _, _⟩ := hrd 0 x rfl
    have := rgterm_all (x :: l) hby (some ⟨g, o, none⟩) cap hcp (fun h => by cases h) (fun q h => by injection h with h; subst h; rfl) hln 64 (Nat.le_refl _) 0 0 w (by simp) hrd
    exact this
set_option maxRecDepth 100000 in
set_option maxHeartbeats 4000000 in
theorem refDecode_ok (xs : List Int) (hby : By xs) (t : Tm) (p2 a2 : Nat) (hr : Sp.rdV xs 64 0 0 = .ok (t, p2) a2) (a : Option Addr) (cap : Nat) (w : World) (hcp : xs.length ≤ cap) (hrd : RdB w (Lo w.heap.size) a xs) (hln : xs.length ≤ 281474976710656) :
    Calls Try.prog 26 #[.slice a xs.length cap] w fun e w' => ∃ (u : Int) (b : Bool) (i : Int) (f : Nat) (tx : ByteArray) (ab : Option Addr) (nb cb : Nat) (rf : Int) (al : Option Addr) (nl cl : Nat) (af : Option Addr) (nf cf : Nat) (c : ByteArray) (vr : Int), e = .returned (.tuple #[.agg #[.int .i64 u, .bool b, .int .i64 i, .float .f64 f, .string tx, .slice ab nb cb, .int .u64 rf, .slice al nl cl, .slice af nf cf, .string c, .int .i64 vr], .int .i64 (a2 : Int), .int .i64 0]) ∧ Below w.heap.size w w' ∧ t.In w' (Fr w w') #[.int .i64 u, .bool b, .int .i64 i, .float .f64 f, .string tx, .slice ab nb cb, .int .u64 rf, .slice al nl cl, .slice af nf cf, .string c, .int .i64 vr] := by
  have HT : Hid (∀ W, Below w.heap.size w W → Calls Try.prog 49 #[.agg #[.slice a xs.length cap, .int .i64 0, .int .i64 0, .int .i64 0, .int .i64 0], .int .i64 1] W fun e w' => ∃ (a2 p2 q : Nat) (er : Int) (u : Int) (b : Bool) (i : Int) (f : Nat) (tx : ByteArray) (ab : Option Addr) (nb cb : Nat) (rf : Int) (al : Option Addr) (nl cl : Nat) (af : Option Addr) (nf cf : Nat) (c : ByteArray) (vr : Int), e = .returned (.tuple #[.agg #[.slice a xs.length cap, .int .i64 (a2 : Int), .int .i64 (p2 : Int), .int .i64 (q : Int), .int .i64 er], .agg #[.int .i64 u, .bool b, .int .i64 i, .float .f64 f, .string tx, .slice ab nb cb, .int .u64 rf, .slice al nl cl, .slice af nf cf, .string c, .int .i64 vr]]) ∧ Below W.heap.size W w' ∧ TR (Sp.rdV xs 64) xs.length 0 0 W w' a2 p2 q er #[.int .i64 u, .bool b, .int .i64 i, .float .f64 f, .string tx, .slice ab nb cb, .int .u64 rf, .slice al nl cl, .slice af nf cf, .string c, .int .i64 vr]) := fun W hW => rgterm_top xs hby a cap W hcp (hrd.same (Same.of_below hW (Nat.le_refl _)) (Lo.le hW.size)) hln
  have HRR : Hid (Sp.rdV xs 64 0 0 = .ok (t, p2) a2) := hr
  clear hr hby hcp hrd hln
  go_enter Try.func26, Try.ntmps26
  go_wp2_with fail
  refine (HT.out _ ((Below.refl _ _).alloc (Nat.le_refl _) _)).mono ?_
  rintro e w1 ⟨a3, p3, q, er, u, b, i, f, tx, ab, nb, cb, rf, al, nl, cl, af, nf, cf, c, vr, rfl, hb, hT⟩
  rcases hT with ⟨t', h1, rfl, rfl, h4, h5⟩ | ⟨_, h1⟩
  · rw [HRR.out] at h1
    injection h1 with e1 e2
    injection e1 with e1 e3
    subst e1 e2 e3
    have HIN : Hid (t.In w1 (Fr (w.alloc (.cells #[.int .i64 0, .bool false, .int .i64 0, .float .f64 0, .string ⟨#[]⟩, .slice none 0 0, .int .u64 0, .slice none 0 0, .slice none 0 0, .string ⟨#[]⟩, .int .i64 0] 29)) w1) #[.int .i64 u, .bool b, .int .i64 i, .float .f64 f, .string tx, .slice ab nb cb, .int .u64 rf, .slice al nl cl, .slice af nf cf, .string c, .int .i64 vr]) := h5
    have HB : Hid (Below (w.alloc (.cells #[.int .i64 0, .bool false, .int .i64 0, .float .f64 0, .string ⟨#[]⟩, .slice none 0 0, .int .u64 0, .slice none 0 0, .slice none 0 0, .string ⟨#[]⟩, .int .i64 0] 29)).heap.size (w.alloc (.cells #[.int .i64 0, .bool false, .int .i64 0, .float .f64 0, .string ⟨#[]⟩, .slice none 0 0, .int .u64 0, .slice none 0 0, .slice none 0 0, .string ⟨#[]⟩, .int .i64 0] 29)) w1) := hb
    have hrow : w1.heap[w.heap.size]? = some (.cells #[.int .i64 0, .bool false, .int .i64 0, .float .f64 0, .string ⟨#[]⟩, .slice none 0 0, .int .u64 0, .slice none 0 0, .slice none 0 0, .string ⟨#[]⟩, .int .i64 0] 29 (0, 0)) := by rw [hb.block _ (by simp)]; exact heap_alloc_new w _
    have HROW : Hid _ := hrow
    clear h4 h5 hb hrow
    obtain ⟨W2, HW2⟩ : ∃ W2, Hid (((w1.alloc (.cells #[.slice a xs.length cap, .int .i64 (a2 : Int), .int .i64 (p2 : Int), .int .i64 0, .int .i64 0] 94)).alloc (.cells #[.int .i64 u, .bool b, .int .i64 i, .float .f64 f, .string tx, .slice ab nb cb, .int .u64 rf, .slice al nl cl, .slice af nf cf, .string c, .int .i64 vr] 29)) = W2) := ⟨_, rfl⟩
    have hb2 : Below w1.heap.size w1 W2 := by rw [← HW2.out]; exact ((Below.refl _ _).alloc (Nat.le_refl _) _).alloc (by simp) _
    have hrb : W2.heap[w1.heap.size]? = some (.cells #[.slice a xs.length cap, .int .i64 (a2 : Int), .int .i64 (p2 : Int), .int .i64 0, .int .i64 0] 94 (0, 0)) := by
      rw [← HW2.out, Below.heap_alloc _ _ _ (by simp)]; exact heap_alloc_new w1 _
    have htb : W2.heap[w1.heap.size + 1]? = some (.cells #[.int .i64 u, .bool b, .int .i64 i, .float .f64 f, .string tx, .slice ab nb cb, .int .u64 rf, .slice al nl cl, .slice af nf cf, .string c, .int .i64 vr] 29 (0, 0)) := by
      have := heap_alloc_new (w1.alloc (.cells #[.slice a xs.length cap, .int .i64 (a2 : Int), .int .i64 (p2 : Int), .int .i64 0, .int .i64 0] 94)) (.cells #[.int .i64 u, .bool b, .int .i64 i, .float .f64 f, .string tx, .slice ab nb cb, .int .u64 rf, .slice al nl cl, .slice af nf cf, .string c, .int .i64 vr] 29)
      rw [HW2.out] at this; simpa using this
    have hlt := lt_row HROW.out
    have hres : W2.heap[w.heap.size]? = some (.cells #[.int .i64 0, .bool false, .int .i64 0, .float .f64 0, .string ⟨#[]⟩, .slice none 0 0, .int .u64 0, .slice none 0 0, .slice none 0 0, .string ⟨#[]⟩, .int .i64 0] 29 (0, 0)) := by rw [hb2.block _ hlt]; exact HROW.out
    obtain ⟨U1, U2, U3, U4, U5, U6, U7, U8, U9, U10, U11, m0, m1, m2, m3, m4, m5, m6, m7, m8, m9, m10, ⟨b0, g0⟩, ⟨b1, g1⟩, ⟨b2, g2⟩, ⟨b3, g3⟩, ⟨b4, g4⟩, ⟨b5, g5⟩, ⟨b6, g6⟩, ⟨b7, g7⟩, ⟨b8, g8⟩, ⟨b9, g9⟩, ⟨b10, g10⟩, hU⟩ := chain11 (w1 := W2.drew) hres (.int .i64 u) (.bool b) (.int .i64 i) (.float .f64 f) (.string tx) (.slice ab nb cb) (.int .u64 rf) (.slice al nl cl) (.slice af nf cf) (.string c) (.int .i64 vr)
    have hur := row11 (w1 := W2.drew) hres (.int .i64 u) (.bool b) (.int .i64 i) (.float .f64 f) (.string tx) (.slice ab nb cb) (.int .u64 rf) (.slice al nl cl) (.slice af nf cf) (.string c) (.int .i64 vr)
    rw [← hU] at hur
    have HS0 : Hid (W2.drew.cell? ⟨w1.heap.size, 1, none⟩ = some (.int .i64 (a2 : Int)) ∧ (W2.drew.cell? ⟨w1.heap.size + 1, 0, none⟩ = some (.int .i64 u) ∧ W2.drew.cell? ⟨w1.heap.size + 1, 1, none⟩ = some (.bool b) ∧ W2.drew.cell? ⟨w1.heap.size + 1, 2, none⟩ = some (.int .i64 i) ∧ W2.drew.cell? ⟨w1.heap.size + 1, 3, none⟩ = some (.float .f64 f) ∧ W2.drew.cell? ⟨w1.heap.size + 1, 4, none⟩ = some (.string tx) ∧ W2.drew.cell? ⟨w1.heap.size + 1, 5, none⟩ = some (.slice ab nb cb) ∧ W2.drew.cell? ⟨w1.heap.size + 1, 6, none⟩ = some (.int .u64 rf) ∧ W2.drew.cell? ⟨w1.heap.size + 1, 7, none⟩ = some (.slice al nl cl) ∧ W2.drew.cell? ⟨w1.heap.size + 1, 8, none⟩ = some (.slice af nf cf) ∧ W2.drew.cell? ⟨w1.heap.size + 1, 9, none⟩ = some (.string c) ∧ W2.drew.cell? ⟨w1.heap.size + 1, 10, none⟩ = some (.int .i64 vr))) := ⟨(own5 (w1 := W2.drew) hrb).1.2.1, own11 (w := W2.drew) htb⟩
    have HS1 : Hid (U11.cell? ⟨w1.heap.size, 1, none⟩ = some (.int .i64 (a2 : Int)) ∧ (U11.cell? ⟨w1.heap.size + 1, 0, none⟩ = some (.int .i64 u) ∧ U11.cell? ⟨w1.heap.size + 1, 1, none⟩ = some (.bool b) ∧ U11.cell? ⟨w1.heap.size + 1, 2, none⟩ = some (.int .i64 i) ∧ U11.cell? ⟨w1.heap.size + 1, 3, none⟩ = some (.float .f64 f) ∧ U11.cell? ⟨w1.heap.size + 1, 4, none⟩ = some (.string tx) ∧ U11.cell? ⟨w1.heap.size + 1, 5, none⟩ = some (.slice ab nb cb) ∧ U11.cell? ⟨w1.heap.size + 1, 6, none⟩ = some (.int .u64 rf) ∧ U11.cell? ⟨w1.heap.size + 1, 7, none⟩ = some (.slice al nl cl) ∧ U11.cell? ⟨w1.heap.size + 1, 8, none⟩ = some (.slice af nf cf) ∧ U11.cell? ⟨w1.heap.size + 1, 9, none⟩ = some (.string c) ∧ U11.cell? ⟨w1.heap.size + 1, 10, none⟩ = some (.int .i64 vr))) := by
      have h1 : U11.heap[w1.heap.size]? = some (.cells #[.slice a xs.length cap, .int .i64 (a2 : Int), .int .i64 (p2 : Int), .int .i64 0, .int .i64 0] 94 (0, 0)) := by rw [hU, setN_other (by omega)]; exact hrb
      have h2 : U11.heap[w1.heap.size + 1]? = some (.cells #[.int .i64 u, .bool b, .int .i64 i, .float .f64 f, .string tx, .slice ab nb cb, .int .u64 rf, .slice al nl cl, .slice af nf cf, .string c, .int .i64 vr] 29 (0, 0)) := by rw [hU, setN_other (by omega)]; exact htb
      exact ⟨(own5 h1).1.2.1, own11 h2⟩
    have HFIN : Hid (Below w.heap.size w U11 ∧ t.In U11 (Fr w U11) #[.int .i64 u, .bool b, .int .i64 i, .float .f64 f, .string tx, .slice ab nb cb, .int .u64 rf, .slice al nl cl, .slice af nf cf, .string c, .int .i64 vr]) := by
      have hbw : Below w.heap.size w w1 := ((Below.refl _ _).alloc (Nat.le_refl _) _).trans (HB.out.mono (by simp))
      have hs2 := hb2.size
      refine ⟨by rw [hU]; exact setN_below (Nat.le_refl _) _ _ _ _ ((hbw.trans (hb2.mono hbw.size)).drew), ?_⟩
      refine t.In_same (B := Fr (w.alloc (.cells #[.int .i64 0, .bool false, .int .i64 0, .float .f64 0, .string ⟨#[]⟩, .slice none 0 0, .int .u64 0, .slice none 0 0, .slice none 0 0, .string ⟨#[]⟩, .int .i64 0] 29)) w1) (fun k hk => ?_) (fun k hk => ?_) _ HIN.out
      · have h1 := hk.1; simp at h1
        rw [hU, setN_other (by omega)]; exact hb2.block k hk.2
      · have h1 := hk.1; have h2 := hk.2; simp at h1
        refine ⟨by omega, ?_⟩
        rw [hU, setN_size]
        show k < W2.heap.size
        omega
    obtain ⟨s0, s1, s2, s3, s4, s5, s6, s7, s8, s9, s10⟩ := own11 hur
    clear hrb htb hlt hres hU hur hb2
    go_wp2_with fail
    rw [HW2.out]
    go_region_held3 (fun W => W.cell? ⟨w1.heap.size, 1, none⟩ = some (.int .i64 (a2 : Int)) ∧ (W.cell? ⟨w1.heap.size + 1, 0, none⟩ = some (.int .i64 u) ∧ W.cell? ⟨w1.heap.size + 1, 1, none⟩ = some (.bool b) ∧ W.cell? ⟨w1.heap.size + 1, 2, none⟩ = some (.int .i64 i) ∧ W.cell? ⟨w1.heap.size + 1, 3, none⟩ = some (.float .f64 f) ∧ W.cell? ⟨w1.heap.size + 1, 4, none⟩ = some (.string tx) ∧ W.cell? ⟨w1.heap.size + 1, 5, none⟩ = some (.slice ab nb cb) ∧ W.cell? ⟨w1.heap.size + 1, 6, none⟩ = some (.int .u64 rf) ∧ W.cell? ⟨w1.heap.size + 1, 7, none⟩ = some (.slice al nl cl) ∧ W.cell? ⟨w1.heap.size + 1, 8, none⟩ = some (.slice af nf cf) ∧ W.cell? ⟨w1.heap.size + 1, 9, none⟩ = some (.string c) ∧ W.cell? ⟨w1.heap.size + 1, 10, none⟩ = some (.int .i64 vr)))
      (first | with_reducible exact HS0.out | with_reducible exact HS1.out)
      (fail)
    go_wp2_with fail
    exact bodyPost_ret (v := .tuple #[.agg #[.int .i64 u, .bool b, .int .i64 i, .float .f64 f, .string tx, .slice ab nb cb, .int .u64 rf, .slice al nl cl, .slice af nf cf, .string c, .int .i64 vr], .int .i64 (a2 : Int), .int .i64 0]) (by simp [results, Try.results26, go_sem, s0, s1, s2, s3, s4, s5, s6, s7, s8, s9, s10] <;> rfl) rfl ⟨u, b, i, f, tx, ab, nb, cb, rf, al, nl, cl, af, nf, cf, c, vr, rfl, HFIN.out.1, HFIN.out.2⟩
  · rw [HRR.out] at h1; cases h1
set_option maxRecDepth 100000 in
set_option maxHeartbeats 4000000 in
theorem refDecode_bad (xs : List Int) (hby : By xs) (q : Nat) (er : Int) (hr : Sp.rdV xs 64 0 0 = .bad q er) (a : Option Addr) (cap : Nat) (w : World) (hcp : xs.length ≤ cap) (hrd : RdB w (Lo w.heap.size) a xs) (hln : xs.length ≤ 281474976710656) :
    Calls Try.prog 26 #[.slice a xs.length cap] w fun e w' => e = .returned (.tuple #[.agg #[.int .i64 0, .bool false, .int .i64 0, .float .f64 0, .string ⟨#[]⟩, .slice none 0 0, .int .u64 0, .slice none 0 0, .slice none 0 0, .string ⟨#[]⟩, .int .i64 0], .int .i64 (q : Int), .int .i64 er]) ∧ Below w.heap.size w w' := by
  have HT : Hid (∀ W, Below w.heap.size w W → Calls Try.prog 49 #[.agg #[.slice a xs.length cap, .int .i64 0, .int .i64 0, .int .i64 0, .int .i64 0], .int .i64 1] W fun e w' => ∃ (a2 p2 q : Nat) (er : Int) (u : Int) (b : Bool) (i : Int) (f : Nat) (tx : ByteArray) (ab : Option Addr) (nb cb : Nat) (rf : Int) (al : Option Addr) (nl cl : Nat) (af : Option Addr) (nf cf : Nat) (c : ByteArray) (vr : Int), e = .returned (.tuple #[.agg #[.slice a xs.length cap, .int .i64 (a2 : Int), .int .i64 (p2 : Int), .int .i64 (q : Int), .int .i64 er], .agg #[.int .i64 u, .bool b, .int .i64 i, .float .f64 f, .string tx, .slice ab nb cb, .int .u64 rf, .slice al nl cl, .slice af nf cf, .string c, .int .i64 vr]]) ∧ Below W.heap.size W w' ∧ TR (Sp.rdV xs 64) xs.length 0 0 W w' a2 p2 q er #[.int .i64 u, .bool b, .int .i64 i, .float .f64 f, .string tx, .slice ab nb cb, .int .u64 rf, .slice al nl cl, .slice af nf cf, .string c, .int .i64 vr]) := fun W hW => rgterm_top xs hby a cap W hcp (hrd.same (Same.of_below hW (Nat.le_refl _)) (Lo.le hW.size)) hln
  have HRR : Hid (Sp.rdV xs 64 0 0 = .bad q er) := hr
  clear hr hby hcp hrd hln
  go_enter Try.func26, Try.ntmps26
  go_wp2_with fail
  refine (HT.out _ ((Below.refl _ _).alloc (Nat.le_refl _) _)).mono ?_
  rintro e w1 ⟨a3, p3, q', er', u, b, i, f, tx, ab, nb, cb, rf, al, nl, cl, af, nf, cf, c, vr, rfl, hb, hT⟩
  rcases hT with ⟨t', h1, _⟩ | ⟨her, h1⟩
  · rw [HRR.out] at h1; cases h1
  · rw [HRR.out] at h1
    injection h1 with e1 e2
    subst e1 e2
    have HB : Hid (Below (w.alloc (.cells #[.int .i64 0, .bool false, .int .i64 0, .float .f64 0, .string ⟨#[]⟩, .slice none 0 0, .int .u64 0, .slice none 0 0, .slice none 0 0, .string ⟨#[]⟩, .int .i64 0] 29)).heap.size (w.alloc (.cells #[.int .i64 0, .bool false, .int .i64 0, .float .f64 0, .string ⟨#[]⟩, .slice none 0 0, .int .u64 0, .slice none 0 0, .slice none 0 0, .string ⟨#[]⟩, .int .i64 0] 29)) w1) := hb
    have hrow : w1.heap[w.heap.size]? = some (.cells #[.int .i64 0, .bool false, .int .i64 0, .float .f64 0, .string ⟨#[]⟩, .slice none 0 0, .int .u64 0, .slice none 0 0, .slice none 0 0, .string ⟨#[]⟩, .int .i64 0] 29 (0, 0)) := by rw [hb.block _ (by simp)]; exact heap_alloc_new w _
    have HROW : Hid _ := hrow
    have he : (er != 0) = true := by simp [her]
    clear hb hrow her
    obtain ⟨W2, HW2⟩ : ∃ W2, Hid (((w1.alloc (.cells #[.slice a xs.length cap, .int .i64 (a3 : Int), .int .i64 (p3 : Int), .int .i64 (q : Int), .int .i64 er] 94)).alloc (.cells #[.int .i64 u, .bool b, .int .i64 i, .float .f64 f, .string tx, .slice ab nb cb, .int .u64 rf, .slice al nl cl, .slice af nf cf, .string c, .int .i64 vr] 29)) = W2) := ⟨_, rfl⟩
    have hb2 : Below w1.heap.size w1 W2 := by rw [← HW2.out]; exact ((Below.refl _ _).alloc (Nat.le_refl _) _).alloc (by simp) _
    have hrb : W2.heap[w1.heap.size]? = some (.cells #[.slice a xs.length cap, .int .i64 (a3 : Int), .int .i64 (p3 : Int), .int .i64 (q : Int), .int .i64 er] 94 (0, 0)) := by
      rw [← HW2.out, Below.heap_alloc _ _ _ (by simp)]; exact heap_alloc_new w1 _
    have hlt := lt_row HROW.out
    have hres : W2.heap[w.heap.size]? = some (.cells #[.int .i64 0, .bool false, .int .i64 0, .float .f64 0, .string ⟨#[]⟩, .slice none 0 0, .int .u64 0, .slice none 0 0, .slice none 0 0, .string ⟨#[]⟩, .int .i64 0] 29 (0, 0)) := by rw [hb2.block _ hlt]; exact HROW.out
    obtain ⟨U1, U2, U3, U4, U5, U6, U7, U8, U9, U10, U11, m0, m1, m2, m3, m4, m5, m6, m7, m8, m9, m10, ⟨b0, g0⟩, ⟨b1, g1⟩, ⟨b2, g2⟩, ⟨b3, g3⟩, ⟨b4, g4⟩, ⟨b5, g5⟩, ⟨b6, g6⟩, ⟨b7, g7⟩, ⟨b8, g8⟩, ⟨b9, g9⟩, ⟨b10, g10⟩, hU⟩ := chain11 (w1 := W2.drew) hres (.int .i64 0) (.bool false) (.int .i64 0) (.float .f64 0) (.string ⟨#[]⟩) (.slice none 0 0) (.int .u64 0) (.slice none 0 0) (.slice none 0 0) (.string ⟨#[]⟩) (.int .i64 0)
    have hur := row11 (w1 := W2.drew) hres (.int .i64 0) (.bool false) (.int .i64 0) (.float .f64 0) (.string ⟨#[]⟩) (.slice none 0 0) (.int .u64 0) (.slice none 0 0) (.slice none 0 0) (.string ⟨#[]⟩) (.int .i64 0)
    rw [← hU] at hur
    have HS0 : Hid (W2.drew.cell? ⟨w1.heap.size, 3, none⟩ = some (.int .i64 (q : Int)) ∧ W2.drew.cell? ⟨w1.heap.size, 4, none⟩ = some (.int .i64 er)) := ⟨(own5 (w1 := W2.drew) hrb).1.2.2.2.1, (own5 (w1 := W2.drew) hrb).1.2.2.2.2⟩
    have HS1 : Hid (U11.cell? ⟨w1.heap.size, 3, none⟩ = some (.int .i64 (q : Int)) ∧ U11.cell? ⟨w1.heap.size, 4, none⟩ = some (.int .i64 er)) := by
      have h1 : U11.heap[w1.heap.size]? = some (.cells #[.slice a xs.length cap, .int .i64 (a3 : Int), .int .i64 (p3 : Int), .int .i64 (q : Int), .int .i64 er] 94 (0, 0)) := by rw [hU, setN_other (by omega)]; exact hrb
      exact ⟨(own5 h1).1.2.2.2.1, (own5 h1).1.2.2.2.2⟩
    have HFIN : Hid (Below w.heap.size w U11) := by
      have hbw : Below w.heap.size w w1 := ((Below.refl _ _).alloc (Nat.le_refl _) _).trans (HB.out.mono (by simp))
      show Below _ _ _
      rw [hU]; exact setN_below (Nat.le_refl _) _ _ _ _ ((hbw.trans (hb2.mono hbw.size)).drew)
    obtain ⟨s0, s1, s2, s3, s4, s5, s6, s7, s8, s9, s10⟩ := own11 hur
    clear hrb hlt hres hU hur hb2
    go_wp2_with fail
    rw [HW2.out]
    go_region_held3 (fun W => W.cell? ⟨w1.heap.size, 3, none⟩ = some (.int .i64 (q : Int)) ∧ W.cell? ⟨w1.heap.size, 4, none⟩ = some (.int .i64 er))
      (first | with_reducible exact HS0.out | with_reducible exact HS1.out)
      (fail)
    go_wp2_with fail
    exact bodyPost_ret (v := .tuple #[.agg #[.int .i64 0, .bool false, .int .i64 0, .float .f64 0, .string ⟨#[]⟩, .slice none 0 0, .int .u64 0, .slice none 0 0, .slice none 0 0, .string ⟨#[]⟩, .int .i64 0], .int .i64 (q : Int), .int .i64 er]) (by simp [results, Try.results26, go_sem, s0, s1, s2, s3, s4, s5, s6, s7, s8, s9, s10] <;> rfl) rfl ⟨rfl, HFIN.out⟩
end Go.Proofs.Ytmmiiapfefmcjaa

