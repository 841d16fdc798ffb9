/- The document's reading of a body and of a value, whatever the bytes are. -/
import Derived.Test.YtmmiiapfefmcjaaA21
import Derived.Test.YtmmiiapfefmcjaaA22
import Derived.Test.YtmmiiapfefmcjaaA23
import Derived.Test.YtmmiiapfefmcjaaA24
import Derived.Test.YtmmiiapfefmcjaaA25
import Derived.Test.YtmmiiapfefmcjaaA26
import Derived.Test.YtmmiiapfefmcjaaA27
import Derived.Test.YtmmiiapfefmcjaaA28
import Derived.Test.YtmmiiapfefmcjaaA29
namespace Go.Proofs.Ytmmiiapfefmcjaa
open Go.RowKit

/-- what a reading of a body tells -/
def BR (xs : List Int) (step : Nat → Nat → Rs (Tm × Nat)) (k : Int) (s p : Nat) (w w' : World) (a2 p2 q : Nat) (er : Int) (cs : Array Value) : Prop :=
  (∃ t, Sp.rdB xs step k s p = .ok (t, p2) a2 ∧ q = 0 ∧ er = 0 ∧ a2 ≤ xs.length ∧ t.In w' (Fr w w') cs) ∨ (er ≠ 0 ∧ Sp.rdB xs step k s p = .bad q er)
theorem b256_acc : ∀ (l : List Int) (n k : Nat), By l → n < 256 ^ k → l.foldl (fun n x => n * 256 + x.toNat) n < 256 ^ (k + l.length)
  | [], n, k, _, h => by simpa using h
  | x :: l, n, k, hb, h => by
    have hx := hb x (List.mem_cons_self ..)
    have := b256_acc l (n * 256 + x.toNat) (k + 1) (fun y hy => hb y (List.mem_cons_of_mem _ hy)) (by rw [Nat.pow_succ]; omega)
    rw [List.foldl_cons, List.length_cons, show k + (l.length + 1) = k + 1 + l.length by omega]
    exact this
theorem b256_lt {l : List Int} (hb : By l) (hl : l.length = 8) : b256 l < 18446744073709551616 := by
  have := b256_acc l 0 0 hb (by decide)
  rw [hl] at this
  exact this
theorem bytes_none (w : World) (S : Nat → Prop) : BytesAt w S none ByteArray.empty := fun j hj => absurd hj (by have : ByteArray.empty.size = 0 := rfl; omega)
theorem in_leaf (k : Int) (b : Bool) (i : Int) (f : Nat) (tx : ByteArray) (rf : Int) (w : World) (S : Nat → Prop) (hk : 1 ≤ k ∧ k ≤ 10) (hi : -9223372036854775808 ≤ i ∧ i ≤ 9223372036854775807) (hf : f < 18446744073709551616) (htx : tx.size ≤ 65536) (hr : 0 ≤ rf ∧ rf ≤ 18446744073709551615) :
    (lfT k b i f tx ByteArray.empty rf).In w S #[.int .i64 k, .bool b, .int .i64 i, .float .f64 f, .string tx, .slice none 0 0, .int .u64 rf, .slice none 0 0, .slice none 0 0, .string ⟨#[]⟩, .int .i64 0] := by
  refine ⟨none, 0, none, 0, none, 0, rfl, ⟨by omega, by omega, hi.1, hi.2, hf, hr.1, hr.2, by decide, by decide, by omega, by decide, by decide, by decide, by decide⟩, bytes_none _ _, trivial, trivial⟩
theorem in_bytes (s : ByteArray) (w : World) (S : Nat → Prop) (g C : Nat) (hs : s.size ≤ 65536) (hg : S g) (fz : Nat × Nat) (hr : w.heap[g]? = some (.cells (bytesRow s C) 5 fz)) :
    (lfT 6 false 0 0 ByteArray.empty s 0).In w S #[.int .i64 6, .bool false, .int .i64 0, .float .f64 0, .string ⟨#[]⟩, .slice (some ⟨g, 0, none⟩) s.size C, .int .u64 0, .slice none 0 0, .slice none 0 0, .string ⟨#[]⟩, .int .i64 0] := by
  refine ⟨some ⟨g, 0, none⟩, C, none, 0, none, 0, rfl, ⟨by decide, by decide, by decide, by decide, by decide, by decide, by decide, by decide, by decide, by decide, by decide, by omega, by decide, by decide⟩, fun j hj => ⟨g, 0, rfl, hg, ?_⟩, trivial, trivial⟩
  rw [Nat.zero_add, cell_of_row _ _ j _ _ _ hr, bytesRow_at s C j hj]
  have hj2 : j < s.data.size := hj
  unfold Sp.byte
  rw [Array.getD_eq_getD_getElem?, Array.getElem?_eq_getElem hj2]; rfl
theorem in_list (L : TmL) (w : World) (S : Nat → Prop) (al : Option Addr) (cl : Nat) (hl : L.len ≤ 4096) (h : L.In w S al 0) :
    (Tm.mk 8 false 0 0 ByteArray.empty ByteArray.empty 0 L .nil ByteArray.empty 0).In w S #[.int .i64 8, .bool false, .int .i64 0, .float .f64 0, .string ⟨#[]⟩, .slice none 0 0, .int .u64 0, .slice al L.len cl, .slice none 0 0, .string ⟨#[]⟩, .int .i64 0] := by
  refine ⟨none, 0, al, cl, none, 0, rfl, ⟨by decide, by decide, by decide, by decide, by decide, by decide, by decide, by decide, by decide, by decide, by decide, by decide, by omega, by decide⟩, bytes_none _ _, h, trivial⟩
theorem in_fields (k : Int) (hk : 1 ≤ k ∧ k ≤ 10) (L : TmF) (c : ByteArray) (v : Nat) (w : World) (S : Nat → Prop) (al : Option Addr) (cl : Nat) (hl : L.len ≤ 4096) (hc : c.size ≤ 65536) (hv : v ≤ 1000) (h : L.In w S al 0) :
    (Tm.mk k false 0 0 ByteArray.empty ByteArray.empty 0 .nil L c v).In w S #[.int .i64 k, .bool false, .int .i64 0, .float .f64 0, .string ⟨#[]⟩, .slice none 0 0, .int .u64 0, .slice none 0 0, .slice al L.len cl, .string c, .int .i64 (v : Int)] := by
  refine ⟨none, 0, none, 0, al, cl, rfl, ⟨by omega, by omega, by decide, by decide, by decide, by decide, by decide, by omega, by omega, by decide, by omega, by decide, by decide, by omega⟩, bytes_none _ _, trivial, h⟩
/-- what is known of the bytes that are read -/
structure RX (xs : List Int) (a : Option Addr) (cap s : Nat) (w : World) : Prop where
  hby : By xs
  hcp : xs.length ≤ cap
  hnl : a = none → cap = 0
  hsp : ∀ q, a = some q → q.spot = none
  hrd : RdB w (Lo w.heap.size) a xs
  hln : xs.length ≤ 281474976710656
  hls : s + 1 ≤ xs.length
set_option maxRecDepth 100000 in
set_option maxHeartbeats 4000000 in
theorem rgbody_all1 (xs : List Int) (a : Option Addr) (cap s p : Nat) (deep : Int) (w : World) (hX : RX xs a cap s w) (step : Nat → Nat → Rs (Tm × Nat)) :
    Calls Try.prog 93 #[.agg #[.slice a xs.length cap, .int .i64 ((s + 1 : Nat) : Int), .int .i64 (p : Int), .int .i64 0, .int .i64 0], .agg #[.int .i64 1, .bool false, .int .i64 0, .float .f64 0, .string ⟨#[]⟩, .slice none 0 0, .int .u64 0, .slice none 0 0, .slice none 0 0, .string ⟨#[]⟩, .int .i64 0], .int .i64 (s : Int), .int .i64 deep] w fun e w' => ∃ (a2 p2 q : Nat) (er : Int) (u : Int) (b : Bool) (i : Int) (f : Nat) (tx : ByteArray) (ab : Option Addr) (nb cb : Nat) (rf : Int) (al : Option Addr) (nl cl : Nat) (af : Option Addr) (nf cf : Nat) (c : ByteArray) (vr : Int), e = .returned (.tuple #[.agg #[.slice a xs.length cap, .int .i64 (a2 : Int), .int .i64 (p2 : Int), .int .i64 (q : Int), .int .i64 er], .agg #[.int .i64 u, .bool b, .int .i64 i, .float .f64 f, .string tx, .slice ab nb cb, .int .u64 rf, .slice al nl cl, .slice af nf cf, .string c, .int .i64 vr]]) ∧ Below w.heap.size w w' ∧ BR xs step 1 s p w w' a2 p2 q er #[.int .i64 u, .bool b, .int .i64 i, .float .f64 f, .string tx, .slice ab nb cb, .int .u64 rf, .slice al nl cl, .slice af nf cf, .string c, .int .i64 vr] := by
  obtain ⟨hby, hcp, hnl, hsp, hrd, hln, hls⟩ := hX
  refine (rgbody_nil a xs.length cap (s + 1) p s deep w).mono ?_
  rintro e w' ⟨rfl, hb⟩
  exact ⟨s + 1, p, 0, 0, _, _, _, _, _, _, _, _, _, _, _, _, _, _, _, _, _, rfl, hb, .inl ⟨lfT 1 false 0 0 ByteArray.empty ByteArray.empty 0, by simp [Sp.rdB], rfl, rfl, hls, in_leaf 1 false 0 0 _ 0 _ _ (by decide) (by decide) (by decide) (by decide) (by decide)⟩⟩
set_option maxRecDepth 100000 in
set_option maxHeartbeats 4000000 in
theorem rgbody_all2 (xs : List Int) (a : Option Addr) (cap s p : Nat) (deep : Int) (w : World) (hX : RX xs a cap s w) (step : Nat → Nat → Rs (Tm × Nat)) :
    Calls Try.prog 93 #[.agg #[.slice a xs.length cap, .int .i64 ((s + 1 : Nat) : Int), .int .i64 (p : Int), .int .i64 0, .int .i64 0], .agg #[.int .i64 2, .bool false, .int .i64 0, .float .f64 0, .string ⟨#[]⟩, .slice none 0 0, .int .u64 0, .slice none 0 0, .slice none 0 0, .string ⟨#[]⟩, .int .i64 0], .int .i64 (s : Int), .int .i64 deep] w fun e w' => ∃ (a2 p2 q : Nat) (er : Int) (u : Int) (b : Bool) (i : Int) (f : Nat) (tx : ByteArray) (ab : Option Addr) (nb cb : Nat) (rf : Int) (al : Option Addr) (nl cl : Nat) (af : Option Addr) (nf cf : Nat) (c : ByteArray) (vr : Int), e = .returned (.tuple #[.agg #[.slice a xs.length cap, .int .i64 (a2 : Int), .int .i64 (p2 : Int), .int .i64 (q : Int), .int .i64 er], .agg #[.int .i64 u, .bool b, .int .i64 i, .float .f64 f, .string tx, .slice ab nb cb, .int .u64 rf, .slice al nl cl, .slice af nf cf, .string c, .int .i64 vr]]) ∧ Below w.heap.size w w' ∧ BR xs step 2 s p w w' a2 p2 q er #[.int .i64 u, .bool b, .int .i64 i, .float .f64 f, .string tx, .slice ab nb cb, .int .u64 rf, .slice al nl cl, .slice af nf cf, .string c, .int .i64 vr] := by
  obtain ⟨hby, hcp, hnl, hsp, hrd, hln, hls⟩ := hX
  cases hx : xs[s + 1]? with
  | none =>
    have hl : s + 1 = xs.length := by have := List.getElem?_eq_none_iff.1 hx; omega
    rw [hl]
    refine (rgbody_bool_end a xs.length cap p s deep w).mono ?_
    rintro e w' ⟨rfl, hb⟩
    exact ⟨xs.length, p, xs.length, 4, _, _, _, _, _, _, _, _, _, _, _, _, _, _, _, _, _, rfl, hb, .inr ⟨(by decide), by simp [Sp.rdB, hx]⟩⟩
  | some c =>
    have hl : s + 1 < xs.length := (List.getElem?_eq_some_iff.1 hx).1
    by_cases h1 : 1 < c
    · refine (rgbody_bool_bad xs a cap (s + 1) p s deep c w hx h1 hrd hln).mono ?_
      rintro e w' ⟨rfl, hb⟩
      exact ⟨s + 1 + 1, p, s + 1, 30, _, _, _, _, _, _, _, _, _, _, _, _, _, _, _, _, _, rfl, hb, .inr ⟨(by decide), by simp [Sp.rdB, hx, h1]⟩⟩
    · refine (rgbody_bool xs a cap (s + 1) p s deep c (c == 1) w hx rfl (by omega) hrd hln).mono ?_
      rintro e w' ⟨rfl, hb⟩
      exact ⟨s + 1 + 1, p, 0, 0, _, _, _, _, _, _, _, _, _, _, _, _, _, _, _, _, _, rfl, hb, .inl ⟨lfT 2 (c == 1) 0 0 ByteArray.empty ByteArray.empty 0, by simp [Sp.rdB, hx, h1], rfl, rfl, (by omega), in_leaf 2 (c == 1) 0 0 _ 0 _ _ (by decide) (by decide) (by decide) (by decide) (by decide)⟩⟩
set_option maxRecDepth 100000 in
set_option maxHeartbeats 4000000 in
theorem rgbody_all3 (xs : List Int) (a : Option Addr) (cap s p : Nat) (deep : Int) (w : World) (hX : RX xs a cap s w) (step : Nat → Nat → Rs (Tm × Nat)) :
    Calls Try.prog 93 #[.agg #[.slice a xs.length cap, .int .i64 ((s + 1 : Nat) : Int), .int .i64 (p : Int), .int .i64 0, .int .i64 0], .agg #[.int .i64 3, .bool false, .int .i64 0, .float .f64 0, .string ⟨#[]⟩, .slice none 0 0, .int .u64 0, .slice none 0 0, .slice none 0 0, .string ⟨#[]⟩, .int .i64 0], .int .i64 (s : Int), .int .i64 deep] w fun e w' => ∃ (a2 p2 q : Nat) (er : Int) (u : Int) (b : Bool) (i : Int) (f : Nat) (tx : ByteArray) (ab : Option Addr) (nb cb : Nat) (rf : Int) (al : Option Addr) (nl cl : Nat) (af : Option Addr) (nf cf : Nat) (c : ByteArray) (vr : Int), e = .returned (.tuple #[.agg #[.slice a xs.length cap, .int .i64 (a2 : Int), .int .i64 (p2 : Int), .int .i64 (q : Int), .int .i64 er], .agg #[.int .i64 u, .bool b, .int .i64 i, .float .f64 f, .string tx, .slice ab nb cb, .int .u64 rf, .slice al nl cl, .slice af nf cf, .string c, .int .i64 vr]]) ∧ Below w.heap.size w w' ∧ BR xs step 3 s p w w' a2 p2 q er #[.int .i64 u, .bool b, .int .i64 i, .float .f64 f, .string tx, .slice ab nb cb, .int .u64 rf, .slice al nl cl, .slice af nf cf, .string c, .int .i64 vr] := by
  obtain ⟨hby, hcp, hnl, hsp, hrd, hln, hls⟩ := hX
  cases hn : Sp.rn xs (s + 1) 10 0 0 with
  | bad q er =>
    have her := rn_er _ _ _ _ _ hn
    refine (rgbody_int_bad xs hby a cap (s + 1) p s deep w hrd hln q er hn hls).mono ?_
    rintro e w' ⟨a2, rfl, hb⟩
    exact ⟨a2, p, q, er, _, _, _, _, _, _, _, _, _, _, _, _, _, _, _, _, _, rfl, hb, .inr ⟨her, by simp [Sp.rdB, hn]⟩⟩
  | ok v a2 =>
    have hv := rn_lt hby 10 0 0 v a2 rfl (by decide) hn
    have hub := unfold_bd hv
    rcases Nat.mod_two_eq_zero_or_one v with hm | hm
    · refine (rgbody_int0 xs hby a cap (s + 1) p s deep w hrd hln v a2 hn hv hm).mono ?_
      rintro e w' ⟨rfl, hb⟩
      exact ⟨a2, p, 0, 0, _, _, _, _, _, _, _, _, _, _, _, _, _, _, _, _, _, rfl, hb, .inl ⟨lfT 3 false (Sp.unfold' v) 0 ByteArray.empty ByteArray.empty 0, by simp [Sp.rdB, hn], rfl, rfl, rn_ok _ _ _ _ _ hn, in_leaf 3 false (Sp.unfold' v) 0 _ 0 _ _ (by decide) hub (by decide) (by decide) (by decide)⟩⟩
    · refine (rgbody_int1 xs hby a cap (s + 1) p s deep w hrd hln v a2 hn hv hm).mono ?_
      rintro e w' ⟨rfl, hb⟩
      exact ⟨a2, p, 0, 0, _, _, _, _, _, _, _, _, _, _, _, _, _, _, _, _, _, rfl, hb, .inl ⟨lfT 3 false (Sp.unfold' v) 0 ByteArray.empty ByteArray.empty 0, by simp [Sp.rdB, hn], rfl, rfl, rn_ok _ _ _ _ _ hn, in_leaf 3 false (Sp.unfold' v) 0 _ 0 _ _ (by decide) hub (by decide) (by decide) (by decide)⟩⟩
set_option maxRecDepth 100000 in
set_option maxHeartbeats 4000000 in
theorem rgbody_all4 (xs : List Int) (a : Option Addr) (cap s p : Nat) (deep : Int) (w : World) (hX : RX xs a cap s w) (step : Nat → Nat → Rs (Tm × Nat)) :
    Calls Try.prog 93 #[.agg #[.slice a xs.length cap, .int .i64 ((s + 1 : Nat) : Int), .int .i64 (p : Int), .int .i64 0, .int .i64 0], .agg #[.int .i64 4, .bool false, .int .i64 0, .float .f64 0, .string ⟨#[]⟩, .slice none 0 0, .int .u64 0, .slice none 0 0, .slice none 0 0, .string ⟨#[]⟩, .int .i64 0], .int .i64 (s : Int), .int .i64 deep] w fun e w' => ∃ (a2 p2 q : Nat) (er : Int) (u : Int) (b : Bool) (i : Int) (f : Nat) (tx : ByteArray) (ab : Option Addr) (nb cb : Nat) (rf : Int) (al : Option Addr) (nl cl : Nat) (af : Option Addr) (nf cf : Nat) (c : ByteArray) (vr : Int), e = .returned (.tuple #[.agg #[.slice a xs.length cap, .int .i64 (a2 : Int), .int .i64 (p2 : Int), .int .i64 (q : Int), .int .i64 er], .agg #[.int .i64 u, .bool b, .int .i64 i, .float .f64 f, .string tx, .slice ab nb cb, .int .u64 rf, .slice al nl cl, .slice af nf cf, .string c, .int .i64 vr]]) ∧ Below w.heap.size w w' ∧ BR xs step 4 s p w w' a2 p2 q er #[.int .i64 u, .bool b, .int .i64 i, .float .f64 f, .string tx, .slice ab nb cb, .int .u64 rf, .slice al nl cl, .slice af nf cf, .string c, .int .i64 vr] := by
  obtain ⟨hby, hcp, hnl, hsp, hrd, hln, hls⟩ := hX
  by_cases hl : s + 1 + 8 ≤ xs.length
  · refine (rgbody_float xs hby a cap (s + 1) p s deep w hrd hln hl).mono ?_
    rintro e w' ⟨rfl, hb⟩
    have hlt : b256 ((xs.drop (s + 1)).take 8) < 18446744073709551616 := b256_lt (fun x hx => hby x (List.mem_of_mem_drop (List.mem_of_mem_take hx))) (by rw [List.length_take, List.length_drop]; omega)
    exact ⟨s + 1 + 8, p, 0, 0, _, _, _, _, _, _, _, _, _, _, _, _, _, _, _, _, _, rfl, hb, .inl ⟨lfT 4 false 0 (b256 ((xs.drop (s + 1)).take 8)) ByteArray.empty ByteArray.empty 0, by simp [Sp.rdB, Sp.tk, hl, b256], rfl, rfl, hl, in_leaf 4 false 0 _ _ 0 _ _ (by decide) (by decide) hlt (by decide) (by decide)⟩⟩
  · refine (rgbody_float_bad xs hby a cap (s + 1) p s deep w hrd hln hls hl).mono ?_
    rintro e w' ⟨a2, m, rfl, hb⟩
    exact ⟨a2, p, xs.length, 4, _, _, _, _, _, _, _, _, _, _, _, _, _, _, _, _, _, rfl, hb, .inr ⟨(by decide), by simp [Sp.rdB, Sp.tk, hl]⟩⟩
set_option maxRecDepth 100000 in
set_option maxHeartbeats 4000000 in
theorem rgbody_all5 (xs : List Int) (a : Option Addr) (cap s p : Nat) (deep : Int) (w : World) (hX : RX xs a cap s w) (step : Nat → Nat → Rs (Tm × Nat)) :
    Calls Try.prog 93 #[.agg #[.slice a xs.length cap, .int .i64 ((s + 1 : Nat) : Int), .int .i64 (p : Int), .int .i64 0, .int .i64 0], .agg #[.int .i64 5, .bool false, .int .i64 0, .float .f64 0, .string ⟨#[]⟩, .slice none 0 0, .int .u64 0, .slice none 0 0, .slice none 0 0, .string ⟨#[]⟩, .int .i64 0], .int .i64 (s : Int), .int .i64 deep] w fun e w' => ∃ (a2 p2 q : Nat) (er : Int) (u : Int) (b : Bool) (i : Int) (f : Nat) (tx : ByteArray) (ab : Option Addr) (nb cb : Nat) (rf : Int) (al : Option Addr) (nl cl : Nat) (af : Option Addr) (nf cf : Nat) (c : ByteArray) (vr : Int), e = .returned (.tuple #[.agg #[.slice a xs.length cap, .int .i64 (a2 : Int), .int .i64 (p2 : Int), .int .i64 (q : Int), .int .i64 er], .agg #[.int .i64 u, .bool b, .int .i64 i, .float .f64 f, .string tx, .slice ab nb cb, .int .u64 rf, .slice al nl cl, .slice af nf cf, .string c, .int .i64 vr]]) ∧ Below w.heap.size w w' ∧ BR xs step 5 s p w w' a2 p2 q er #[.int .i64 u, .bool b, .int .i64 i, .float .f64 f, .string tx, .slice ab nb cb, .int .u64 rf, .slice al nl cl, .slice af nf cf, .string c, .int .i64 vr] := by
  obtain ⟨hby, hcp, hnl, hsp, hrd, hln, hls⟩ := hX
  cases hn : Sp.rn xs (s + 1) 10 0 0 with
  | bad q er =>
    have her := rn_er _ _ _ _ _ hn
    refine (rgbody_text_bad xs hby a cap (s + 1) p s deep w hrd hln q er her hn hls).mono ?_
    rintro e w' ⟨a2, rfl, hb⟩
    exact ⟨a2, p, q, er, _, _, _, _, _, _, _, _, _, _, _, _, _, _, _, _, _, rfl, hb, .inr ⟨her, by simp [Sp.rdB, Sp.cnt, hn]⟩⟩
  | ok n a1 =>
    have ha1 := rn_ok _ _ _ _ _ hn
    by_cases hx : 65536 < n
    · refine (rgbody_text_most xs hby a cap (s + 1) p s deep w hrd hln n a1 hn hx).mono ?_
      rintro e w' ⟨rfl, hb⟩
      exact ⟨a1, p, s, 2, _, _, _, _, _, _, _, _, _, _, _, _, _, _, _, _, _, rfl, hb, .inr ⟨(by decide), by simp [Sp.rdB, Sp.cnt, hn, hx]⟩⟩
    · by_cases hl : a1 + n ≤ xs.length
      · refine (rgbody_text_ok xs hby a cap (s + 1) p s deep w hcp hnl hsp hrd hln n a1 hn (by omega) hl).mono ?_
        rintro e w' ⟨rfl, hb⟩
        exact ⟨a1 + n, p, 0, 0, _, _, _, _, _, _, _, _, _, _, _, _, _, _, _, _, _, rfl, hb, .inl ⟨lfT 5 false 0 0 (Sp.txt ((xs.drop a1).take n)) ByteArray.empty 0, by simp [Sp.rdB, Sp.cnt, Sp.tk, hn, hx, hl], rfl, rfl, hl, in_leaf 5 false 0 0 (Sp.txt ((xs.drop a1).take n)) 0 _ _ (by decide) (by decide) (by decide) (by rw [txt_size]; have := List.length_take_le n (xs.drop a1); omega) (by decide)⟩⟩
      · refine (rgbody_text_short xs hby a cap (s + 1) p s deep w hrd hln n a1 hn (by omega) ha1 hl).mono ?_
        rintro e w' ⟨rfl, hb⟩
        exact ⟨a1, p, xs.length, 4, _, _, _, _, _, _, _, _, _, _, _, _, _, _, _, _, _, rfl, hb, .inr ⟨(by decide), by simp [Sp.rdB, Sp.cnt, Sp.tk, hn, hx, hl]⟩⟩
set_option maxRecDepth 100000 in
set_option maxHeartbeats 4000000 in
theorem rgbody_all6 (xs : List Int) (a : Option Addr) (cap s p : Nat) (deep : Int) (w : World) (hX : RX xs a cap s w) (step : Nat → Nat → Rs (Tm × Nat)) :
    Calls Try.prog 93 #[.agg #[.slice a xs.length cap, .int .i64 ((s + 1 : Nat) : Int), .int .i64 (p : Int), .int .i64 0, .int .i64 0], .agg #[.int .i64 6, .bool false, .int .i64 0, .float .f64 0, .string ⟨#[]⟩, .slice none 0 0, .int .u64 0, .slice none 0 0, .slice none 0 0, .string ⟨#[]⟩, .int .i64 0], .int .i64 (s : Int), .int .i64 deep] w fun e w' => ∃ (a2 p2 q : Nat) (er : Int) (u : Int) (b : Bool) (i : Int) (f : Nat) (tx : ByteArray) (ab : Option Addr) (nb cb : Nat) (rf : Int) (al : Option Addr) (nl cl : Nat) (af : Option Addr) (nf cf : Nat) (c : ByteArray) (vr : Int), e = .returned (.tuple #[.agg #[.slice a xs.length cap, .int .i64 (a2 : Int), .int .i64 (p2 : Int), .int .i64 (q : Int), .int .i64 er], .agg #[.int .i64 u, .bool b, .int .i64 i, .float .f64 f, .string tx, .slice ab nb cb, .int .u64 rf, .slice al nl cl, .slice af nf cf, .string c, .int .i64 vr]]) ∧ Below w.heap.size w w' ∧ BR xs step 6 s p w w' a2 p2 q er #[.int .i64 u, .bool b, .int .i64 i, .float .f64 f, .string tx, .slice ab nb cb, .int .u64 rf, .slice al nl cl, .slice af nf cf, .string c, .int .i64 vr] := by
  obtain ⟨hby, hcp, hnl, hsp, hrd, hln, hls⟩ := hX
  cases hn : Sp.rn xs (s + 1) 10 0 0 with
  | bad q er =>
    have her := rn_er _ _ _ _ _ hn
    refine (rgbody_bytes_bad xs hby a cap (s + 1) p s deep w hrd hln q er her hn hls).mono ?_
    rintro e w' ⟨g, m, C, a2, rfl, hb⟩
    exact ⟨a2, p, q, er, _, _, _, _, _, _, _, _, _, _, _, _, _, _, _, _, _, rfl, hb, .inr ⟨her, by simp [Sp.rdB, Sp.cnt, hn]⟩⟩
  | ok n a1 =>
    have ha1 := rn_ok _ _ _ _ _ hn
    by_cases hx : 65536 < n
    · refine (rgbody_bytes_most xs hby a cap (s + 1) p s deep w hrd hln n a1 hn hx).mono ?_
      rintro e w' ⟨g, m, C, rfl, hb⟩
      exact ⟨a1, p, s, 2, _, _, _, _, _, _, _, _, _, _, _, _, _, _, _, _, _, rfl, hb, .inr ⟨(by decide), by simp [Sp.rdB, Sp.cnt, hn, hx]⟩⟩
    · by_cases hl : a1 + n ≤ xs.length
      · refine (rgbody_bytes_ok xs hby a cap (s + 1) p s deep w hcp hnl hsp hrd hln n a1 hn (by omega) hl).mono ?_
        rintro e w' ⟨g, m, C, rfl, hb, rfl, hg1, hg2, hrow⟩
        exact ⟨a1 + n, p, 0, 0, _, _, _, _, _, _, _, _, _, _, _, _, _, _, _, _, _, rfl, hb, .inl ⟨lfT 6 false 0 0 ByteArray.empty (Sp.txt ((xs.drop a1).take n)) 0, by simp [Sp.rdB, Sp.cnt, Sp.tk, hn, hx, hl], rfl, rfl, hl, in_bytes (Sp.txt ((xs.drop a1).take n)) _ _ g C (by rw [txt_size]; have := List.length_take_le n (xs.drop a1); omega) ⟨hg1, hg2⟩ _ hrow⟩⟩
      · refine (rgbody_bytes_short xs hby a cap (s + 1) p s deep w hrd hln n a1 hn (by omega) ha1 hl).mono ?_
        rintro e w' ⟨g, m, C, rfl, hb⟩
        exact ⟨a1, p, xs.length, 4, _, _, _, _, _, _, _, _, _, _, _, _, _, _, _, _, _, rfl, hb, .inr ⟨(by decide), by simp [Sp.rdB, Sp.cnt, Sp.tk, hn, hx, hl]⟩⟩
set_option maxRecDepth 100000 in
set_option maxHeartbeats 4000000 in
theorem rgbody_all7 (xs : List Int) (a : Option Addr) (cap s p : Nat) (deep : Int) (w : World) (hX : RX xs a cap s w) (step : Nat → Nat → Rs (Tm × Nat)) :
    Calls Try.prog 93 #[.agg #[.slice a xs.length cap, .int .i64 ((s + 1 : Nat) : Int), .int .i64 (p : Int), .int .i64 0, .int .i64 0], .agg #[.int .i64 7, .bool false, .int .i64 0, .float .f64 0, .string ⟨#[]⟩, .slice none 0 0, .int .u64 0, .slice none 0 0, .slice none 0 0, .string ⟨#[]⟩, .int .i64 0], .int .i64 (s : Int), .int .i64 deep] w fun e w' => ∃ (a2 p2 q : Nat) (er : Int) (u : Int) (b : Bool) (i : Int) (f : Nat) (tx : ByteArray) (ab : Option Addr) (nb cb : Nat) (rf : Int) (al : Option Addr) (nl cl : Nat) (af : Option Addr) (nf cf : Nat) (c : ByteArray) (vr : Int), e = .returned (.tuple #[.agg #[.slice a xs.length cap, .int .i64 (a2 : Int), .int .i64 (p2 : Int), .int .i64 (q : Int), .int .i64 er], .agg #[.int .i64 u, .bool b, .int .i64 i, .float .f64 f, .string tx, .slice ab nb cb, .int .u64 rf, .slice al nl cl, .slice af nf cf, .string c, .int .i64 vr]]) ∧ Below w.heap.size w w' ∧ BR xs step 7 s p w w' a2 p2 q er #[.int .i64 u, .bool b, .int .i64 i, .float .f64 f, .string tx, .slice ab nb cb, .int .u64 rf, .slice al nl cl, .slice af nf cf, .string c, .int .i64 vr] := by
  obtain ⟨hby, hcp, hnl, hsp, hrd, hln, hls⟩ := hX
  cases hn : Sp.rn xs (s + 1) 10 0 0 with
  | bad q er =>
    have her := rn_er _ _ _ _ _ hn
    refine (rgbody_ref_bad xs hby a cap (s + 1) p s deep w hrd hln q er hn hls).mono ?_
    rintro e w' ⟨a2, rfl, hb⟩
    exact ⟨a2, p, q, er, _, _, _, _, _, _, _, _, _, _, _, _, _, _, _, _, _, rfl, hb, .inr ⟨her, by simp [Sp.rdB, hn]⟩⟩
  | ok v a2 =>
    have hv := rn_lt hby 10 0 0 v a2 rfl (by decide) hn
    refine (rgbody_ref xs hby a cap (s + 1) p s deep w hrd hln v a2 hn hv).mono ?_
    rintro e w' ⟨rfl, hb⟩
    exact ⟨a2, p, 0, 0, _, _, _, _, _, _, _, _, _, _, _, _, _, _, _, _, _, rfl, hb, .inl ⟨lfT 7 false 0 0 ByteArray.empty ByteArray.empty v, by simp [Sp.rdB, hn], rfl, rfl, rn_ok _ _ _ _ _ hn, in_leaf 7 false 0 0 _ v _ _ (by decide) (by decide) (by decide) (by decide) (by omega)⟩⟩
set_option maxRecDepth 100000 in
set_option maxHeartbeats 4000000 in
theorem rgbody_all8 (xs : List Int) (a : Option Addr) (cap s p : Nat) (deep : Int) (w : World) (hX : RX xs a cap s w) (hdp : 0 ≤ deep ∧ deep ≤ 64) (step : Nat → Nat → Rs (Tm × Nat)) (HT : Hid (∀ (at0 p0 : Nat) (W : World), Below w.heap.size w W → at0 ≤ xs.length → Calls Try.prog 49 #[.agg #[.slice a xs.length cap, .int .i64 (at0 : Int), .int .i64 (p0 : Int), .int .i64 0, .int .i64 0], .int .i64 (deep + 1)] W fun e w' => ∃ (a2 p2 q : Nat) (er : Int) (u : Int) (b : Bool) (i : Int) (f : Nat) (tx : ByteArray) (ab : Option Addr) (nb cb : Nat) (rf : Int) (al : Option Addr) (nl cl : Nat) (af : Option Addr) (nf cf : Nat) (c : ByteArray) (vr : Int), e = .returned (.tuple #[.agg #[.slice a xs.length cap, .int .i64 (a2 : Int), .int .i64 (p2 : Int), .int .i64 (q : Int), .int .i64 er], .agg #[.int .i64 u, .bool b, .int .i64 i, .float .f64 f, .string tx, .slice ab nb cb, .int .u64 rf, .slice al nl cl, .slice af nf cf, .string c, .int .i64 vr]]) ∧ Below W.heap.size W w' ∧ TR step xs.length at0 p0 W w' a2 p2 q er #[.int .i64 u, .bool b, .int .i64 i, .float .f64 f, .string tx, .slice ab nb cb, .int .u64 rf, .slice al nl cl, .slice af nf cf, .string c, .int .i64 vr])) :
    Calls Try.prog 93 #[.agg #[.slice a xs.length cap, .int .i64 ((s + 1 : Nat) : Int), .int .i64 (p : Int), .int .i64 0, .int .i64 0], .agg #[.int .i64 8, .bool false, .int .i64 0, .float .f64 0, .string ⟨#[]⟩, .slice none 0 0, .int .u64 0, .slice none 0 0, .slice none 0 0, .string ⟨#[]⟩, .int .i64 0], .int .i64 (s : Int), .int .i64 deep] w fun e w' => ∃ (a2 p2 q : Nat) (er : Int) (u : Int) (b : Bool) (i : Int) (f : Nat) (tx : ByteArray) (ab : Option Addr) (nb cb : Nat) (rf : Int) (al : Option Addr) (nl cl : Nat) (af : Option Addr) (nf cf : Nat) (c : ByteArray) (vr : Int), e = .returned (.tuple #[.agg #[.slice a xs.length cap, .int .i64 (a2 : Int), .int .i64 (p2 : Int), .int .i64 (q : Int), .int .i64 er], .agg #[.int .i64 u, .bool b, .int .i64 i, .float .f64 f, .string tx, .slice ab nb cb, .int .u64 rf, .slice al nl cl, .slice af nf cf, .string c, .int .i64 vr]]) ∧ Below w.heap.size w w' ∧ BR xs step 8 s p w w' a2 p2 q er #[.int .i64 u, .bool b, .int .i64 i, .float .f64 f, .string tx, .slice ab nb cb, .int .u64 rf, .slice al nl cl, .slice af nf cf, .string c, .int .i64 vr] := by
  obtain ⟨hby, hcp, hnl, hsp, hrd, hln, hls⟩ := hX
  cases hn : Sp.rn xs (s + 1) 10 0 0 with
  | bad q er =>
    have her := rn_er _ _ _ _ _ hn
    refine (rgbody_list_stop xs a cap (s + 1) p s deep w 0 q er her (fun W hW => rglong_bad xs hby a cap (s + 1) p q er her 4096 s 2 W hn hls (hrd.same (Same.of_below hW (Nat.le_refl _)) (Lo.le hW.size)) hln)).mono ?_
    rintro e w' ⟨a2, rfl, hb⟩
    exact ⟨a2, p, q, er, _, _, _, _, _, _, _, _, _, _, _, _, _, _, _, _, _, rfl, hb, .inr ⟨her, by simp [Sp.rdB, Sp.cnt, hn]⟩⟩
  | ok n a1 =>
    by_cases hx : 4096 < n
    · refine (rgbody_list_stop xs a cap (s + 1) p s deep w n s 2 (by decide) (fun W hW => (rglong_most xs hby a cap (s + 1) p n a1 s 4096 2 W hn (by omega) (hrd.same (Same.of_below hW (Nat.le_refl _)) (Lo.le hW.size)) hln).mono fun e w' h => ⟨a1, h⟩)).mono ?_
      rintro e w' ⟨a2, rfl, hb⟩
      exact ⟨a2, p, s, 2, _, _, _, _, _, _, _, _, _, _, _, _, _, _, _, _, _, rfl, hb, .inr ⟨(by decide), by simp [Sp.rdB, Sp.cnt, hn, hx]⟩⟩
    · refine (rgbody_list xs hby a cap (s + 1) p s deep w hrd hln n a1 hn (rn_ok _ _ _ _ _ hn) (by omega) hdp step HT).mono ?_
      rintro e w' ⟨a2, p2, q, er, al, nl, cl, rfl, hb, hL⟩
      rcases hL with ⟨L, h1, rfl, rfl, h4, rfl, h6⟩ | ⟨her, h1⟩
      · exact ⟨a2, p2, 0, 0, _, _, _, _, _, _, _, _, _, _, _, _, _, _, _, _, _, rfl, hb, .inl ⟨Tm.mk 8 false 0 0 ByteArray.empty ByteArray.empty 0 L .nil ByteArray.empty 0, by simp [Sp.rdB, Sp.cnt, hn, hx, h1], rfl, rfl, h4, in_list L _ _ _ _ (by rw [rdL_len _ _ _ _ _ _ h1]; omega) h6⟩⟩
      · exact ⟨a2, p2, q, er, _, _, _, _, _, _, _, _, _, _, _, _, _, _, _, _, _, rfl, hb, .inr ⟨her, by simp [Sp.rdB, Sp.cnt, hn, hx, h1]⟩⟩
set_option maxRecDepth 100000 in
set_option maxHeartbeats 4000000 in
theorem rgbody_all9 (xs : List Int) (a : Option Addr) (cap s p : Nat) (deep : Int) (w : World) (hX : RX xs a cap s w) (hdp : 0 ≤ deep ∧ deep ≤ 64) (step : Nat → Nat → Rs (Tm × Nat)) (HT : Hid (∀ (at0 p0 : Nat) (W : World), Below w.heap.size w W → at0 ≤ xs.length → Calls Try.prog 49 #[.agg #[.slice a xs.length cap, .int .i64 (at0 : Int), .int .i64 (p0 : Int), .int .i64 0, .int .i64 0], .int .i64 (deep + 1)] W fun e w' => ∃ (a2 p2 q : Nat) (er : Int) (u : Int) (b : Bool) (i : Int) (f : Nat) (tx : ByteArray) (ab : Option Addr) (nb cb : Nat) (rf : Int) (al : Option Addr) (nl cl : Nat) (af : Option Addr) (nf cf : Nat) (c : ByteArray) (vr : Int), e = .returned (.tuple #[.agg #[.slice a xs.length cap, .int .i64 (a2 : Int), .int .i64 (p2 : Int), .int .i64 (q : Int), .int .i64 er], .agg #[.int .i64 u, .bool b, .int .i64 i, .float .f64 f, .string tx, .slice ab nb cb, .int .u64 rf, .slice al nl cl, .slice af nf cf, .string c, .int .i64 vr]]) ∧ Below W.heap.size W w' ∧ TR step xs.length at0 p0 W w' a2 p2 q er #[.int .i64 u, .bool b, .int .i64 i, .float .f64 f, .string tx, .slice ab nb cb, .int .u64 rf, .slice al nl cl, .slice af nf cf, .string c, .int .i64 vr])) :
    Calls Try.prog 93 #[.agg #[.slice a xs.length cap, .int .i64 ((s + 1 : Nat) : Int), .int .i64 (p : Int), .int .i64 0, .int .i64 0], .agg #[.int .i64 9, .bool false, .int .i64 0, .float .f64 0, .string ⟨#[]⟩, .slice none 0 0, .int .u64 0, .slice none 0 0, .slice none 0 0, .string ⟨#[]⟩, .int .i64 0], .int .i64 (s : Int), .int .i64 deep] w fun e w' => ∃ (a2 p2 q : Nat) (er : Int) (u : Int) (b : Bool) (i : Int) (f : Nat) (tx : ByteArray) (ab : Option Addr) (nb cb : Nat) (rf : Int) (al : Option Addr) (nl cl : Nat) (af : Option Addr) (nf cf : Nat) (c : ByteArray) (vr : Int), e = .returned (.tuple #[.agg #[.slice a xs.length cap, .int .i64 (a2 : Int), .int .i64 (p2 : Int), .int .i64 (q : Int), .int .i64 er], .agg #[.int .i64 u, .bool b, .int .i64 i, .float .f64 f, .string tx, .slice ab nb cb, .int .u64 rf, .slice al nl cl, .slice af nf cf, .string c, .int .i64 vr]]) ∧ Below w.heap.size w w' ∧ BR xs step 9 s p w w' a2 p2 q er #[.int .i64 u, .bool b, .int .i64 i, .float .f64 f, .string tx, .slice ab nb cb, .int .u64 rf, .slice al nl cl, .slice af nf cf, .string c, .int .i64 vr] := by
  obtain ⟨hby, hcp, hnl, hsp, hrd, hln, hls⟩ := hX
  refine (rgbody_dict a xs.length cap (s + 1) p s deep w (fun W W' a2 p2 q er af nf _ => DR xs s step (s + 1) p W W' a2 p2 q er af nf) (fun W hW => (rgfields_all xs hby a cap (s + 1) p s deep W hcp hnl hsp (hrd.same (Same.of_below hW (Nat.le_refl _)) (Lo.le hW.size)) hln hls hdp step (fun at0 p0 W' h => HT.out at0 p0 W' (below_to hW h))).mono fun e w' h => h)).mono ?_
  rintro e w' ⟨a2, p2, q, er, af, nf, cf, rfl, hb, W, W', hbw, hsm, hsz, hD⟩
  rcases hD with ⟨L, h1, rfl, rfl, h4, rfl, h5, h7⟩ | ⟨her, h1⟩
  · exact ⟨a2, p2, 0, 0, _, _, _, _, _, _, _, _, _, _, _, _, _, _, _, _, _, rfl, hb, .inl ⟨Tm.mk 9 false 0 0 ByteArray.empty ByteArray.empty 0 .nil L ByteArray.empty 0, by simp [Sp.rdB, h1], rfl, rfl, h4, in_fields 9 (by decide) L ByteArray.empty 0 _ _ _ _ h5 (by decide) (by decide) (L.In_same (B := Fr W W') (B' := Fr w w') hsm (fun k hk => ⟨by have := hk.1; have := hbw.size; omega, by have := hk.2; omega⟩) _ _ h7)⟩⟩
  · exact ⟨a2, p2, q, er, _, _, _, _, _, _, _, _, _, _, _, _, _, _, _, _, _, rfl, hb, .inr ⟨her, by simp [Sp.rdB, h1]⟩⟩
set_option maxRecDepth 100000 in
set_option maxHeartbeats 4000000 in
theorem rgbody_all10 (xs : List Int) (a : Option Addr) (cap s p : Nat) (deep : Int) (w : World) (hX : RX xs a cap s w) (hdp : 0 ≤ deep ∧ deep ≤ 64) (step : Nat → Nat → Rs (Tm × Nat)) (HT : Hid (∀ (at0 p0 : Nat) (W : World), Below w.heap.size w W → at0 ≤ xs.length → Calls Try.prog 49 #[.agg #[.slice a xs.length cap, .int .i64 (at0 : Int), .int .i64 (p0 : Int), .int .i64 0, .int .i64 0], .int .i64 (deep + 1)] W fun e w' => ∃ (a2 p2 q : Nat) (er : Int) (u : Int) (b : Bool) (i : Int) (f : Nat) (tx : ByteArray) (ab : Option Addr) (nb cb : Nat) (rf : Int) (al : Option Addr) (nl cl : Nat) (af : Option Addr) (nf cf : Nat) (c : ByteArray) (vr : Int), e = .returned (.tuple #[.agg #[.slice a xs.length cap, .int .i64 (a2 : Int), .int .i64 (p2 : Int), .int .i64 (q : Int), .int .i64 er], .agg #[.int .i64 u, .bool b, .int .i64 i, .float .f64 f, .string tx, .slice ab nb cb, .int .u64 rf, .slice al nl cl, .slice af nf cf, .string c, .int .i64 vr]]) ∧ Below W.heap.size W w' ∧ TR step xs.length at0 p0 W w' a2 p2 q er #[.int .i64 u, .bool b, .int .i64 i, .float .f64 f, .string tx, .slice ab nb cb, .int .u64 rf, .slice al nl cl, .slice af nf cf, .string c, .int .i64 vr])) :
    Calls Try.prog 93 #[.agg #[.slice a xs.length cap, .int .i64 ((s + 1 : Nat) : Int), .int .i64 (p : Int), .int .i64 0, .int .i64 0], .agg #[.int .i64 10, .bool false, .int .i64 0, .float .f64 0, .string ⟨#[]⟩, .slice none 0 0, .int .u64 0, .slice none 0 0, .slice none 0 0, .string ⟨#[]⟩, .int .i64 0], .int .i64 (s : Int), .int .i64 deep] w fun e w' => ∃ (a2 p2 q : Nat) (er : Int) (u : Int) (b : Bool) (i : Int) (f : Nat) (tx : ByteArray) (ab : Option Addr) (nb cb : Nat) (rf : Int) (al : Option Addr) (nl cl : Nat) (af : Option Addr) (nf cf : Nat) (c : ByteArray) (vr : Int), e = .returned (.tuple #[.agg #[.slice a xs.length cap, .int .i64 (a2 : Int), .int .i64 (p2 : Int), .int .i64 (q : Int), .int .i64 er], .agg #[.int .i64 u, .bool b, .int .i64 i, .float .f64 f, .string tx, .slice ab nb cb, .int .u64 rf, .slice al nl cl, .slice af nf cf, .string c, .int .i64 vr]]) ∧ Below w.heap.size w w' ∧ BR xs step 10 s p w w' a2 p2 q er #[.int .i64 u, .bool b, .int .i64 i, .float .f64 f, .string tx, .slice ab nb cb, .int .u64 rf, .slice al nl cl, .slice af nf cf, .string c, .int .i64 vr] := by
  obtain ⟨hby, hcp, hnl, hsp, hrd, hln, hls⟩ := hX
  cases hr : Sp.rdN xs (s + 1) s with
  | bad q er =>
    have her := rdN_er hr
    refine (rgbody_rec_name xs hby a cap (s + 1) p s deep w hcp hnl hsp hrd hln hls q er her hr).mono ?_
    rintro e w' ⟨a2, sc, vv, af, cf, rfl, hb⟩
    exact ⟨a2, p, q, er, _, _, _, _, _, _, _, _, _, _, _, _, _, _, _, _, _, rfl, hb, .inr ⟨her, by simp [Sp.rdB, hr]⟩⟩
  | ok l a1 =>
    obtain ⟨m, b, _, hm32, hbm, hlm, ham, _⟩ := rdN_ok hr
    have ha1 : a1 ≤ xs.length := by omega
    have hlz : (Sp.txt l).size ≤ 65536 := by rw [txt_size, hlm]; have := List.length_take_le m (xs.drop b); omega
    cases hn : Sp.rn xs a1 10 0 0 with
    | bad q er =>
      have her := rn_er _ _ _ _ _ hn
      refine (rgbody_rec_num xs hby a cap (s + 1) p s deep w hcp hnl hsp hrd hln l a1 hr ha1 q er her hn).mono ?_
      rintro e w' ⟨a2, sc, vv, af, cf, rfl, hb⟩
      exact ⟨a2, p, q, er, _, _, _, _, _, _, _, _, _, _, _, _, _, _, _, _, _, rfl, hb, .inr ⟨her, by simp [Sp.rdB, hr, hn]⟩⟩
    | ok v a3 =>
      have ha3 := rn_ok _ _ _ _ _ hn
      by_cases hv1 : v < 1
      · refine (rgbody_rec_low xs hby a cap (s + 1) p s deep w hcp hnl hsp hrd hln l a1 v a3 hr hn hv1).mono ?_
        rintro e w' ⟨a2, sc, vv, af, cf, rfl, hb⟩
        exact ⟨a2, p, s, 1, _, _, _, _, _, _, _, _, _, _, _, _, _, _, _, _, _, rfl, hb, .inr ⟨(by decide), by simp only [Sp.rdB]; simp only [hr, hn]; rw [if_pos (Or.inl hv1)]; simp⟩⟩
      · by_cases hv2 : 1000 < v
        · refine (rgbody_rec_high xs hby a cap (s + 1) p s deep w hcp hnl hsp hrd hln l a1 v a3 hr hn hv2).mono ?_
          rintro e w' ⟨a2, sc, vv, af, cf, rfl, hb⟩
          exact ⟨a2, p, s, 1, _, _, _, _, _, _, _, _, _, _, _, _, _, _, _, _, _, rfl, hb, .inr ⟨(by decide), by simp only [Sp.rdB]; simp only [hr, hn]; rw [if_pos (Or.inr hv2)]; simp⟩⟩
        · have hv : ¬ (v < 1 ∨ 1000 < v) := by omega
          refine (rgbody_rec xs hby a cap (s + 1) p s deep w hcp hnl hsp hrd hln l a1 v a3 hr hn (by omega) (fun W W' a2 p2 q er af nf _ => DR xs s step a3 p W W' a2 p2 q er af nf) (fun W hW => (rgfields_all xs hby a cap a3 p s deep W hcp hnl hsp (hrd.same (Same.of_below hW (Nat.le_refl _)) (Lo.le hW.size)) hln ha3 hdp step (fun at0 p0 W' h => HT.out at0 p0 W' (below_to hW h))).mono fun e w' h => h)).mono ?_
          rintro e w' ⟨a2, p2, q, er, af, nf, cf, rfl, hb, W, W', hbw, hsm, hsz, hD⟩
          rcases hD with ⟨L, h1, rfl, rfl, h4, rfl, h5, h7⟩ | ⟨her, h1⟩
          · exact ⟨a2, p2, 0, 0, _, _, _, _, _, _, _, _, _, _, _, _, _, _, _, _, _, rfl, hb, .inl ⟨Tm.mk 10 false 0 0 ByteArray.empty ByteArray.empty 0 .nil L (Sp.txt l) v, by simp only [Sp.rdB]; simp only [hr, hn]; rw [if_neg hv]; simp [h1], rfl, rfl, h4, in_fields 10 (by decide) L (Sp.txt l) v _ _ _ _ h5 hlz (by omega) (L.In_same (B := Fr W W') (B' := Fr w w') hsm (fun k hk => ⟨by have := hk.1; have := hbw.size; omega, by have := hk.2; omega⟩) _ _ h7)⟩⟩
          · exact ⟨a2, p2, q, er, _, _, _, _, _, _, _, _, _, _, _, _, _, _, _, _, _, rfl, hb, .inr ⟨her, by simp only [Sp.rdB]; simp only [hr, hn]; rw [if_neg hv]; simp [h1]⟩⟩
end Go.Proofs.Ytmmiiapfefmcjaa

