/- The leaves of package value's order: numbers, texts, bools, floats, bytes. -/
import Derived.Test.YtjdjpbdfchhcfaaGreatKE3
import Derived.Test.YtjdjpbdfchhcfaaGreatKE1
import Derived.Lib.BytesEntry
namespace Go.Proofs.YtjdjpbdfchhcfaaGreat
open Go.RowKit

set_option maxRecDepth 100000 in
set_option maxHeartbeats 400000 in
theorem cmpInt_any (a b : Int) (w : World) :
    Calls Tryz.prog 139 #[.int .i64 a, .int .i64 b] w fun e w' => e = .returned (.int .i64 (Sp.cmpI a b)) ∧ w = w' := by
  by_cases h1 : a < b
  · have H : Hid (Sp.cmpI a b = -1) := by show _ = _; simp [Sp.cmpI, h1]
    go_enter Tryz.func139, Tryz.ntmps139
    go_wp2
    go_ret
    exact ⟨ret_int H.out.symm, rfl⟩
  · by_cases h2 : b < a
    · have H : Hid (Sp.cmpI a b = 1) := by show _ = _; simp [Sp.cmpI, h1, h2]
      go_enter Tryz.func139, Tryz.ntmps139
      go_wp2
      go_ret
      exact ⟨ret_int H.out.symm, rfl⟩
    · have H : Hid (Sp.cmpI a b = 0) := by show _ = _; simp [Sp.cmpI, h1, h2]
      go_enter Tryz.func139, Tryz.ntmps139
      go_wp2
      go_ret
      exact ⟨ret_int H.out.symm, rfl⟩
set_option maxRecDepth 100000 in
set_option maxHeartbeats 400000 in
theorem cmpI64_any (a b : Int) (w : World) :
    Calls Tryz.prog 141 #[.int .i64 a, .int .i64 b] w fun e w' => e = .returned (.int .i64 (Sp.cmpI a b)) ∧ w = w' := by
  by_cases h1 : a < b
  · have H : Hid (Sp.cmpI a b = -1) := by show _ = _; simp [Sp.cmpI, h1]
    go_enter Tryz.func141, Tryz.ntmps141
    go_wp2
    go_ret
    exact ⟨ret_int H.out.symm, rfl⟩
  · by_cases h2 : b < a
    · have H : Hid (Sp.cmpI a b = 1) := by show _ = _; simp [Sp.cmpI, h1, h2]
      go_enter Tryz.func141, Tryz.ntmps141
      go_wp2
      go_ret
      exact ⟨ret_int H.out.symm, rfl⟩
    · have H : Hid (Sp.cmpI a b = 0) := by show _ = _; simp [Sp.cmpI, h1, h2]
      go_enter Tryz.func141, Tryz.ntmps141
      go_wp2
      go_ret
      exact ⟨ret_int H.out.symm, rfl⟩
set_option maxRecDepth 100000 in
set_option maxHeartbeats 400000 in
theorem cmpU64_any (a b : Int) (w : World) :
    Calls Tryz.prog 142 #[.int .u64 a, .int .u64 b] w fun e w' => e = .returned (.int .i64 (Sp.cmpI a b)) ∧ w = w' := by
  by_cases h1 : a < b
  · have H : Hid (Sp.cmpI a b = -1) := by show _ = _; simp [Sp.cmpI, h1]
    go_enter Tryz.func142, Tryz.ntmps142
    go_wp2
    go_ret
    exact ⟨ret_int H.out.symm, rfl⟩
  · by_cases h2 : b < a
    · have H : Hid (Sp.cmpI a b = 1) := by show _ = _; simp [Sp.cmpI, h1, h2]
      go_enter Tryz.func142, Tryz.ntmps142
      go_wp2
      go_ret
      exact ⟨ret_int H.out.symm, rfl⟩
    · have H : Hid (Sp.cmpI a b = 0) := by show _ = _; simp [Sp.cmpI, h1, h2]
      go_enter Tryz.func142, Tryz.ntmps142
      go_wp2
      go_ret
      exact ⟨ret_int H.out.symm, rfl⟩
set_option maxRecDepth 100000 in
set_option maxHeartbeats 400000 in
theorem cmpRef_any (a b : Int) (w : World) :
    Calls Tryz.prog 146 #[.int .u64 a, .int .u64 b] w fun e w' => e = .returned (.int .i64 (Sp.cmpI a b)) ∧ w = w' := by
  by_cases h1 : a < b
  · have H : Hid (Sp.cmpI a b = -1) := by show _ = _; simp [Sp.cmpI, h1]
    go_enter Tryz.func146, Tryz.ntmps146
    go_wp2
    go_ret
    exact ⟨ret_int H.out.symm, rfl⟩
  · by_cases h2 : b < a
    · have H : Hid (Sp.cmpI a b = 1) := by show _ = _; simp [Sp.cmpI, h1, h2]
      go_enter Tryz.func146, Tryz.ntmps146
      go_wp2
      go_ret
      exact ⟨ret_int H.out.symm, rfl⟩
    · have H : Hid (Sp.cmpI a b = 0) := by show _ = _; simp [Sp.cmpI, h1, h2]
      go_enter Tryz.func146, Tryz.ntmps146
      go_wp2
      go_ret
      exact ⟨ret_int H.out.symm, rfl⟩

theorem less_of (a b : ByteArray) : Op.bytesLess a.toList b.toList = decide (Sp.cmpS a b = -1) := by
  rw [ByteArray.toList_eq, ByteArray.toList_eq]; exact bytesLess_cmp _ _
theorem same_of (a b : ByteArray) : (a.toList == b.toList) = decide (Sp.cmpS a b = 0) := by
  rw [ByteArray.toList_eq, ByteArray.toList_eq, Bool.eq_iff_iff]
  simp [Sp.cmpS, cmp_eq_zero]

set_option maxRecDepth 100000 in
set_option maxHeartbeats 400000 in
theorem cmpStr_any (a b : ByteArray) (w : World) :
    Calls Tryz.prog 144 #[.string a, .string b] w fun e w' => e = .returned (.int .i64 (Sp.cmpS a b)) ∧ w = w' := by
  have hl := less_of a b
  have he := same_of a b
  rcases cmp_vals a.data.toList b.data.toList with h | h | h
  · have H : Hid (Sp.cmpS a b = -1) := h
    rw [H.out] at hl he; simp at hl he
    go_enter Tryz.func144, Tryz.ntmps144
    go_wp2
    go_ret
    exact ⟨ret_int H.out.symm, rfl⟩
  · have H : Hid (Sp.cmpS a b = 0) := h
    rw [H.out] at hl he; simp at hl he
    have he' : (a.toList == b.toList) = true := by simp [he]
    clear he
    go_enter Tryz.func144, Tryz.ntmps144
    go_wp2
    go_ret
    exact ⟨ret_int H.out.symm, rfl⟩
  · have H : Hid (Sp.cmpS a b = 1) := h
    rw [H.out] at hl he; simp at hl he
    have he' : (a.toList == b.toList) = false := by simp [he]
    clear he
    go_enter Tryz.func144, Tryz.ntmps144
    go_wp2
    go_ret
    exact ⟨ret_int H.out.symm, rfl⟩

set_option maxRecDepth 100000 in
set_option maxHeartbeats 400000 in
theorem boolRank_any (b : Bool) (w : World) :
    Calls Tryz.prog 140 #[.bool b] w fun e w' => e = .returned (.int .i64 (Sp.rank b)) ∧ w = w' := by
  cases b
  · go_enter Tryz.func140, Tryz.ntmps140
    go_wp2
    go_ret
    exact ⟨rfl, rfl⟩
  · go_enter Tryz.func140, Tryz.ntmps140
    go_wp2
    go_ret
    exact ⟨rfl, rfl⟩

theorem fr_and (f : Nat) (hf : f < 18446744073709551616) : bits BinOp.and IntKind.u64 (f : Int) 9223372036854775808 = if 9223372036854775808 ≤ f then 9223372036854775808 else 0 := by
  have h := bits_and_u64_nat f 9223372036854775808 hf (by decide)
  have h' : bits BinOp.and IntKind.u64 (f : Int) 9223372036854775808 = ((f &&& 9223372036854775808 : Nat) : Int) := h
  rw [h', nat_bit63]
  split <;> omega
theorem fr_or (f : Nat) (hf : f < 9223372036854775808) : bits BinOp.or IntKind.u64 (f : Int) 9223372036854775808 = (f : Int) + 9223372036854775808 := by
  have h := bits_or_u64_nat f 9223372036854775808 (by omega) (by decide)
  have h' : bits BinOp.or IntKind.u64 (f : Int) 9223372036854775808 = ((f ||| 9223372036854775808 : Nat) : Int) := h
  rw [h', nat_join63' 9223372036854775808 f (by decide) hf]
  omega
theorem xor_max (f : Nat) (hf : f < 18446744073709551616) : 18446744073709551615 ^^^ f = 18446744073709551615 - f := by
  have h := congrArg BitVec.toNat (BitVec.allOnes_xor (x := BitVec.ofNat 64 f))
  rw [BitVec.toNat_xor, BitVec.toNat_not, BitVec.toNat_allOnes, BitVec.toNat_ofNat, Nat.mod_eq_of_lt (by simpa using hf)] at h
  simpa using h
theorem fr_xor (f : Nat) (hf : f < 18446744073709551616) : bits BinOp.xor IntKind.u64 IntKind.u64.max (f : Int) = 18446744073709551615 - (f : Int) := by
  have h := bits_xor_u64_nat 18446744073709551615 f (by decide) hf
  have h' : bits BinOp.xor IntKind.u64 IntKind.u64.max (f : Int) = ((18446744073709551615 ^^^ f : Nat) : Int) := h
  rw [h', xor_max f hf]
  omega
theorem bits_run (f : Nat) (w : World) : (callFunc 77 #[.float .f64 f]).run Tryz.prog w = .ok (.value (.int .u64 f)) w := by
  rw [run_callFunc_extern Tryz.func77 (by kernel_rfl) (by kernel_rfl) (by kernel_rfl) (e := Extern.MathFloatBits.float64bits) (by kernel_rfl)]
  rfl

set_option maxRecDepth 100000 in
set_option maxHeartbeats 400000 in
theorem floatRank_any (f : Nat) (w : World) (hf : f < 18446744073709551616) :
    Calls Tryz.prog 143 #[.float .f64 f] w fun e w' => e = .returned (.int .u64 (Sp.frank f)) ∧ w = w' := by
  have hb := bits_run f
  by_cases h : 9223372036854775808 ≤ f
  · have ha : (bits BinOp.and IntKind.u64 (f : Int) 9223372036854775808 != 0) = true := by rw [fr_and f hf, if_pos h]; decide
    have H : Hid (Sp.frank f = bits BinOp.xor IntKind.u64 IntKind.u64.max (f : Int)) := by show _ = _; rw [fr_xor f hf]; unfold Sp.frank; rw [if_pos h]
    go_enter Tryz.func143, Tryz.ntmps143
    go_wp2
    go_ret
    exact ⟨ret_int H.out.symm, rfl⟩
  · have ha : (bits BinOp.and IntKind.u64 (f : Int) 9223372036854775808 != 0) = false := by rw [fr_and f hf, if_neg h]; decide
    have H : Hid (Sp.frank f = bits BinOp.or IntKind.u64 (f : Int) 9223372036854775808) := by show _ = _; rw [fr_or f (by omega)]; unfold Sp.frank; rw [if_neg h]
    go_enter Tryz.func143, Tryz.ntmps143
    go_wp2
    go_ret
    exact ⟨ret_int H.out.symm, rfl⟩

theorem load_run (x : ByteArray) (a : Option Addr) (c : Nat) (S : Nat → Prop) (w : World) (ha : BytesAt w S a x) : (Extern.Bytes.bytesOf (.slice a x.size c)).run Tryz.prog w = .ok x w := by
  by_cases h0 : x.size = 0
  · obtain rfl := ba_empty h0
    cases a <;> rfl
  · obtain ⟨g, o, rfl, _, _⟩ := ha 0 (by omega)
    have h := Lib.run_loadBytesX (P := Tryz.prog) w (x.data.toList.map fun u => (u.toNat : Int)) ⟨g, o, none⟩ ByteArray.empty (fun j z hj => by
      rw [List.getElem?_map] at hj
      cases hu : x.data.toList[j]? with
      | none => rw [hu] at hj; simp at hj
      | some u =>
        rw [hu] at hj
        have hz : (u.toNat : Int) = z := by simpa using hj
        subst hz
        have hjl : j < x.size := by
          rw [← ba_len]
          exact (List.getElem?_eq_some_iff.1 hu).1
        obtain ⟨g', o', e, _, hc⟩ := ha j hjl
        simp only [Option.some.injEq, Addr.mk.injEq, and_true] at e
        obtain ⟨rfl, rfl⟩ := e
        have ea : (⟨g, o, none⟩ : Addr).add j = ⟨g, o + j, none⟩ := by
          unfold Addr.add; split
          · rename_i h; rw [h]; rfl
          · rfl
        rw [ea, hc]
        have : Sp.byte x j = (u.toNat : Int) := by
          unfold Sp.byte
          have hu' : x.data[j]? = some u := by simpa using hu
          simp [hu']
        rw [this])
    rw [List.length_map, ba_len] at h
    show (Extern.Bytes.loadBytes ⟨g, o, none⟩ x.size ByteArray.empty).run Tryz.prog w = _
    rw [h]
    have e2 : Lib.bytesOf (x.data.toList.map fun u => (u.toNat : Int)) = x.data.toList := by
      unfold Lib.bytesOf
      rw [List.map_map]
      conv => rhs; rw [← List.map_id x.data.toList]
      refine List.map_congr_left fun u _ => ?_
      simp
    rw [e2]
    cases x with | mk d => simp
theorem bcmp_run (x y : ByteArray) (a b : Option Addr) (c d : Nat) (S : Nat → Prop) (w : World) (ha : BytesAt w S a x) (hb : BytesAt w S b y) :
    (callFunc 153 #[.slice a x.size c, .slice b y.size d]).run Tryz.prog w = .ok (.value (.int .i64 (Sp.cmpS x y))) w := by
  rw [run_callFunc_extern Tryz.func153 (by kernel_rfl) (by kernel_rfl) (by kernel_rfl) (e := Extern.BytealgCompare.compare) (by kernel_rfl)]
  have e : (Extern.BytealgCompare.compare #[.slice a x.size c, .slice b y.size d]).run Tryz.prog w = .ok (.int .i64 (Sp.cmpS x y)) w := by
    change Sem.run Tryz.prog (do pure (goInt (Extern.BytealgCompare.cmp (← Extern.Bytes.bytesOf (.slice a x.size c)) (← Extern.Bytes.bytesOf (.slice b y.size d))))) w = _
    simp only [Sem.run_bind, load_run x a c S w ha, load_run y b d S w hb, Result.andThen_ok, Sem.run_pure, Lib.cmp_eq]
    rfl
  rw [e]; rfl

set_option maxRecDepth 100000 in
set_option maxHeartbeats 400000 in
theorem bytesCmp_any (x y : ByteArray) (a b : Option Addr) (c d : Nat) (S : Nat → Prop) (w : World) (ha : BytesAt w S a x) (hb : BytesAt w S b y) :
    Calls Tryz.prog 145 #[.slice a x.size c, .slice b y.size d] w fun e w' => e = .returned (.int .i64 (Sp.cmpS x y)) ∧ w = w' := by
  have hr := bcmp_run x y a b c d S w ha hb
  clear ha hb
  go_enter Tryz.func145, Tryz.ntmps145
  go_wp2
  go_ret
  exact ⟨rfl, rfl⟩
end Go.Proofs.YtjdjpbdfchhcfaaGreat

/- Package value's order of two values is the plain order of their terms. -/
namespace Go.Proofs.YtjdjpbdfchhcfaaGreat
open Go.RowKit

def OrderC (N : Nat) : Prop := ∀ (s t : Tm), s.sz ≤ N → ∀ (va vb : Value) (S : Nat → Prop) (w : World), s.V w S va → t.V w S vb → s.Ok → t.Ok →
  Calls Tryz.prog 132 #[va, vb] w fun e w' => e = .returned (.int .i64 (s.cmp t)) ∧ ∃ m, w' = w.drewN m

theorem same_drewN (S : Nat → Prop) (w : World) (n : Nat) : Same S w (w.drewN n) := fun _ _ => rfl

set_option maxRecDepth 100000 in
set_option maxHeartbeats 1000000 in
theorem orderLists_any (N : Nat) (HC : OrderC N) (A B : TmL) (hN : A.sz ≤ N) (a b : Option Addr) (ca cb : Nat) (S : Nat → Prop) (w : World) (ha : A.V w S a 0) (hb : B.V w S b 0) (oa : A.Ok) (ob : B.Ok) (la : A.len ≤ maxLen) (lb : B.len ≤ maxLen) :
    Calls Tryz.prog 147 #[.slice a A.len ca, .slice b B.len cb] w fun e w' => e = .returned (.int .i64 (A.cmp B)) ∧ ∃ m, w' = w.drewN m := by
  unfold maxLen at la lb
  have HCH : Hid (OrderC N) := HC
  have H0 : Hid (A.V w S a 0 ∧ B.V w S b 0 ∧ A.Ok ∧ B.Ok) := ⟨ha, hb, oa, ob⟩
  clear HC ha hb oa ob
  by_cases hm : A.len ≤ B.len
  all_goals
    go_enter Tryz.func147, Tryz.ntmps147
    go_wp2_with fail
    go_loopw [12] (fun x wr => ∃ (k m : Nat) (l r : TmL), x = .int .i64 k ∧ l.len + k = A.len ∧ r.len + k = B.len ∧ l.sz ≤ N ∧ Hid (l.V w S a k ∧ r.V w S b k ∧ l.Ok ∧ r.Ok ∧ A.cmp B = l.cmp r) ∧ Hid (wr = w.drewN m)) (fun x _ => A.len - (intOf x).toNat)
    case atStart => exact ⟨0, 0, A, B, rfl, rfl, rfl, hN, ⟨H0.out.1, H0.out.2.1, H0.out.2.2.1, H0.out.2.2.2, rfl⟩, rfl⟩
    case round =>
      obtain ⟨k, m, l, r, rfl, hl, hr, hlN, HI, HW⟩ := hrel
      cases l with
      | nil =>
        have h1 : A.len ≤ k := by simp [TmL.len] at hl; omega
        have H : Hid (A.cmp B = Sp.cmpI A.len B.len) := by
          show _ = _
          rw [HI.out.2.2.2.2]
          cases r with
          | nil => simp only [TmL.len] at hl hr; simp only [TmL.cmp]; unfold Sp.cmpI; rw [if_neg (by omega), if_neg (by omega)]
          | cons u r => simp only [TmL.len] at hl hr; simp only [TmL.cmp]; unfold Sp.cmpI; rw [if_pos (by omega)]
        have h2 : k ≤ B.len := by omega
        have h3 : A.len ≤ B.len := by simp only [TmL.len] at hl; omega
        clear hl hr
        first
        | (exfalso; omega)
        | (go_wp2_with (go_at_call 139; refine (cmpInt_any _ _ _).mono ?_; rintro e w' ⟨rfl, rfl⟩)
           go_ret
           exact ⟨ret_int H.out.symm, m, HW.out⟩)
      | cons t l =>
        cases r with
        | nil =>
          have h1 : B.len ≤ k := by simp [TmL.len] at hr; omega
          have H : Hid (A.cmp B = Sp.cmpI A.len B.len) := by
            show _ = _
            rw [HI.out.2.2.2.2]
            simp only [TmL.len] at hl hr; simp only [TmL.cmp]; unfold Sp.cmpI; rw [if_neg (by omega), if_pos (by omega)]
          have h3 : B.len < A.len := by simp only [TmL.len] at hl hr; omega
          clear hl hr
          first
          | (exfalso; omega)
          | (go_wp2_with (go_at_call 139; refine (cmpInt_any _ _ _).mono ?_; rintro e w' ⟨rfl, rfl⟩)
             go_ret
             exact ⟨ret_int H.out.symm, m, HW.out⟩)
        | cons u r =>
          obtain ⟨hv1, hv2, ho1, ho2, hc⟩ := HI.out
          simp only [TmL.V] at hv1 hv2
          obtain ⟨g1, o1, v1, rfl, _, c1, ht, hl'⟩ := hv1
          obtain ⟨g2, o2, v2, rfl, _, c2, hu, hr'⟩ := hv2
          have hk1 : k < A.len := by simp only [TmL.len] at hl; omega
          have hk2 : k < B.len := by simp only [TmL.len] at hr; omega
          have hi0 : (0 : Int) ≤ (k : Int) := Int.natCast_nonneg _
          have hi1 : (k : Int) < (A.len : Int) := by omega
          have hi2 : (k : Int) < (B.len : Int) := by omega
          have HL : Hid (l.len + (k + 1) = A.len ∧ r.len + (k + 1) = B.len) := by show _ ∧ _; simp only [TmL.len] at hl hr; omega
          have htN : t.sz ≤ N ∧ l.sz ≤ N := by simp [TmL.sz] at hlN; omega
          have HO : Hid (∀ n, Calls Tryz.prog 132 #[v1, v2] (wr.drewN n) fun e w' => e = .returned (.int .i64 (t.cmp u)) ∧ ∃ m, w' = (wr.drewN n).drewN m) := fun n => by
            have hs : Same S w (wr.drewN n) := fun k _ => by rw [HW.out]; rfl
            exact HCH.out t u htN.1 v1 v2 S (wr.drewN n) (t.V_same hs (fun _ h => h) v1 ht) (u.V_same hs (fun _ h => h) v2 hu) ho1.head.1 ho2.head.1
          have c1 : wr.cell? ⟨g1, o1 + k, none⟩ = some v1 := by rw [HW.out]; exact c1
          have c2 : wr.cell? ⟨g2, o2 + k, none⟩ = some v2 := by rw [HW.out]; exact c2
          have HWN : Hid (∀ q, ∃ m', wr.drewN q = w.drewN m') := fun q => ⟨m + q, by rw [HW.out]; simp⟩
          have HN : Hid (l.V w S (some ⟨g1, o1, none⟩) (k + 1) ∧ r.V w S (some ⟨g2, o2, none⟩) (k + 1) ∧ l.Ok ∧ r.Ok) := ⟨hl', hr', ho1.head.2, ho2.head.2⟩
          have HCC : Hid (A.cmp B = if t.cmp u ≠ 0 then t.cmp u else l.cmp r) := by show _ = _; rw [hc, TmL.cmp]
          clear hl hr hlN HI hl' hr' ho1 ho2 hc ht hu H0
          go_wp2_with fail
          go_quiet ((go_at_call 132; exact Calls.quiet_of (HO.out _)))
          by_cases he : t.cmp u ≠ 0
          · have he' := ne_bool he
            have H : Hid (A.cmp B = t.cmp u) := by show _ = _; rw [HCC.out, if_pos he]
            clear he
            go_wp2_with fail
            go_ret
            exact ⟨ret_int H.out.symm, HWN.out _⟩
          · have he0 : t.cmp u = 0 := Decidable.not_not.1 he
            have H : Hid (A.cmp B = l.cmp r) := by show _ = _; rw [HCC.out, if_neg he]
            clear he
            go_wp2_with fail
            go_roundw
            case rel =>
              obtain ⟨m', hm'⟩ := HWN.out nq
              exact ⟨k + 1, m', l, r, by go_num, HL.out.1, HL.out.2, htN.2, ⟨HN.out.1, HN.out.2.1, HN.out.2.2.1, HN.out.2.2.2, H.out⟩, hm'⟩
            case measure => simp [intOf]; omega
end Go.Proofs.YtjdjpbdfchhcfaaGreat

/- Package value's order of dicts and records is the plain order of their terms' fields. -/
namespace Go.Proofs.YtjdjpbdfchhcfaaGreat
open Go.RowKit

set_option maxRecDepth 100000 in
set_option maxHeartbeats 1000000 in
theorem orderDicts_any (N : Nat) (HC : OrderC N) (A B : TmF) (hN : A.sz ≤ N) (a b : Option Addr) (ca cb : Nat) (S : Nat → Prop) (w : World) (ha : A.V w S a 0) (hb : B.V w S b 0) (oa : A.Ok) (ob : B.Ok) (la : A.len ≤ maxLen) (lb : B.len ≤ maxLen) :
    Calls Tryz.prog 148 #[.slice a A.len ca, .slice b B.len cb] w fun e w' => e = .returned (.int .i64 (A.cmp B)) ∧ ∃ m, w' = w.drewN m := by
  unfold maxLen at la lb
  have HCH : Hid (OrderC N) := HC
  have H0 : Hid (A.V w S a 0 ∧ B.V w S b 0 ∧ A.Ok ∧ B.Ok) := ⟨ha, hb, oa, ob⟩
  clear HC ha hb oa ob
  by_cases hm : A.len ≤ B.len
  all_goals
    go_enter Tryz.func148, Tryz.ntmps148
    go_wp2_with fail
    go_loopw [13] (fun x wr => ∃ (k m : Nat) (l r : TmF), x = .int .i64 k ∧ l.len + k = A.len ∧ r.len + k = B.len ∧ l.sz ≤ N ∧ Hid (l.V w S a k ∧ r.V w S b k ∧ l.Ok ∧ r.Ok ∧ A.cmp B = l.cmp r) ∧ Hid (wr = w.drewN m)) (fun x _ => A.len - (intOf x).toNat)
    case atStart => exact ⟨0, 0, A, B, rfl, rfl, rfl, hN, ⟨H0.out.1, H0.out.2.1, H0.out.2.2.1, H0.out.2.2.2, rfl⟩, rfl⟩
    case round =>
      obtain ⟨k, m, l, r, rfl, hl, hr, hlN, HI, HW⟩ := hrel
      cases l with
      | nil =>
        have h1 : A.len ≤ k := by simp [TmF.len] at hl; omega
        have H : Hid (A.cmp B = Sp.cmpI A.len B.len) := by
          show _ = _
          rw [HI.out.2.2.2.2]
          cases r with
          | nil => simp only [TmF.len] at hl hr; simp only [TmF.cmp]; unfold Sp.cmpI; rw [if_neg (by omega), if_neg (by omega)]
          | cons n2 u r => simp only [TmF.len] at hl hr; simp only [TmF.cmp]; unfold Sp.cmpI; rw [if_pos (by omega)]
        have h2 : k ≤ B.len := by omega
        have h3 : A.len ≤ B.len := by simp only [TmF.len] at hl; omega
        clear hl hr
        first
        | (exfalso; omega)
        | (go_wp2_with (go_at_call 139; refine (cmpInt_any _ _ _).mono ?_; rintro e w' ⟨rfl, rfl⟩)
           go_ret
           exact ⟨ret_int H.out.symm, m, HW.out⟩)
      | cons n1 t l =>
        cases r with
        | nil =>
          have h1 : B.len ≤ k := by simp [TmF.len] at hr; omega
          have H : Hid (A.cmp B = Sp.cmpI A.len B.len) := by
            show _ = _
            rw [HI.out.2.2.2.2]
            simp only [TmF.len] at hl hr; simp only [TmF.cmp]; unfold Sp.cmpI; rw [if_neg (by omega), if_pos (by omega)]
          have h3 : B.len < A.len := by simp only [TmF.len] at hl hr; omega
          clear hl hr
          first
          | (exfalso; omega)
          | (go_wp2_with (go_at_call 139; refine (cmpInt_any _ _ _).mono ?_; rintro e w' ⟨rfl, rfl⟩)
             go_ret
             exact ⟨ret_int H.out.symm, m, HW.out⟩)
        | cons n2 u r =>
          obtain ⟨hv1, hv2, ho1, ho2, hc⟩ := HI.out
          simp only [TmF.V] at hv1 hv2
          obtain ⟨g1, o1, v1, rfl, _, a1, c1, _, ht, hl'⟩ := hv1
          obtain ⟨g2, o2, v2, rfl, _, a2, c2, _, hu, hr'⟩ := hv2
          have hk1 : k < A.len := by simp only [TmF.len] at hl; omega
          have hk2 : k < B.len := by simp only [TmF.len] at hr; omega
          have hi0 : (0 : Int) ≤ (k : Int) := Int.natCast_nonneg _
          have hi1 : (k : Int) < (A.len : Int) := by omega
          have hi2 : (k : Int) < (B.len : Int) := by omega
          have HL : Hid (l.len + (k + 1) = A.len ∧ r.len + (k + 1) = B.len) := by show _ ∧ _; simp only [TmF.len] at hl hr; omega
          have htN : t.sz ≤ N ∧ l.sz ≤ N := by simp [TmF.sz] at hlN; omega
          have HO : Hid (∀ n, Calls Tryz.prog 132 #[v1, v2] (wr.drewN n) fun e w' => e = .returned (.int .i64 (t.cmp u)) ∧ ∃ m, w' = (wr.drewN n).drewN m) := fun n => by
            have hs : Same S w (wr.drewN n) := fun k _ => by rw [HW.out]; rfl
            exact HCH.out t u htN.1 v1 v2 S (wr.drewN n) (t.V_same hs (fun _ h => h) v1 ht) (u.V_same hs (fun _ h => h) v2 hu) ho1.head.1 ho2.head.1
          have c1 : wr.cell? ⟨g1, o1 + k * 2 + 1, none⟩ = some v1 := by rw [HW.out]; exact c1
          have c2 : wr.cell? ⟨g2, o2 + k * 2 + 1, none⟩ = some v2 := by rw [HW.out]; exact c2
          have a1 : wr.cell? ⟨g1, o1 + k * 2, none⟩ = some (.string n1) := by rw [HW.out]; exact a1
          have a2 : wr.cell? ⟨g2, o2 + k * 2, none⟩ = some (.string n2) := by rw [HW.out]; exact a2
          have HWN : Hid (∀ q, ∃ m', wr.drewN q = w.drewN m') := fun q => ⟨m + q, by rw [HW.out]; simp⟩
          have HN : Hid (l.V w S (some ⟨g1, o1, none⟩) (k + 1) ∧ r.V w S (some ⟨g2, o2, none⟩) (k + 1) ∧ l.Ok ∧ r.Ok) := ⟨hl', hr', ho1.head.2, ho2.head.2⟩
          have HCC : Hid (A.cmp B = if Sp.cmpS n1 n2 ≠ 0 then Sp.cmpS n1 n2 else if t.cmp u ≠ 0 then t.cmp u else l.cmp r) := by show _ = _; rw [hc, TmF.cmp]
          clear hl hr hlN HI hl' hr' ho1 ho2 hc ht hu H0
          by_cases hn : Sp.cmpS n1 n2 ≠ 0
          · have hn' := ne_bool hn
            have H : Hid (A.cmp B = Sp.cmpS n1 n2) := by show _ = _; rw [HCC.out, if_pos hn]
            clear hn
            go_wp2_with fail
            go_quiet ((go_at_call 144; exact Calls.quiet_of_same ((cmpStr_any _ _ _).mono (fun e w' h => ⟨h.1, h.2.symm⟩))))
            go_wp2_with fail
            go_ret
            exact ⟨ret_int H.out.symm, HWN.out _⟩
          · have hn0 : Sp.cmpS n1 n2 = 0 := Decidable.not_not.1 hn
            have HC2 : Hid (A.cmp B = if t.cmp u ≠ 0 then t.cmp u else l.cmp r) := by show _ = _; rw [HCC.out, if_neg hn]
            clear hn
            go_wp2_with fail
            go_quiet ((go_at_call 144; exact Calls.quiet_of_same ((cmpStr_any _ _ _).mono (fun e w' h => ⟨h.1, h.2.symm⟩))))
            obtain ⟨m1, hm1⟩ := HWN.out nq
            have HO' : Hid (∀ q, Calls Tryz.prog 132 #[v1, v2] ((wr.drewN nq).drewN q) fun e w' => e = .returned (.int .i64 (t.cmp u)) ∧ ∃ m, w' = ((wr.drewN nq).drewN q).drewN m) := fun q => by
              rw [World.drewN_drewN]; exact HO.out _
            have HW' : Hid (∀ q, ∃ m', (wr.drewN nq).drewN q = w.drewN m') := fun q => ⟨m + (nq + q), by rw [HW.out]; simp [Nat.add_assoc]⟩
            have c1' : (wr.drewN nq).cell? ⟨g1, o1 + k * 2 + 1, none⟩ = some v1 := c1
            have c2' : (wr.drewN nq).cell? ⟨g2, o2 + k * 2 + 1, none⟩ = some v2 := c2
            clear c1 c2 a1 a2 hm1
            generalize wr.drewN nq = wq at *
            go_wp2_with fail
            go_quiet ((go_at_call 132; exact Calls.quiet_of (HO'.out _)))
            by_cases he : t.cmp u ≠ 0
            · have he' := ne_bool he
              have H : Hid (A.cmp B = t.cmp u) := by show _ = _; rw [HC2.out, if_pos he]
              clear he
              go_wp2_with fail
              go_ret
              exact ⟨ret_int H.out.symm, HW'.out _⟩
            · have he0 : t.cmp u = 0 := Decidable.not_not.1 he
              have H : Hid (A.cmp B = l.cmp r) := by show _ = _; rw [HC2.out, if_neg he]
              clear he
              go_wp2_with fail
              go_roundw
              case rel =>
                obtain ⟨m', hm'⟩ := HW'.out nq
                exact ⟨k + 1, m', l, r, by go_num, HL.out.1, HL.out.2, htN.2, ⟨HN.out.1, HN.out.2.1, HN.out.2.2.1, HN.out.2.2.2, H.out⟩, hm'⟩
              case measure => simp [intOf]; omega

set_option maxRecDepth 100000 in
set_option maxHeartbeats 1000000 in
theorem orderRecords_any (N : Nat) (HC : OrderC N) (A B : TmF) (hN : A.sz ≤ N) (g1 g2 : Nat) (a b : Option Addr) (ca cb : Nat) (n1 n2 : ByteArray) (x1 x2 : Int) (S : Nat → Prop) (w : World) (ha : A.V w S a 0) (hb : B.V w S b 0) (oa : A.Ok) (ob : B.Ok) (la : A.len ≤ maxLen) (lb : B.len ≤ maxLen)
    (c0 : w.cell? ⟨g1, 0, none⟩ = some (.string n1)) (c1 : w.cell? ⟨g1, 1, none⟩ = some (.int .i64 x1)) (c2 : w.cell? ⟨g1, 2, none⟩ = some (.slice a A.len ca))
    (d0 : w.cell? ⟨g2, 0, none⟩ = some (.string n2)) (d1 : w.cell? ⟨g2, 1, none⟩ = some (.int .i64 x2)) (d2 : w.cell? ⟨g2, 2, none⟩ = some (.slice b B.len cb)) :
    Calls Tryz.prog 149 #[.pointer (some ⟨g1, 0, none⟩), .pointer (some ⟨g2, 0, none⟩)] w fun e w' => e = .returned (.int .i64 (if Sp.cmpS n1 n2 ≠ 0 then Sp.cmpS n1 n2 else if Sp.cmpI x1 x2 ≠ 0 then Sp.cmpI x1 x2 else A.cmp B)) ∧ ∃ m, w' = w.drewN m := by
  have HD : Hid (∀ n, Calls Tryz.prog 148 #[.slice a A.len ca, .slice b B.len cb] (w.drewN n) fun e w' => e = .returned (.int .i64 (A.cmp B)) ∧ ∃ m, w' = (w.drewN n).drewN m) := fun n =>
    orderDicts_any N HC A B hN a b ca cb S (w.drewN n) (A.V_same (same_drewN _ _ _) (fun _ h => h) a 0 ha) (B.V_same (same_drewN _ _ _) (fun _ h => h) b 0 hb) oa ob la lb
  clear ha hb HC oa ob
  generalize hR : (if Sp.cmpS n1 n2 ≠ 0 then Sp.cmpS n1 n2 else if Sp.cmpI x1 x2 ≠ 0 then Sp.cmpI x1 x2 else A.cmp B) = R
  have HR : Hid ((if Sp.cmpS n1 n2 ≠ 0 then Sp.cmpS n1 n2 else if Sp.cmpI x1 x2 ≠ 0 then Sp.cmpI x1 x2 else A.cmp B) = R) := hR
  clear hR
  by_cases hn : Sp.cmpS n1 n2 ≠ 0
  · have hn' := ne_bool hn
    have H : Hid (R = Sp.cmpS n1 n2) := by show _ = _; rw [← HR.out, if_pos hn]
    clear hn
    go_enter Tryz.func149, Tryz.ntmps149
    go_wp2_with fail
    go_quiet ((go_at_call 144; exact Calls.quiet_of_same ((cmpStr_any _ _ _).mono (fun e w' h => ⟨h.1, h.2.symm⟩))))
    go_wp2_with fail
    go_ret
    exact ⟨ret_int H.out.symm, _, rfl⟩
  · have hn0 : Sp.cmpS n1 n2 = 0 := Decidable.not_not.1 hn
    by_cases hv : Sp.cmpI x1 x2 ≠ 0
    · have hv' := ne_bool hv
      have H : Hid (R = Sp.cmpI x1 x2) := by show _ = _; rw [← HR.out, if_neg hn, if_pos hv]
      clear hn hv
      go_enter Tryz.func149, Tryz.ntmps149
      go_wp2_with fail
      go_quiet ((go_at_call 144; exact Calls.quiet_of_same ((cmpStr_any _ _ _).mono (fun e w' h => ⟨h.1, h.2.symm⟩))))
      have HW' : Hid (∀ q, ∃ m, (w.drewN nq).drewN q = w.drewN m) := fun q => ⟨nq + q, by simp⟩
      have HD' : Hid (∀ n, Calls Tryz.prog 148 #[.slice a A.len ca, .slice b B.len cb] ((w.drewN nq).drewN n) fun e w' => e = .returned (.int .i64 (A.cmp B)) ∧ ∃ m, w' = ((w.drewN nq).drewN n).drewN m) := fun n => by rw [World.drewN_drewN]; exact HD.out _
      have c1' : (w.drewN nq).cell? ⟨g1, 1, none⟩ = some (.int .i64 x1) := c1
      have c2' : (w.drewN nq).cell? ⟨g1, 2, none⟩ = some (.slice a A.len ca) := c2
      have d1' : (w.drewN nq).cell? ⟨g2, 1, none⟩ = some (.int .i64 x2) := d1
      have d2' : (w.drewN nq).cell? ⟨g2, 2, none⟩ = some (.slice b B.len cb) := d2
      clear c0 c1 c2 d0 d1 d2 HD
      generalize w.drewN nq = wq at *
      go_wp2_with fail
      go_quiet ((go_at_call 139; exact Calls.quiet_of_same ((cmpInt_any _ _ _).mono (fun e w' h => ⟨h.1, h.2.symm⟩))))
      go_wp2_with fail
      go_ret
      exact ⟨ret_int H.out.symm, HW'.out _⟩
    · have hv0 : Sp.cmpI x1 x2 = 0 := Decidable.not_not.1 hv
      have H : Hid (R = A.cmp B) := by show _ = _; rw [← HR.out, if_neg hn, if_neg hv]
      clear hn hv
      go_enter Tryz.func149, Tryz.ntmps149
      go_wp2_with fail
      go_quiet ((go_at_call 144; exact Calls.quiet_of_same ((cmpStr_any _ _ _).mono (fun e w' h => ⟨h.1, h.2.symm⟩))))
      have HW' : Hid (∀ q, ∃ m, (w.drewN nq).drewN q = w.drewN m) := fun q => ⟨nq + q, by simp⟩
      have HD' : Hid (∀ n, Calls Tryz.prog 148 #[.slice a A.len ca, .slice b B.len cb] ((w.drewN nq).drewN n) fun e w' => e = .returned (.int .i64 (A.cmp B)) ∧ ∃ m, w' = ((w.drewN nq).drewN n).drewN m) := fun n => by rw [World.drewN_drewN]; exact HD.out _
      have c1' : (w.drewN nq).cell? ⟨g1, 1, none⟩ = some (.int .i64 x1) := c1
      have c2' : (w.drewN nq).cell? ⟨g1, 2, none⟩ = some (.slice a A.len ca) := c2
      have d1' : (w.drewN nq).cell? ⟨g2, 1, none⟩ = some (.int .i64 x2) := d1
      have d2' : (w.drewN nq).cell? ⟨g2, 2, none⟩ = some (.slice b B.len cb) := d2
      clear c0 c1 c2 d0 d1 d2 HD
      generalize w.drewN nq = wq at *
      go_wp2_with fail
      go_quiet ((go_at_call 139; exact Calls.quiet_of_same ((cmpInt_any _ _ _).mono (fun e w' h => ⟨h.1, h.2.symm⟩))))
      have HW2 : Hid (∀ q, ∃ m, (wq.drewN nq).drewN q = w.drewN m) := fun q => by rw [World.drewN_drewN]; exact HW'.out _
      have HD2 : Hid (∀ n, Calls Tryz.prog 148 #[.slice a A.len ca, .slice b B.len cb] ((wq.drewN nq).drewN n) fun e w' => e = .returned (.int .i64 (A.cmp B)) ∧ ∃ m, w' = ((wq.drewN nq).drewN n).drewN m) := fun n => by rw [World.drewN_drewN]; exact HD'.out _
      have c2'' : (wq.drewN nq).cell? ⟨g1, 2, none⟩ = some (.slice a A.len ca) := c2'
      have d2'' : (wq.drewN nq).cell? ⟨g2, 2, none⟩ = some (.slice b B.len cb) := d2'
      clear c1' c2' d1' d2' HD'
      generalize wq.drewN nq = wr at *
      go_wp2_with fail
      go_quiet ((go_at_call 148; exact Calls.quiet_of (HD2.out _)))
      go_wp2_with fail
      go_ret
      exact ⟨ret_int H.out.symm, HW2.out _⟩
end Go.Proofs.YtjdjpbdfchhcfaaGreat

