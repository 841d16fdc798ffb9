/- A type's eighteen cells, read and stored as one. -/
import Derived.Test.YtjdjpbdfchhcfaaGreatKE19
import Derived.Deep.WholeRow
import Derived.Deep.MidRow
import Derived.Test.YtjdjpbdfchhcfaaGreatKE18
namespace Go.Proofs.YtjdjpbdfchhcfaaGreat
open Go.RowKit

theorem ld_row {P : Program} {ops : Array Oper} {rest : List Oper} {Q : Exit → Act → World → Prop} {a : Act} {w : World} {d : Option Tmp} {ty T : TypeId} {x : Operand} {ps : String} {af : Array Edge} {gd : Option (Nat × Bool)} {p : Addr} {v : Value}
    (hw : Region.wanted (Oper.mk d (.load ty x) T ps af gd) (yielded ops a.tmps) = true) (hx : a.eval x = .pointer (some p)) (hl : (loadVar ty p).run P w = .ok v w)
    (h : wpList P ops Q rest (a.put d v) w) : wpList P ops Q (Oper.mk d (.load ty x) T ps af gd :: rest) a w := by
  rw [wpList, if_pos hw]
  refine .inl ?_
  unfold Oper.wp execOp
  simp only [hx, Instr.loadAt, Instr.sureAddr, Sem.run_bind, Sem.run_pure, Result.andThen_ok, hl]
  exact h
theorem st_row {P : Program} {ops : Array Oper} {rest : List Oper} {Q : Exit → Act → World → Prop} {a : Act} {w w' : World} {d : Option Tmp} {ty T : TypeId} {x y : Operand} {ps : String} {af : Array Edge} {gd : Option (Nat × Bool)} {p : Addr} {v : Value}
    (hw : Region.wanted (Oper.mk d (.store ty x y) T ps af gd) (yielded ops a.tmps) = true) (hx : a.eval x = .pointer (some p)) (hy : a.eval y = v) (hl : (storeVar ty p v).run P w = .ok () w')
    (h : wpList P ops Q rest (a.put d undef) w') : wpList P ops Q (Oper.mk d (.store ty x y) T ps af gd :: rest) a w := by
  rw [wpList, if_pos hw]
  refine .inl ?_
  unfold Oper.wp execOp
  simp only [hx, hy, Instr.storeAt, Instr.sureAddr, Sem.run_bind, Sem.run_pure, Result.andThen_ok, hl]
  exact h

theorem ysz : (Tryz.prog.info? 34).map (·.size) = some 18 := by kernel_rfl
theorem yld {w : World} {b : Nat} {cs : Array Value} {T : TypeId} {fr : Nat × Nat} (hs : cs.size = 18) (h : w.heap[b]? = some (.cells cs T fr)) : (loadVar 34 ⟨b, 0, none⟩).run Tryz.prog w = .ok (.agg cs) w :=
  run_loadVar_row w b T 34 cs fr _ h Tryz.underlying34 rfl (by rw [hs]; exact ysz)
theorem yldE {w : World} {g q : Nat} {cs : Array Value} (hs : cs.size = 18) (h : ∀ x, x < 18 → w.cell? ⟨g, q + x, none⟩ = cs[x]?) : (loadVar 34 ⟨g, q, none⟩).run Tryz.prog w = .ok (.agg cs) w := by
  have := run_loadVar_mid (P := Tryz.prog) w g q 34 cs.toList _ (fun j v hj => by
    have hj' : j < 18 := by have := (List.getElem?_eq_some_iff.1 hj).1; simp [hs] at this; exact this
    rw [h j hj']; simpa using hj) Tryz.underlying34 rfl (by rw [Array.length_toList, hs]; exact ysz)
  simpa using this
theorem yst {w : World} {c cs : Array Value} (h0 : c.size = 18) (hs : cs.size = 18) (h1 : cs.all (·.oneCell') = true) : (storeVar 34 ⟨w.heap.size, 0, none⟩ (.agg cs)).run Tryz.prog (w.alloc (.cells c 34)) = .ok () (w.alloc (.cells cs 34)) :=
  run_storeVar_new w 34 c cs (by rw [hs]; exact ysz) (by rw [h0, hs]) h1

theorem Ty.In_parts {k o : Int} {t : Tm} {p : TyL} {n : List ByteArray} {l : List Bool} {op : Bool} {c : ByteArray} {w : World} {B : Nat → Prop} {cs : Array Value} (h : (Ty.mk k o t p n l op c).In w B cs) :
    ∃ ap cp, p.len ≤ 70368744177664 ∧ p.In w B ap 0 ∧ (Sp.parted k = false → ∀ W, Calls Tryz.prog 125 #[.agg cs] W fun e w' => e = .returned (.slice none 0 0) ∧ Below W.heap.size W w') ∧
      (Sp.parted k = true → ∀ W, Calls Tryz.prog 125 #[.agg cs] W fun e w' => e = .returned (.slice ap p.len cp) ∧ Below W.heap.size W w') := by
  simp only [Ty.In] at h
  obtain ⟨k1, b, i, f, tx, ab, nb, cb, rf, al, nl, cl, af, nf, cf, c1, vr, ap, cp, an, cn, ak, ck, rfl, -, -, -, ⟨hz, -⟩, hp, -, -⟩ := h
  exact ⟨ap, cp, hz, hp, fun hk W => partsOf_n k o k1 b i f tx ab nb cb rf al nl cl af nf cf c1 vr ap p.len cp an n.length cn ak l.length ck op c W hk, fun hk W => partsOf_y k o k1 b i f tx ab nb cb rf al nl cl af nf cf c1 vr ap p.len cp an n.length cn ak l.length ck op c W hk⟩
theorem Ty.In_cells {t : Ty} {w : World} {B : Nat → Prop} {cs : Array Value} (h : t.In w B cs) : cs.size = 18 ∧ cs.all (·.oneCell') = true := by
  cases t
  simp only [Ty.In] at h
  obtain ⟨k1, b, i, f, tx, ab, nb, cb, rf, al, nl, cl, af, nf, cf, c1, vr, ap, cp, an, cn, ak, ck, rfl, -⟩ := h
  exact ⟨rfl, by simp [ycells, Value.oneCell']⟩
end Go.Proofs.YtjdjpbdfchhcfaaGreat

/- types.termsFit. -/
namespace Go.Proofs.YtjdjpbdfchhcfaaGreat
open Go.RowKit

theorem tsz : (Tryz.prog.info? 29).map (·.size) = some 11 := by kernel_rfl
theorem yldT {w : World} {g q : Nat} {cs : Array Value} (hs : cs.size = 11) (h : ∀ x, x < 11 → w.cell? ⟨g, q + x, none⟩ = cs[x]?) : (loadVar 29 ⟨g, q, none⟩).run Tryz.prog w = .ok (.agg cs) w := by
  have := run_loadVar_mid (P := Tryz.prog) w g q 29 cs.toList _ (fun j v hj => by
    have hj' : j < 11 := by have := (List.getElem?_eq_some_iff.1 hj).1; simp [hs] at this; exact this
    rw [h j hj']; simpa using hj) Tryz.underlying29 rfl (by rw [Array.length_toList, hs]; exact tsz)
  simpa using this
theorem Ty.In_only {k o : Int} {t : Tm} {p : TyL} {n : List ByteArray} {l : List Bool} {op : Bool} {c : ByteArray} {w : World} {B : Nat → Prop} {cs : Array Value} (h : (Ty.mk k o t p n l op c).In w B cs) :
    cs[0]? = some (.int .i64 k) ∧ cs[1]? = some (.int .i64 o) ∧ (-9223372036854775808 ≤ k ∧ k ≤ 9223372036854775807) ∧ ∃ ct, t.In w B ct ∧ ct.size = 11 ∧ ∀ x, x < 11 → cs[2 + x]? = ct[x]? := by
  simp only [Ty.In] at h
  obtain ⟨k1, b, i, f, tx, ab, nb, cb, rf, al, nl, cl, af, nf, cf, c1, vr, ap, cp, an, cn, ak, ck, rfl, ht, hk, -⟩ := h
  refine ⟨rfl, rfl, hk, _, ht, rfl, fun x hx => ?_⟩
  have : x = 0 ∨ x = 1 ∨ x = 2 ∨ x = 3 ∨ x = 4 ∨ x = 5 ∨ x = 6 ∨ x = 7 ∨ x = 8 ∨ x = 9 ∨ x = 10 := by omega
  rcases this with rfl | rfl | rfl | rfl | rfl | rfl | rfl | rfl | rfl | rfl | rfl <;> rfl
def YTermC (N : Nat) : Prop := ∀ (t : Ty), t.sz ≤ N → ∀ (cs : Array Value) (B : Nat → Prop) (w : World), t.In w B cs → Sub B w → Calls Tryz.prog 109 #[.agg cs] w fun e w' => e = .returned (.bool t.terms) ∧ Below w.heap.size w w'

set_option maxRecDepth 100000 in
set_option maxHeartbeats 4000000 in
theorem terms_a (k o : Int) (t : Tm) (p : TyL) (n : List ByteArray) (l : List Bool) (op : Bool) (c : ByteArray) (cs : Array Value) (B : Nat → Prop) (w : World) (h : (Ty.mk k o t p n l op c).In w B cs) (hB : Sub B w) (hk : k = 4) :
    Calls Tryz.prog 109 #[.agg cs] w fun e w' => e = .returned (.bool (Ty.mk k o t p n l op c).terms) ∧ Below w.heap.size w w' := by
  subst hk
  obtain ⟨k0, -, -, ct, ht, hcs, hct⟩ := Ty.In_only h
  obtain ⟨hsz, -⟩ := Ty.In_cells h
  have HBW : Hid (Below w.heap.size w (w.alloc (.cells cs 34))) := (Below.refl _ _).alloc (Nat.le_refl _) _
  have hbx : (w.alloc (.cells cs 34)).heap[w.heap.size]? = some (.cells cs 34 (0, 0)) := heap_alloc_new w _
  have c0 : (w.alloc (.cells cs 34)).cell? ⟨w.heap.size, 0, none⟩ = some (.int .i64 4) := by rw [cell_of_row _ _ _ _ _ _ hbx, k0]
  have HL : Hid ((loadVar 29 ⟨w.heap.size, 2, none⟩).run Tryz.prog (w.alloc (.cells cs 34)) = .ok (.agg ct) (w.alloc (.cells cs 34))) := yldT hcs (fun x hx => by rw [cell_of_row _ _ _ _ _ _ hbx, hct x hx])
  have htm : (Ty.mk 4 o t p n l op c).terms = decide (t.all.e = 0) := by simp [Ty.terms]
  rw [htm]
  by_cases he : t.all.e = 0
  · have HO : Hid (Calls Tryz.prog 110 #[.agg ct] (w.alloc (.cells cs 34)) fun e w' => ∃ v, e = .returned (.tuple #[v, .int .i64 0]) ∧ Below (w.alloc (.cells cs 34)).heap.size (w.alloc (.cells cs 34)) w') := (Of_ok t ct B _ (t.In_same (hB.same HBW.out) (fun _ h => h) ct ht) (hB.later HBW.out) he).mono fun e w' ⟨v, a, b, _⟩ => ⟨v, a, b⟩
    clear h hB ht hct hcs k0 hbx hsz htm
    rw [he]
    go_enter Tryz.func109, Tryz.ntmps109
    go_wp2_with ((with_reducible refine ld_row ?_ ?_ HL.out ?_); rfl; rfl)
    refine HO.out.mono ?_
    rintro e w2 ⟨v, rfl, hb2⟩
    have H2 : Hid (Below w.heap.size w w2) := HBW.out.trans (hb2.mono (by simp))
    clear hb2
    go_wp2_with fail
    go_ret
    exact ⟨rfl, H2.out⟩
  · have he' := ne_bool he
    have HO : Hid (Calls Tryz.prog 110 #[.agg ct] (w.alloc (.cells cs 34)) fun e w' => e = .returned (.tuple #[.nilIface, .int .i64 t.all.e]) ∧ Below (w.alloc (.cells cs 34)).heap.size (w.alloc (.cells cs 34)) w') := Of_err t ct B _ (t.In_same (hB.same HBW.out) (fun _ h => h) ct ht) (hB.later HBW.out) he
    have HD : Hid (decide (t.all.e = 0) = false) := by show _ = _; simp [he]
    clear h hB ht hct hcs k0 hbx hsz htm
    rw [HD.out]
    clear HD
    generalize t.all.e = q at *
    go_enter Tryz.func109, Tryz.ntmps109
    go_wp2_with ((with_reducible refine ld_row ?_ ?_ HL.out ?_); rfl; rfl)
    refine HO.out.mono ?_
    rintro e w2 ⟨rfl, hb2⟩
    have H2 : Hid (Below w.heap.size w w2) := HBW.out.trans (hb2.mono (by simp))
    clear hb2
    go_wp2_with fail
    go_ret
    exact ⟨by simp [he], H2.out⟩

set_option maxRecDepth 100000 in
set_option maxHeartbeats 4000000 in
theorem terms_b (N : Nat) (HC : YTermC N) (k o : Int) (t : Tm) (p : TyL) (hN : p.sz ≤ N) (n : List ByteArray) (l : List Bool) (op : Bool) (c : ByteArray) (cs : Array Value) (B : Nat → Prop) (w : World) (h : (Ty.mk k o t p n l op c).In w B cs) (hB : Sub B w) (hk : k ≠ 4) :
    Calls Tryz.prog 109 #[.agg cs] w fun e w' => e = .returned (.bool (Ty.mk k o t p n l op c).terms) ∧ Below w.heap.size w w' := by
  obtain ⟨k0, -, hkr, -⟩ := Ty.In_only h
  obtain ⟨hsz, -⟩ := Ty.In_cells h
  obtain ⟨ap, cp, hz, hp, hpn, hpy⟩ := Ty.In_parts h
  have HBW : Hid (Below w.heap.size w (w.alloc (.cells cs 34))) := (Below.refl _ _).alloc (Nat.le_refl _) _
  have hbx : (w.alloc (.cells cs 34)).heap[w.heap.size]? = some (.cells cs 34 (0, 0)) := heap_alloc_new w _
  have c0 : (w.alloc (.cells cs 34)).cell? ⟨w.heap.size, 0, none⟩ = some (.int .i64 k) := by rw [cell_of_row _ _ _ _ _ _ hbx, k0]
  have HL : Hid ((loadVar 34 ⟨w.heap.size, 0, none⟩).run Tryz.prog (w.alloc (.cells cs 34)) = .ok (.agg cs) (w.alloc (.cells cs 34))) := yld hsz hbx
  have HB : Hid (Sub B w) := hB
  have HP0 : Hid (p.In w B ap 0) := hp
  have HCH : Hid (YTermC N) := HC
  have hk' : (k == 4) = false := by simp [hk]
  obtain ⟨RES, HRES⟩ : ∃ RES : Bool, Hid (RES = (Ty.mk k o t p n l op c).terms) := ⟨_, show _ = _ from rfl⟩
  rw [← HRES.out]
  have hkeep : (-9223372036854775808 ≤ k ∧ k ≤ 9223372036854775807) := hkr
  clear hkeep
  cases hpt : Sp.parted k with
  | false =>
    have HPN : Hid (∀ W, Calls Tryz.prog 125 #[.agg cs] W fun e w' => e = .returned (.slice none 0 0) ∧ Below W.heap.size W w') := hpn hpt
    have HX : Hid (RES = true) := by show _ = _; rw [HRES.out, Ty.terms, if_neg hk, hpt]; rfl
    clear h hB hp hpn hpy HC k0 hbx hpt hk
    go_enter Tryz.func109, Tryz.ntmps109
    go_wp2_with ((with_reducible refine ld_row ?_ ?_ HL.out ?_); rfl; rfl)
    refine (HPN.out _).mono ?_
    rintro e w3 ⟨rfl, hb3⟩
    have H3 : Hid (Below w.heap.size w w3) := HBW.out.trans (hb3.mono (by simp))
    clear hb3
    go_wp2_with fail
    go_loopw [21] (fun i wr => i = .int .i64 0 ∧ wr = w3) (fun _ _ => 0)
    case atStart => exact ⟨rfl, rfl⟩
    case round =>
      obtain ⟨rfl, rfl⟩ := hrel
      go_wp2_with fail
      go_ret
      exact ⟨by rw [HX.out]; rfl, H3.out⟩
  | true =>
    have HPY : Hid (∀ W, Calls Tryz.prog 125 #[.agg cs] W fun e w' => e = .returned (.slice ap p.len cp) ∧ Below W.heap.size W w') := hpy hpt
    have HX : Hid (RES = p.terms) := by show _ = _; rw [HRES.out, Ty.terms, if_neg hk, hpt]; rfl
    clear h hB hp hpn hpy HC k0 hbx hpt hk
    go_enter Tryz.func109, Tryz.ntmps109
    go_wp2_with ((with_reducible refine ld_row ?_ ?_ HL.out ?_); rfl; rfl)
    refine (HPY.out _).mono ?_
    rintro e w3 ⟨rfl, hb3⟩
    have H3 : Hid (Below w.heap.size w w3) := HBW.out.trans (hb3.mono (by simp))
    clear hb3 c0
    go_wp2_with fail
    go_loopw [21] (fun i wr => ∃ (j : Nat) (l' : TyL), i = .int .i64 (j : Int) ∧ l'.len + j = p.len ∧ l'.sz ≤ N ∧ Hid (p.terms = l'.terms) ∧ Hid (l'.In w B ap j ∧ Below w.heap.size w wr)) (fun i _ => p.len - (intOf i).toNat)
    case atStart => exact ⟨0, p, rfl, by omega, hN, (show _ = _ from rfl), ⟨HP0.out, H3.out⟩⟩
    case round =>
      obtain ⟨j, l', rfl, hj, hlN, HM, HK⟩ := hrel
      cases l' with
      | nil =>
        have hj' : p.len ≤ j := by simp [TyL.len] at hj; omega
        clear hj
        go_wp2_with fail
        go_ret
        exact ⟨by rw [HX.out, HM.out]; rfl, HK.out.2⟩
      | cons t' l' =>
        obtain ⟨hin, hbw⟩ := HK.out
        simp only [TyL.In] at hin
        obtain ⟨g, o', cs', rfl, hg, hcl, hti, hin'⟩ := hin
        have hj1 : j < p.len := by simp [TyL.len] at hj; omega
        have HJ : Hid (l'.len + (j + 1) = p.len) := by show _ = _; simp [TyL.len] at hj; omega
        have htN : t'.sz ≤ N ∧ l'.sz ≤ N := by simp [TyL.sz] at hlN; omega
        have HCT : Hid (∀ W, Below wr.heap.size wr W → Calls Tryz.prog 109 #[.agg cs'] W fun e w' => e = .returned (.bool t'.terms) ∧ Below W.heap.size W w') := fun W hW => HCH.out t' htN.1 cs' B W (t'.In_same (HB.out.same (hbw.trans (hW.mono hbw.size))) (fun _ hk => hk) cs' hti) (HB.out.later (hbw.trans (hW.mono hbw.size)))
        obtain ⟨hs', ho'⟩ := Ty.In_cells hti
        have HLE : Hid ((loadVar 34 ⟨g, o' + j * 18, none⟩).run Tryz.prog wr = .ok (.agg cs') wr) := yldE hs' (fun x hx => by rw [hbw.cell (p := ⟨g, o' + j * 18 + x, none⟩) (HB.out g hg)]; exact hcl x hx)
        have HSN : Hid (∀ c : Array Value, c.size = 18 → (storeVar 34 ⟨wr.heap.size, 0, none⟩ (.agg cs')).run Tryz.prog (wr.alloc (.cells c 34)) = .ok () (wr.alloc (.cells cs' 34))) := fun c hc => yst hc hs' ho'
        have HLN : Hid ((loadVar 34 ⟨wr.heap.size, 0, none⟩).run Tryz.prog (wr.alloc (.cells cs' 34)) = .ok (.agg cs') (wr.alloc (.cells cs' 34))) := yld hs' (heap_alloc_new wr _)
        have HBX : Hid (Below w.heap.size w wr ∧ l'.In w B (some ⟨g, o', none⟩) (j + 1)) := ⟨hbw, hin'⟩
        have hi0 : (0 : Int) ≤ (j : Int) := Int.natCast_nonneg _
        have hi1 : (j : Int) < (p.len : Int) := by omega
        have HM2 : Hid (p.terms = (t'.terms && l'.terms)) := by show _ = _; rw [HM.out]; rfl
        clear hcl hti hin' hg hj hlN hbw HK HM hs' ho'
        generalize t'.terms = x at *
        cases x with
        | false =>
          go_wp2_with (first | ((with_reducible refine ld_row ?_ ?_ HLE.out ?_); rfl; rfl) | ((with_reducible refine st_row ?_ ?_ ?_ (HSN.out _ ?_) ?_); rfl; rfl; rfl; rfl) | ((with_reducible refine ld_row ?_ ?_ HLN.out ?_); rfl; rfl))
          refine (HCT.out _ ((Below.refl _ _).alloc (Nat.le_refl _) _)).mono ?_
          rintro e w5 ⟨rfl, hb5⟩
          have H5 : Hid (Below w.heap.size w w5) := HBX.out.1.trans (((Below.refl _ wr).alloc HBX.out.1.size _).trans (hb5.mono (by have := HBX.out.1.size; simp; omega)))
          clear hb5
          go_wp2_with fail
          go_ret
          exact ⟨by rw [HX.out, HM2.out]; rfl, H5.out⟩
        | true =>
          go_wp2_with (first | ((with_reducible refine ld_row ?_ ?_ HLE.out ?_); rfl; rfl) | ((with_reducible refine st_row ?_ ?_ ?_ (HSN.out _ ?_) ?_); rfl; rfl; rfl; rfl) | ((with_reducible refine ld_row ?_ ?_ HLN.out ?_); rfl; rfl))
          refine (HCT.out _ ((Below.refl _ _).alloc (Nat.le_refl _) _)).mono ?_
          rintro e w5 ⟨rfl, hb5⟩
          have H5 : Hid (l'.In w B (some ⟨g, o', none⟩) (j + 1) ∧ Below w.heap.size w w5) := ⟨HBX.out.2, HBX.out.1.trans (((Below.refl _ wr).alloc HBX.out.1.size _).trans (hb5.mono (by have := HBX.out.1.size; simp; omega)))⟩
          clear hb5
          go_wp2_with fail
          go_roundw
          case rel => exact ⟨j + 1, l', by go_num, HJ.out, htN.2, (show _ = _ by rw [HM2.out]; rfl), H5⟩
          case measure => simp [intOf]; omega

theorem yterms_any : ∀ N, YTermC N
  | 0 => fun t h => by cases t; simp [Ty.sz] at h
  | N + 1 => fun t hN cs B w h hB => by
    cases t with
    | mk k o t p n l op c =>
      by_cases hk : k = 4
      · exact terms_a k o t p n l op c cs B w h hB hk
      · exact terms_b N (yterms_any N) k o t p (by simp only [Ty.sz] at hN; omega) n l op c cs B w h hB hk
end Go.Proofs.YtjdjpbdfchhcfaaGreat

