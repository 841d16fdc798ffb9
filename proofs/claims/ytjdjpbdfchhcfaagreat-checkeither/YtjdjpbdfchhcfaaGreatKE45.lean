/- check.either: a shape of what is of one of two shapes. -/
import Derived.Test.YtjdjpbdfchhcfaaGreatKE38
import Derived.Test.YtjdjpbdfchhcfaaGreatKE44
import Derived.Test.YtjdjpbdfchhcfaaGreatKE43
import Derived.Deep.RegionLaw
import Derived.Deep.AppendLies
namespace Go.Proofs.YtjdjpbdfchhcfaaGreat
open Go.RowKit

theorem sh_parts {k : Int} {p : TyL} {w : World} {B : Nat → Prop} {b cp : Nat} {ap : Option Addr} (hB : B b) (hk : k = 5 ∨ k = 7) (hl : p.len ≤ 70368744177664) (hp : p.Sh w B ap 0)
    (h : w.heap[b]? = some (.cells #[.int .i64 k, .int .i64 0, .nilIface, .int .i64 0, .slice ap p.len cp, .slice none 0 0, .slice none 0 0, .bool false, .string ByteArray.empty, .int .i64 (1 + p.cnt), .int .i64 (1 + p.dep)] 102 (0, 0))) :
    (Ty.mk k 0 tm0 p [] [] false ⟨#[]⟩).Sh w B b := by
  have hpt : Sp.parted k = true := by rcases hk with rfl | rfl <;> rfl
  have h4 : k ≠ 4 := by omega
  have h6 : k ≠ 6 := by omega
  have h8 : k ≠ 8 := by omega
  simp only [Ty.Sh, Ty.cnt, Ty.dep, hpt, if_true]
  exact ⟨hB, _, _, _, _, _, _, _, _, _, _, _, _, _, _, h, fun _ => rfl, fun e => absurd e h4, fun _ => ⟨rfl, hl, hp⟩, fun e => absurd e h6, fun e => absurd e h8, fun _ => rfl, by simp [hpt], by simp, fun _ => rfl⟩

set_option maxRecDepth 100000 in
set_option maxHeartbeats 4000000 in
theorem either_any (a b : Ty) (pa pb : Nat) (B : Nat → Prop) (w : World) (hB : Sub B w) (oa : a.ok = true) (ob : b.ok = true) (fa : a.fitsB = true) (fb : b.fitsB = true) (ha : a.Sh w B pa) (hb : b.Sh w B pb) :
    Calls Tryz.prog 27 #[.pointer (some ⟨pa, 0, none⟩), .pointer (some ⟨pb, 0, none⟩)] w fun e w' => ∃ q, e = .returned (.pointer (some ⟨q, 0, none⟩)) ∧ Below w.heap.size w w' ∧ (a.ei b).Sh w' (BF B w w') q := by
  have HA : Hid (∀ W, Below w.heap.size w W → a.Sh W (BF B w W) pa) := fun W hW => Ty.Sh_bf ha hB hW
  have HB : Hid (∀ W, Below w.heap.size w W → b.Sh W (BF B w W) pb) := fun W hW => Ty.Sh_bf hb hB hW
  have HSB : Hid (Sub B w) := hB
  have HP : Hid (Calls Tryz.prog 24 #[.pointer (some ⟨pa, 0, none⟩), .pointer (some ⟨pb, 0, none⟩)] w fun e w' => e = .returned (.bool (a.sub b)) ∧ Below w.heap.size w w') :=
    sub_any _ a b (Nat.le_refl _) oa ob pa pb w.heap.size w (Ty.Sh_lo ha hB) (Ty.Sh_lo hb hB) (Nat.le_refl _)
  have HQ : Hid (∀ W, Below w.heap.size w W → Calls Tryz.prog 24 #[.pointer (some ⟨pb, 0, none⟩), .pointer (some ⟨pa, 0, none⟩)] W fun e w' => e = .returned (.bool (b.sub a)) ∧ Below W.heap.size W w') := fun W hW =>
    sub_any _ b a (Nat.le_refl _) ob oa pb pa W.heap.size W (Ty.Sh_lo (HB.out W hW) (BF.sub hB hW)) (Ty.Sh_lo (HA.out W hW) (BF.sub hB hW)) (Nat.le_refl _)
  have Fa := Ty.fitsB_iff.1 fa
  have Fb := Ty.fitsB_iff.1 fb
  have ca := a.chs_cnt
  have cb := b.chs_cnt
  have la := (Ty.chs_ok oa).2
  have lb := (Ty.chs_ok ob).2
  have na := a.chs.len_cnt
  have nb := b.chs.len_cnt
  have HN : Hid (1 ≤ a.chs.len ∧ 1 ≤ b.chs.len ∧ a.chs.len + b.chs.len ≤ 1000000000 ∧ 1 + (a.chs.app b.chs).cnt ≤ 1000000000 ∧ 1 + (a.chs.app b.chs).dep ≤ 1000000000) := by
    rw [TyL.app_cnt, TyL.app_dep]; exact ⟨la, lb, by omega, by omega, by omega⟩
  clear Fa Fb ca cb la lb na nb ha hb oa ob fa fb hB
  cases h1 : a.sub b with
  | true =>
    have HE : Hid (a.ei b = b) := by show _ = _; unfold Ty.ei; rw [h1]; rfl
    rw [h1] at HP
    rw [HE.out]
    clear h1 HQ HN HA HE
    go_enter Tryz.func27, Tryz.ntmps27
    go_wp2_with fail
    refine HP.out.mono ?_
    rintro e w1 ⟨rfl, hb1⟩
    have H1 : Hid (Below w.heap.size w w1 ∧ b.Sh w1 (BF B w w1) pb) := ⟨hb1, HB.out _ hb1⟩
    clear hb1
    go_wp2_with fail
    go_ret
    exact ⟨pb, rfl, H1.out⟩
  | false =>
    rw [h1] at HP
    cases h2 : b.sub a with
    | true =>
      have HE : Hid (a.ei b = a) := by show _ = _; unfold Ty.ei; rw [h1, h2]; rfl
      rw [h2] at HQ
      rw [HE.out]
      clear h1 h2 HN HB HE
      go_enter Tryz.func27, Tryz.ntmps27
      go_wp2_with fail
      refine HP.out.mono ?_
      rintro e w1 ⟨rfl, hb1⟩
      have H1 : Hid (Below w.heap.size w w1) := hb1
      clear hb1 HP
      go_wp2_with fail
      refine (HQ.out _ H1.out).mono ?_
      rintro e w2 ⟨rfl, hb2⟩
      have H2 : Hid (Below w.heap.size w w2 ∧ a.Sh w2 (BF B w w2) pa) := by
        have := H1.out.trans (hb2.mono H1.out.size)
        exact ⟨this, HA.out _ this⟩
      clear hb2
      go_wp2_with fail
      go_ret
      exact ⟨pa, rfl, H2.out⟩
    | false =>
      have HE : Hid (a.ei b = tyUn (a.chs.app b.chs)) := by show _ = _; unfold Ty.ei; rw [h1, h2]; rfl
      rw [h2] at HQ
      rw [HE.out]
      have HCa : Hid (∀ W, Below w.heap.size w W → Calls Tryz.prog 57 #[.pointer (some ⟨pa, 0, none⟩)] W fun e w' => ∃ s cp, e = .returned (.slice s a.chs.len cp) ∧ Below W.heap.size W w' ∧ a.chs.Sh w' (BF B w w') s 0) := fun W hW => (choices_any a pa (BF B w W) W (BF.sub HSB.out hW) (HA.out W hW)).mono fun e w' ⟨s, cp, h1, h2, h3⟩ => ⟨s, cp, h1, h2, a.chs.Sh_same (Same.refl _ _) (BF.join hW.size h2.size) _ _ h3⟩
      have HCb : Hid (∀ W, Below w.heap.size w W → Calls Tryz.prog 57 #[.pointer (some ⟨pb, 0, none⟩)] W fun e w' => ∃ s cp, e = .returned (.slice s b.chs.len cp) ∧ Below W.heap.size W w' ∧ b.chs.Sh w' (BF B w w') s 0) := fun W hW => (choices_any b pb (BF B w W) W (BF.sub HSB.out hW) (HB.out W hW)).mono fun e w' ⟨s, cp, h1, h2, h3⟩ => ⟨s, cp, h1, h2, b.chs.Sh_same (Same.refl _ _) (BF.join hW.size h2.size) _ _ h3⟩
      obtain ⟨nA, hnA⟩ : ∃ n, n = a.chs.len := ⟨_, rfl⟩
      obtain ⟨nB, hnB⟩ : ∃ n, n = b.chs.len := ⟨_, rfl⟩
      have HNA : Hid (nA = a.chs.len ∧ nB = b.chs.len) := ⟨hnA, hnB⟩
      rw [← hnA] at HCa
      rw [← hnB] at HCb
      clear h1 h2 HE HA HB hnA hnB
      go_enter Tryz.func27, Tryz.ntmps27
      go_wp2_with fail
      refine HP.out.mono ?_
      rintro e w1 ⟨rfl, hb1⟩
      have H1 : Hid (Below w.heap.size w w1) := hb1
      clear hb1 HP
      go_wp2_with fail
      refine (HQ.out _ H1.out).mono ?_
      rintro e w2 ⟨rfl, hb2⟩
      have H2 : Hid (Below w.heap.size w w2) := H1.out.trans (hb2.mono H1.out.size)
      clear hb2 HQ H1
      go_wp2_with fail
      refine (HCa.out _ H2.out).mono ?_
      rintro e w3 ⟨s1, c1, rfl, hb3, hs1⟩
      have H3 : Hid (Below w.heap.size w w3 ∧ a.chs.Sh w3 (BF B w w3) s1 0) := ⟨H2.out.trans (hb3.mono H2.out.size), hs1⟩
      clear hb3 hs1 H2 HCa
      go_wp2_with fail
      refine (HCb.out _ H3.out.1).mono ?_
      rintro e w4 ⟨s2, c2, rfl, hb4, hs2⟩
      have H4 : Hid (Below w.heap.size w w4 ∧ a.chs.Sh w4 (BF B w w4) s1 0 ∧ b.chs.Sh w4 (BF B w w4) s2 0) := ⟨H3.out.1.trans (hb4.mono H3.out.1.size), TyL.Sh_on HSB.out H3.out.2 H3.out.1 hb4, hs2⟩
      clear hb4 hs2 H3 HCb
      obtain ⟨bs1, P1, K1⟩ := TyL.Sh_pl _ _ _ H4.out.2.1
      obtain ⟨bs2, P2, K2⟩ := TyL.Sh_pl _ _ _ H4.out.2.2
      have l1 := TyL.Pl_len _ _ P1
      have l2 := TyL.Pl_len _ _ P2
      have hS4 := BF.sub HSB.out H4.out.1
      have HN' := HN.out
      rw [← HNA.out.1, ← HNA.out.2] at HN'
      obtain ⟨g1, o1, rfl, hg1, -⟩ := K1 0 (bs1[0]'(by have := HNA.out; omega)) (List.getElem?_eq_getElem _)
      obtain ⟨g2, o2, rfl, hg2, -⟩ := K2 0 (bs2[0]'(by have := HNA.out; omega)) (List.getElem?_eq_getElem _)
      obtain ⟨w5, hw5⟩ : ∃ w5, w5 = w4.alloc (.cells #[.slice (some ⟨g1, o1, none⟩) nA c1, .slice (some ⟨g2, o2, none⟩) nB c2] 100) := ⟨_, rfl⟩
      have hb5 : Below w4.heap.size w4 w5 := by rw [hw5]; exact (Below.refl _ _).alloc (Nat.le_refl _) _
      have hz5 : w5.heap.size = w4.heap.size + 1 := by rw [hw5]; simp
      have hn5 : w5.heap[w4.heap.size]? = some (.cells #[.slice (some ⟨g1, o1, none⟩) nA c1, .slice (some ⟨g2, o2, none⟩) nB c2] 100 (0, 0)) := by rw [hw5]; exact heap_alloc_new w4 _
      have hcell : ∀ {l : List Nat} {g o : Nat}, BF B w w4 g → (∀ i b, l[i]? = some b → ∃ g' o', some (⟨g, o, none⟩ : Addr) = some ⟨g', o', none⟩ ∧ BF B w w4 g' ∧ w4.cell? ⟨g', o' + (0 + i), none⟩ = some (ptr b)) → ∀ j b, l[j]? = some b → w5.cell? ⟨g, o + j, none⟩ = some (ptr b) := fun {l g o} hg h j b hj => by
        obtain ⟨g', o', e, -, hc⟩ := h j b hj
        simp only [Option.some.injEq, Addr.mk.injEq, and_true] at e
        obtain ⟨rfl, rfl⟩ := e
        rw [hb5.cell (p := ⟨g, o + j, none⟩) (hS4 g hg)]
        rw [Nat.zero_add] at hc; exact hc
      have HCC : Hid (Calls Tryz.prog 56 #[.slice (some ⟨w4.heap.size, 0, none⟩) 2 2] w5 _) :=
        concat_any bs1 bs2 nA nB g1 o1 c1 g2 o2 c2 w4.heap.size w5 (by rw [l1, HNA.out.1]) (by rw [l2, HNA.out.2]) HN'.1 HN'.2.1 HN'.2.2.1 (by omega) (by rw [cell_of_row _ _ _ _ _ _ hn5]; rfl) (by rw [cell_of_row _ _ _ _ _ _ hn5]; rfl) (by have := hS4 g1 hg1; omega) (by have := hS4 g2 hg2; omega) (hcell hg1 K1) (hcell hg2 K2)
      have H5 : Hid (Below w.heap.size w w5 ∧ (a.chs.app b.chs).Pl w5 (BF B w w5) (bs1 ++ bs2)) := ⟨H4.out.1.trans (hb5.mono H4.out.1.size), TyL.Pl_same (fun k hk => hb5.block k (hS4 k hk)) (BF.next hb5.size) _ _ (TyL.Pl_app _ _ _ _ P1 P2)⟩
      have HNL : Hid ((a.chs.app b.chs).len = nA + nB) := by show _ = _; rw [TyL.app_len, HNA.out.1, HNA.out.2]
      have HN2 : Hid (1 + (a.chs.app b.chs).cnt ≤ 1000000000 ∧ 1 + (a.chs.app b.chs).dep ≤ 1000000000 ∧ nA + nB ≤ 1000000000) := ⟨HN'.2.2.2.1, HN'.2.2.2.2, HN'.2.2.1⟩
      clear HN' HN HNA H4 K1 K2 hS4 P1 P2 l1 l2 hcell hb5 hz5 hn5 hg1 hg2
      obtain ⟨PQ, hPQ⟩ : ∃ PQ, PQ = a.chs.app b.chs := ⟨_, rfl⟩
      have HPQ : Hid (PQ = a.chs.app b.chs) := hPQ
      rw [← hPQ] at H5 HNL HN2
      clear hPQ
      go_wp2_with fail
      rw [← hw5]
      refine HCC.out.mono ?_
      rintro e w6 ⟨g, cap, rfl, hb6, ho6⟩
      have H6 : Hid (Below w.heap.size w w6 ∧ PQ.Sh w6 (BF B w w6) (some ⟨g, 0, none⟩) 0) := ⟨H5.out.1.trans (hb6.mono H5.out.1.size), own_sh ho6 (.inr ⟨Nat.le_trans H5.out.1.size (ho6.lt g rfl).1, (ho6.lt g rfl).2⟩) (TyL.Pl_same (fun k hk => hb6.block k (BF.sub HSB.out H5.out.1 k hk)) (BF.next hb6.size) _ _ H5.out.2)⟩
      clear hb6 ho6 H5 HCC hw5
      go_wp2_with fail
      have HM := made_any (.int .i64 7) (.int .i64 0) .nilIface (.int .i64 0) (some ⟨g, 0, none⟩) PQ cap (.slice none 0 0) (.slice none 0 0) (.bool false) (.string ByteArray.empty) (.int .i64 0) (.int .i64 0) (BF B w w6) w6 (BF.sub HSB.out H6.out.1) H6.out.2 (by have := HN2.out; have := HNL.out; omega) HN2.out.1 HN2.out.2.1
      rw [HNL.out] at HM
      refine HM.mono ?_
      rintro e w7 ⟨rfl, hb7, hz7, hbx⟩
      rw [← HNL.out] at hbx
      have H7 : Hid (Below w.heap.size w w7 ∧ (tyUn PQ).Sh w7 (BF B w w7) w6.heap.size) := by
        refine ⟨H6.out.1.trans (hb7.mono H6.out.1.size), sh_parts (.inr ⟨H6.out.1.size, by omega⟩) (.inr rfl) (by have := HN2.out; have := HNL.out; omega) (TyL.Sh_on HSB.out H6.out.2 H6.out.1 hb7) hbx⟩
      clear hb7 hz7 hbx HM
      go_wp2_with fail
      go_ret
      exact ⟨_, rfl, H7.out.1, by rw [← HPQ.out]; exact H7.out.2⟩
end Go.Proofs.YtjdjpbdfchhcfaaGreat

/- check.typeOf of leaves, records and lists. -/
namespace Go.Proofs.YtjdjpbdfchhcfaaGreat
open Go.RowKit

def TypE (v : Tm) (w : World) (e : Ending) (w' : World) : Prop := ∃ b, e = .returned (.pointer (some ⟨b, 0, none⟩)) ∧ Below w.heap.size w w' ∧ v.typ.Sh w' (Fr w w') b
def TypC (N : Nat) : Prop := ∀ (v : Tm), v.sz ≤ N → v.all.e = 0 → ∀ (x : Value) (B : Nat) (w : World), B ≤ w.heap.size → v.V w (Lo B) x → Calls Tryz.prog 36 #[x] w (TypE v w)
theorem made_leaf (k o : Int) (c : ByteArray) (w : World) : Calls Tryz.prog 55 #[.agg #[.int .i64 k, .int .i64 o, .nilIface, .int .i64 0, .slice none 0 0, .slice none 0 0, .slice none 0 0, .bool false, .string c, .int .i64 0, .int .i64 0]] w fun e w' => e = .returned (.pointer (some ⟨w.heap.size, 0, none⟩)) ∧ Below w.heap.size w w' ∧ w'.heap.size = w.heap.size + 1 ∧
      w'.heap[w.heap.size]? = some (.cells #[.int .i64 k, .int .i64 o, .nilIface, .int .i64 0, .slice none 0 0, .slice none 0 0, .slice none 0 0, .bool false, .string c, .int .i64 1, .int .i64 1] 102 (0, 0)) := by
  have := made_any (.int .i64 k) (.int .i64 o) .nilIface (.int .i64 0) none .nil 0 (.slice none 0 0) (.slice none 0 0) (.bool false) (.string c) (.int .i64 0) (.int .i64 0) (fun _ => False) w (fun _ h => h.elim) (by simp [TyL.Sh]) (by simp [TyL.len]) (by simp [TyL.cnt]) (by simp [TyL.dep])
  simpa [TyL.len, TyL.cnt, TyL.dep] using this

set_option maxRecDepth 100000 in
set_option maxHeartbeats 4000000 in
theorem typ_leaf (v : Tm) (x : Value) (S : Nat → Prop) (w : World) (hv : v.V w S x) (hg : v.all.e = 0) (hk : v.knd ≠ 8 ∧ v.knd ≠ 9 ∧ v.knd ≠ 10) : Calls Tryz.prog 36 #[x] w (TypE v w) := by
  have hkc : KindC x v.knd := Tm.kindC hv hg
  have HK : Hid (∀ W, Calls Tryz.prog 71 #[x] W fun e w' => e = .returned (.int .i64 v.knd) ∧ W = w') := fun W => Kind_any x v.knd hkc W
  have HT : Hid (v.typ = tyKd v.knd) := by
    show _ = _
    cases v with
    | mk k b i f tx by' rf l fs c vr =>
      have hk : k ≠ 8 ∧ k ≠ 9 ∧ k ≠ 10 := hk
      simp [Tm.typ, hk.1, hk.2.1, hk.2.2, Tm.knd]
  have HM : Hid (∀ W, Calls Tryz.prog 55 #[.agg #[.int .i64 3, .int .i64 v.knd, .nilIface, .int .i64 0, .slice none 0 0, .slice none 0 0, .slice none 0 0, .bool false, .string ByteArray.empty, .int .i64 0, .int .i64 0]] W _) := fun W => made_leaf 3 v.knd ByteArray.empty W
  have hx : x = .nilIface ∨ (∃ b, x = .iface 4 (.bool b)) ∨ (∃ i, x = .iface 2 (.int .i64 i)) ∨ (∃ f, x = .iface 22 (.float .f64 f)) ∨ (∃ t, x = .iface 9 (.string t)) ∨ (∃ a n c, x = .iface 23 (.slice a n c)) ∨ (∃ r, x = .iface 25 (.int .u64 r)) := by
    cases v with
    | mk k b i f tx by' rf l fs c vr =>
      have hk : k ≠ 8 ∧ k ≠ 9 ∧ k ≠ 10 := hk
      have hgk := (Tm.good_kind hg).1
      simp only [Tm.V] at hv
      obtain ⟨h1, h2, h3, h4, h5, h6, h7, -⟩ := hv
      rcases (by omega : k = 1 ∨ k = 2 ∨ k = 3 ∨ k = 4 ∨ k = 5 ∨ k = 6 ∨ k = 7) with q | q | q | q | q | q | q
      · exact .inl (h1 q)
      · exact .inr (.inl ⟨_, h2 q⟩)
      · exact .inr (.inr (.inl ⟨_, h3 q⟩))
      · exact .inr (.inr (.inr (.inl ⟨_, (h4 q).1⟩)))
      · exact .inr (.inr (.inr (.inr (.inl ⟨_, (h5 q).1⟩))))
      · obtain ⟨a, cap, e, -⟩ := h6 q; exact .inr (.inr (.inr (.inr (.inr (.inl ⟨_, _, _, e⟩)))))
      · exact .inr (.inr (.inr (.inr (.inr (.inr ⟨_, h7 q⟩)))))
  clear hv hg hk hkc
  generalize v.knd = kv at *
  rcases hx with rfl | ⟨b, rfl⟩ | ⟨i, rfl⟩ | ⟨f, rfl⟩ | ⟨t, rfl⟩ | ⟨a, n, c, rfl⟩ | ⟨r, rfl⟩
  all_goals
    go_enter Tryz.func36, Tryz.ntmps36
    go_wp2_with fail
    refine (HK.out _).mono ?_
    rintro e w1 ⟨rfl, rfl⟩
    go_wp2_with fail
    refine (HM.out _).mono ?_
    rintro e w2 ⟨rfl, hb2, hz2, hbx⟩
    have H : Hid (Below w.heap.size w w2 ∧ v.typ.Sh w2 (Fr w w2) w.heap.size) := ⟨hb2, by rw [HT.out]; exact sh_leaf (k := 3) (o := kv) (c := ByteArray.empty) ⟨by omega, by omega⟩ (.inr (.inr (.inl rfl))) (by simp) (fun _ => rfl) hbx _ (fun _ => rfl) _ (by simp)⟩
    clear hb2 hz2 hbx
    go_wp2_with fail
    go_ret
    exact ⟨_, rfl, H.out⟩

set_option maxRecDepth 100000 in
set_option maxHeartbeats 4000000 in
theorem typ_record (b : Bool) (i : Int) (f : Nat) (tx by' : ByteArray) (rf : Int) (l : TmL) (fs : TmF) (c : ByteArray) (vr : Int) (x : Value) (S : Nat → Prop) (w : World) (hS : Sub S w) (hv : (Tm.mk 10 b i f tx by' rf l fs c vr).V w S x) : Calls Tryz.prog 36 #[x] w (TypE (Tm.mk 10 b i f tx by' rf l fs c vr) w) := by
  simp only [Tm.V] at hv
  obtain ⟨g, a, cap, rfl, hg, c0, -⟩ := hv.2.2.2.2.2.2.2.2.2.1 trivial
  have hgl := hS g hg
  have HT : Hid ((Tm.mk 10 b i f tx by' rf l fs c vr).typ = tyRc c) := by show _ = _; simp [Tm.typ]
  have HM : Hid (∀ W, Calls Tryz.prog 55 #[.agg #[.int .i64 8, .int .i64 0, .nilIface, .int .i64 0, .slice none 0 0, .slice none 0 0, .slice none 0 0, .bool false, .string c, .int .i64 0, .int .i64 0]] W _) := fun W => made_leaf 8 0 c W
  clear hg hS hv
  go_enter Tryz.func36, Tryz.ntmps36
  go_wp2_with fail
  refine (HM.out _).mono ?_
  rintro e w2 ⟨rfl, hb2, hz2, hbx⟩
  have H : Hid (Below w.heap.size w w2 ∧ (Tm.mk 10 b i f tx by' rf l fs c vr).typ.Sh w2 (Fr w w2) w.heap.size) := ⟨hb2, by rw [HT.out]; exact sh_leaf (k := 8) (o := 0) (c := c) ⟨by omega, by omega⟩ (.inr (.inr (.inr rfl))) (fun _ => rfl) (by simp) hbx _ (by simp) _ (fun _ => rfl)⟩
  clear hb2 hz2 hbx
  go_wp2_with fail
  go_ret
  exact ⟨_, rfl, H.out⟩

set_option maxRecDepth 100000 in
set_option maxHeartbeats 4000000 in
theorem typ_list (N : Nat) (HC : TypC N) (L : TmL) (hN : L.sz ≤ N) (hgd : L.gd) (hlen : L.len ≤ 1000000) (a : Option Addr) (cap B : Nat) (w : World) (hB : B ≤ w.heap.size) (hL : L.V w (Lo B) a 0) :
    Calls Tryz.prog 36 #[.iface 71 (.slice a L.len cap)] w fun e w' => ∃ b, e = .returned (.pointer (some ⟨b, 0, none⟩)) ∧ Below w.heap.size w w' ∧ (tyLs (L.typs tyNo)).orA.Sh w' (Fr w w') b := by
  have HCH : Hid (TypC N) := HC
  have HL : Hid (L.V w (Lo B) a 0 ∧ L.gd ∧ B ≤ w.heap.size) := ⟨hL, hgd, hB⟩
  have HM : Hid (Calls Tryz.prog 55 #[.agg #[.int .i64 2, .int .i64 0, .nilIface, .int .i64 0, .slice none 0 0, .slice none 0 0, .slice none 0 0, .bool false, .string ByteArray.empty, .int .i64 0, .int .i64 0]] w _) := made_leaf 2 0 ByteArray.empty w
  clear HC hL hgd hB
  go_enter Tryz.func36, Tryz.ntmps36
  go_wp2_with fail
  refine HM.out.mono ?_
  rintro e w1 ⟨rfl, hb1, hz1, hbx⟩
  have H1 : Hid (Below w.heap.size w w1 ∧ tyNo.Sh w1 (Fr w w1) w.heap.size) := ⟨hb1, sh_leaf (k := 2) (o := 0) (c := ByteArray.empty) ⟨by omega, by omega⟩ (.inr (.inl rfl)) (fun _ => rfl) (fun _ => rfl) hbx _ (by simp) _ (by simp)⟩
  clear hb1 hz1 hbx HM
  go_wp2_with fail
  go_loopw [4, 20] (fun u i wr => ∃ (j q : Nat) (l : TmL) (p : Ty), u = .pointer (some ⟨q, 0, none⟩) ∧ i = .int .i64 (j : Int) ∧ l.len + j = L.len ∧ l.sz ≤ N ∧ Hid (L.typs tyNo = l.typs p ∧ p.ok = true ∧ p.fitsB = true ∧ l.gd ∧ l.V w (Lo B) a j ∧ Below w.heap.size w wr ∧ p.Sh wr (Fr w wr) q)) (fun _ i _ => L.len - (intOf i).toNat)
  case atStart => exact ⟨0, w.heap.size, L, tyNo, rfl, rfl, rfl, hN, ⟨rfl, tyNo_ok, tyNo_fits, HL.out.2.1, HL.out.1, H1.out.1, H1.out.2⟩⟩
  case round =>
    obtain ⟨j, q, l, p, rfl, rfl, hj, hlN, HK⟩ := hrel
    clear H1
    cases l with
    | nil =>
      have hj' : L.len ≤ j := by simp [TmL.len] at hj; omega
      have HP : Hid (L.typs tyNo = p ∧ p.fitsB = true ∧ Below w.heap.size w wr ∧ p.Sh wr (Fr w wr) q) := ⟨by have := HK.out.1; simpa only [TmL.typs] using this, HK.out.2.2.1, HK.out.2.2.2.2.2.1, HK.out.2.2.2.2.2.2⟩
      clear hj HK HL HCH
      have hql : q < wr.heap.size := (Ty.Sh_cnt HP.out.2.2.2).1.2
      go_wp2_with fail
      obtain ⟨w2, hw2⟩ : ∃ w2, w2 = wr.alloc (.cells #[.pointer (some ⟨q, 0, none⟩)] 60) := ⟨_, rfl⟩
      have hb2 : Below wr.heap.size wr w2 := by rw [hw2]; exact (Below.refl _ _).alloc (Nat.le_refl _) _
      have hz2 : w2.heap.size = wr.heap.size + 1 := by rw [hw2]; simp
      have hn2 : w2.heap[wr.heap.size]? = some (.cells #[.pointer (some ⟨q, 0, none⟩)] 60 (0, 0)) := by rw [hw2]; exact heap_alloc_new wr _
      rw [← hw2]
      have hzw := HP.out.2.2.1.size
      have hsub : Sub (Fr w w2) w2 := fun k hk => hk.2
      have hp2 : p.Sh w2 (Fr w w2) q := p.Sh_same (fun k hk => hb2.block k hk.2) (fun k hk => ⟨hk.1, Nat.lt_of_lt_of_le hk.2 hb2.size⟩) q HP.out.2.2.2
      have hps : (TyL.cons p .nil).Sh w2 (Fr w w2) (some ⟨wr.heap.size, 0, none⟩) 0 := by
        simp only [TyL.Sh]
        exact ⟨wr.heap.size, 0, q, rfl, ⟨hzw, by omega⟩, by rw [cell_of_row _ _ _ _ _ _ hn2]; rfl, hp2, trivial⟩
      have hf := Ty.fitsB_iff.1 HP.out.2.1
      have hpp := Ty.cnt_pos p
      have e1 : (TyL.cons p .nil).cnt = p.cnt := by simp [TyL.cnt]
      have e2 : (TyL.cons p .nil).dep = p.dep := TyL.dep_one p
      have HM := made_any (.int .i64 5) (.int .i64 0) .nilIface (.int .i64 0) (some ⟨wr.heap.size, 0, none⟩) (.cons p .nil) 1 (.slice none 0 0) (.slice none 0 0) (.bool false) (.string ByteArray.empty) (.int .i64 0) (.int .i64 0) (Fr w w2) w2 hsub hps (by simp [TyL.len]) (by omega) (by omega)
      refine HM.mono ?_
      rintro e w3 ⟨rfl, hb3, hz3, hbx⟩
      have hbw3 : Below w.heap.size w w3 := (HP.out.2.2.1.trans (hb2.mono hzw)).trans (hb3.mono (by omega))
      have hls : (tyLs p).Sh w3 (Fr w w3) w2.heap.size := sh_parts (k := 5) ⟨by omega, by omega⟩ (.inl rfl) (by simp [TyL.len]) (TyL.Sh_same (fun k hk => hb3.block k hk.2) (fun k hk => ⟨hk.1, Nat.lt_of_lt_of_le hk.2 hb3.size⟩) _ _ _ hps) hbx
      have HO := orAny_any (tyLs p) w2.heap.size (Fr w w3) w3 (fun k hk => hk.2) hls
      have HBW : Hid (Below w.heap.size w w3) := hbw3
      have HO2 : Hid (Calls Tryz.prog 70 #[.pointer (some ⟨w2.heap.size, 0, none⟩)] w3 fun e w' => ∃ b', e = .returned (.pointer (some ⟨b', 0, none⟩)) ∧ Below w3.heap.size w3 w' ∧ (tyLs p).orA.Sh w' (BF (Fr w w3) w3 w') b') := HO
      clear HM hb2 hz2 hn2 hw2 hsub hp2 hps hf hpp e1 e2 hb3 hz3 hbx hbw3 hls HO
      go_wp2_with fail
      refine HO2.out.mono ?_
      rintro e w4 ⟨b', rfl, hb4, hs4⟩
      have HF : Hid (Below w.heap.size w w4 ∧ (tyLs (L.typs tyNo)).orA.Sh w4 (Fr w w4) b') := by
        refine ⟨HBW.out.trans (hb4.mono HBW.out.size), ?_⟩
        rw [HP.out.1]
        have h1 := HBW.out.size
        exact Ty.Sh_same (Same.refl _ _) (fun k hk => by
          rcases hk with hk | hk
          · exact ⟨hk.1, Nat.lt_of_lt_of_le hk.2 hb4.size⟩
          · exact ⟨Nat.le_trans h1 hk.1, hk.2⟩) _ _ hs4
      clear hb4 hs4 HBW HO2
      go_wp2_with fail
      go_ret
      exact ⟨_, rfl, HF.out⟩
    | cons t l =>
      obtain ⟨htp, hok, hfit, hgl, hvl, hbw, hsh⟩ := HK.out
      simp only [TmL.V] at hvl
      obtain ⟨g, o', v', rfl, hg, hc, hv, hvl'⟩ := hvl
      have hj1 : j < L.len := by simp [TmL.len] at hj; omega
      have HJ : Hid (l.len + (j + 1) = L.len) := by show _ = _; simp [TmL.len] at hj; omega
      have hN1 : t.sz ≤ N ∧ l.sz ≤ N := by simp [TmL.sz] at hlN; omega
      have hBw := HL.out.2.2
      have hzw := hbw.size
      have hsame : Same (Lo B) w wr := fun k hk => hbw.block k (Nat.lt_of_lt_of_le hk hBw)
      have e0 : wr.cell? ⟨g, o' + j, none⟩ = some v' := by rw [hsame.cell (p := ⟨g, o' + j, none⟩) hg]; exact hc
      have HT : Hid (Calls Tryz.prog 36 #[v'] wr (TypE t wr)) := HCH.out t hN1.1 hgl.1 v' B wr (by omega) (t.V_same hsame (fun _ h => h) v' hv)
      have hi0 : (0 : Int) ≤ (j : Int) := Int.natCast_nonneg _
      have hi1 : (j : Int) < (L.len : Int) := by omega
      have HK2 : Hid (L.typs tyNo = (TmL.cons t l).typs p ∧ p.ok = true ∧ p.fitsB = true ∧ (TmL.cons t l).gd ∧ l.V w (Lo B) (some ⟨g, o', none⟩) (j + 1) ∧ Below w.heap.size w wr ∧ p.Sh wr (Fr w wr) q) := ⟨htp, hok, hfit, hgl, hvl', hbw, hsh⟩
      clear htp hok hfit hgl hvl' hbw hsh hsame hv hc hj HK hlN hBw
      go_wp2_with fail
      refine HT.out.mono ?_
      rintro e w2 ⟨b2, rfl, hb2, hs2⟩
      have hzw2 := hb2.size
      have htk := Tm.typ_ok t HK2.out.2.2.2.1.1
      have hbw2 : Below w.heap.size w w2 := HK2.out.2.2.2.2.2.1.trans (hb2.mono hzw)
      have HE := either_any p t.typ q b2 (Fr w w2) w2 (fun k hk => hk.2) HK2.out.2.1 htk.1 HK2.out.2.2.1 htk.2 (p.Sh_same (fun k hk => hb2.block k hk.2) (fun k hk => ⟨hk.1, Nat.lt_of_lt_of_le hk.2 hzw2⟩) q HK2.out.2.2.2.2.2.2) (t.typ.Sh_same (Same.refl _ _) (fun k hk => ⟨Nat.le_trans hzw hk.1, hk.2⟩) b2 hs2)
      have HE2 : Hid (Calls Tryz.prog 27 #[.pointer (some ⟨q, 0, none⟩), .pointer (some ⟨b2, 0, none⟩)] w2 fun e w' => ∃ q2, e = .returned (.pointer (some ⟨q2, 0, none⟩)) ∧ Below w2.heap.size w2 w' ∧ (p.ei t.typ).Sh w' (BF (Fr w w2) w2 w') q2) := HE
      have HB2 : Hid (Below w.heap.size w w2 ∧ t.typ.ok = true) := ⟨hbw2, htk.1⟩
      clear HE hb2 hs2 htk hbw2 HT
      go_wp2_with fail
      refine HE2.out.mono ?_
      rintro e w3 ⟨q3, rfl, hb3, hs3⟩
      have hz3 := hb3.size
      have hzw02 := HB2.out.1.size
      have HO2 : Hid (Calls Tryz.prog 70 #[.pointer (some ⟨q3, 0, none⟩)] w3 fun e w' => ∃ b', e = .returned (.pointer (some ⟨b', 0, none⟩)) ∧ Below w3.heap.size w3 w' ∧ (p.ei t.typ).orA.Sh w' (BF (Fr w w3) w3 w') b') :=
        orAny_any (p.ei t.typ) q3 (Fr w w3) w3 (fun k hk => hk.2) (Ty.Sh_same (Same.refl _ _) (fun k hk => by
          rcases hk with hk | hk
          · exact ⟨hk.1, Nat.lt_of_lt_of_le hk.2 hz3⟩
          · exact ⟨Nat.le_trans hzw02 hk.1, hk.2⟩) _ _ hs3)
      have HB3 : Hid (Below w.heap.size w w3 ∧ t.typ.ok = true) := ⟨HB2.out.1.trans (hb3.mono hzw02), HB2.out.2⟩
      clear hb3 hs3 HE2 HB2 hz3
      go_wp2_with fail
      refine HO2.out.mono ?_
      rintro e w4 ⟨q4, rfl, hb4, hs4⟩
      have HF : Hid (Below w.heap.size w w4 ∧ (p.ei t.typ).orA.Sh w4 (Fr w w4) q4) := by
        have h1 := HB3.out.1.size
        refine ⟨HB3.out.1.trans (hb4.mono h1), Ty.Sh_same (Same.refl _ _) (fun k hk => ?_) _ _ hs4⟩
        rcases hk with hk | hk
        · exact ⟨hk.1, Nat.lt_of_lt_of_le hk.2 hb4.size⟩
        · exact ⟨Nat.le_trans h1 hk.1, hk.2⟩
      clear hb4 hs4 HO2
      go_wp2_with fail
      go_roundw
      case rel =>
        refine ⟨j + 1, q4, l, (p.ei t.typ).orA, rfl, by go_num, HJ.out, hN1.2, ⟨?_, Ty.orA_ok (Ty.ei_ok HK2.out.2.1 HB3.out.2), Ty.orA_fits _, HK2.out.2.2.2.1.2, HK2.out.2.2.2.2.1, HF.out.1, HF.out.2⟩⟩
        have := HK2.out.1
        simpa only [TmL.typs] using this
      case measure => simp [intOf]; omega
end Go.Proofs.YtjdjpbdfchhcfaaGreat

/- check.typeOf of dicts, and of every value that can be. -/
namespace Go.Proofs.YtjdjpbdfchhcfaaGreat
open Go.RowKit

theorem Tryz.infoS : (Tryz.prog.info? 9).map (fun i => (i.zero, i.size, i.bytes)) = some (some (.string ByteArray.empty), 1, 16) := by kernel_rfl
theorem Tryz.undStr : Tryz.prog.underlying 31 = some (.slice 9) := by kernel_rfl

theorem sh_dict {n : List ByteArray} {p : TyL} {w : World} {B : Nat → Prop} {b cp cn ck : Nat} {ap an ak : Option Addr} (hB : B b) (hl : p.len ≤ 70368744177664) (hp : p.Sh w B ap 0) (hn : NamesAt w B an n) (hk : BoolsAt w B ak (List.replicate n.length false))
    (h : w.heap[b]? = some (.cells #[.int .i64 6, .int .i64 0, .nilIface, .int .i64 0, .slice ap p.len cp, .slice an n.length cn, .slice ak n.length ck, .bool false, .string ByteArray.empty, .int .i64 (1 + p.cnt), .int .i64 (1 + p.dep)] 102 (0, 0))) :
    (tyFs n p).Sh w B b := by
  simp only [tyFs, Ty.Sh, Ty.cnt, Ty.dep, Sp.parted]
  exact ⟨hB, _, _, _, _, _, _, _, _, _, _, _, _, _, _, h, by simp, by simp, fun _ => ⟨rfl, hl, hp⟩, fun _ => ⟨rfl, by simp, rfl, hn, hk⟩, by simp, by simp [ShZ, Sp.parted]⟩

def DB (w wr : World) (vn vp : Value) : Nat → Prop := fun k => w.heap.size + 2 ≤ k ∧ k < wr.heap.size ∧ some k ≠ vn.ownBlock ∧ some k ≠ vp.ownBlock
structure DQ (L : Nat) (w wr : World) (vn vp : Value) (j : Nat) (ns : List ByteArray) (bs : List Nat) (T : TyL) : Prop where
  nrow : wr.ownsRow (w.heap.size + 2) 9 1 vn j (ns.map Value.string)
  prow : wr.ownsRow (w.heap.size + 2) 60 1 vp j (bs.map ptr)
  apart : ∀ k, vn.ownBlock = some k → vp.ownBlock ≠ some k
  pl : T.Pl wr (DB w wr vn vp) bs
  bel : Below w.heap.size w wr
  lk : wr.heap[w.heap.size]? = some (.cells (List.replicate L (.bool false)).toArray 4 (0, 0))
  bx : wr.heap[w.heap.size + 1]? = some (.cells #[.int .i64 6, .int .i64 0, .nilIface, .int .i64 0, vp, vn, .slice (some ⟨w.heap.size, 0, none⟩) L L, .bool false, .string ByteArray.empty, .int .i64 0, .int .i64 0] 102 (0, 0))
  sz : w.heap.size + 2 ≤ wr.heap.size

theorem DQ.own {L : Nat} {w wr : World} {vn vp : Value} {j : Nat} {ns : List ByteArray} {bs : List Nat} {T : TyL} (h : DQ L w wr vn vp j ns bs T) : (∀ k, vn.ownBlock = some k → w.heap.size + 2 ≤ k ∧ k < wr.heap.size) ∧ (∀ k, vp.ownBlock = some k → w.heap.size + 2 ≤ k ∧ k < wr.heap.size) := ⟨h.nrow.lt, h.prow.lt⟩

theorem DQ.step {L : Nat} {w wr : World} {vn vp : Value} {j : Nat} {ns : List ByteArray} {bs : List Nat} {T : TyL} (h : DQ L w wr vn vp j ns bs T) {W2 w3 w4 W5 w6 : World} {n : ByteArray} {t : Ty} {b g' c' g'' c'' : Nat}
    (b2 : Below wr.heap.size wr W2) (n3 : w3.ownsRow (w.heap.size + 2) 9 1 (.slice (some ⟨g', 0, none⟩) (j + 1) c') (j + 1) (ns.map Value.string ++ [.string n])) (g3 : W2.grownBy w3 vn.ownBlock) (o3 : vn.ownBlock = some g' ∨ g' = W2.heap.size)
    (b4 : Below w3.heap.size w3 w4) (s4 : t.Sh w4 (Fr w3 w4) b) (b5 : Below w4.heap.size w4 W5)
    (p6 : w6.ownsRow (w.heap.size + 2) 60 1 (.slice (some ⟨g'', 0, none⟩) (j + 1) c'') (j + 1) (bs.map ptr ++ [ptr b])) (g6 : W5.grownBy w6 vp.ownBlock) (o6 : vp.ownBlock = some g'' ∨ g'' = W5.heap.size) :
    (w6.heap[w.heap.size + 1]? = some (.cells #[.int .i64 6, .int .i64 0, .nilIface, .int .i64 0, vp, vn, .slice (some ⟨w.heap.size, 0, none⟩) L L, .bool false, .string ByteArray.empty, .int .i64 0, .int .i64 0] 102 (0, 0))) ∧
    DQ L w ((w6.setCell ⟨w.heap.size + 1, 5, none⟩ (.slice (some ⟨g', 0, none⟩) (j + 1) c')).setCell ⟨w.heap.size + 1, 4, none⟩ (.slice (some ⟨g'', 0, none⟩) (j + 1) c'')) (.slice (some ⟨g', 0, none⟩) (j + 1) c') (.slice (some ⟨g'', 0, none⟩) (j + 1) c'') (j + 1) (ns ++ [n]) (bs ++ [b]) (T.app (.cons t .nil)) := by
  obtain ⟨on, op⟩ := h.own
  have z0 := h.sz
  have z2 := b2.size
  have z3 := g3.size
  have z4 := b4.size
  have z5 := b5.size
  have z6 := g6.size
  have lg' := n3.lt g' rfl
  have lg'' := p6.lt g'' rfl
  have k46 : ∀ k, k < wr.heap.size → some k ≠ vn.ownBlock → some k ≠ vp.ownBlock → w6.heap[k]? = wr.heap[k]? := fun k h1 h2 h3 => by
    rw [g6.block k (by omega) h3, b5.block k (by omega), b4.block k (by omega), g3.block k (by omega) h2, b2.block k h1]
  have low : ∀ k, k < w.heap.size + 2 → some k ≠ vn.ownBlock ∧ some k ≠ vp.ownBlock := fun k hk => ⟨fun e => by have := on k e.symm; omega, fun e => by have := op k e.symm; omega⟩
  have hg1 : ∀ k, k < wr.heap.size → some k ≠ vn.ownBlock → k ≠ g' := fun k h1 h2 e => by
    rcases o3 with e' | e'
    · exact h2 (by rw [e', e])
    · omega
  have hg2 : ∀ k, k < W5.heap.size → some k ≠ vp.ownBlock → k ≠ g'' := fun k h1 h2 e => by
    rcases o6 with e' | e'
    · exact h2 (by rw [e', e])
    · omega
  have hng : some g' ≠ vp.ownBlock := fun e => by
    rcases o3 with e' | e'
    · exact h.apart g' e' e.symm
    · have := op g' e.symm; omega
  have hng2 : g' ≠ g'' := hg2 g' (by omega) hng
  have bx6 : w6.heap[w.heap.size + 1]? = some (.cells #[.int .i64 6, .int .i64 0, .nilIface, .int .i64 0, vp, vn, .slice (some ⟨w.heap.size, 0, none⟩) L L, .bool false, .string ByteArray.empty, .int .i64 0, .int .i64 0] 102 (0, 0)) := by
    rw [k46 _ (by omega) (low _ (by omega)).1 (low _ (by omega)).2]; exact h.bx
  refine ⟨bx6, ?_⟩
  obtain ⟨w7, hw7⟩ : ∃ w7, w7 = (w6.setCell ⟨w.heap.size + 1, 5, none⟩ (.slice (some ⟨g', 0, none⟩) (j + 1) c')).setCell ⟨w.heap.size + 1, 4, none⟩ (.slice (some ⟨g'', 0, none⟩) (j + 1) c'') := ⟨_, rfl⟩
  have oth : ∀ k, k ≠ w.heap.size + 1 → w7.heap[k]? = w6.heap[k]? := fun k hk => by
    rw [hw7, heap_setCell_other _ _ _ _ (by show k ≠ _; omega), heap_setCell_other _ _ _ _ (by show k ≠ _; omega)]
  have sz7 : w7.heap.size = w6.heap.size := by rw [hw7]; simp
  have b06 : Below w.heap.size w w6 := by
    have h1 : Below w.heap.size w W2 := h.bel.trans (b2.mono h.bel.size)
    have h2 : Below w.heap.size w w3 := h1.grown g3 (by omega) (fun k e => by have := on k e; omega)
    have h3 : Below w.heap.size w W5 := (h2.trans (b4.mono (by omega))).trans (b5.mono (by omega))
    exact h3.grown g6 (by omega) (fun k e => by have := op k e; omega)
  have rowk : ∀ {e : TypeId} {v : Value} {m : Nat} {xs : List Value}, w6.ownsRow (w.heap.size + 2) e 1 v m xs → w7.ownsRow (w.heap.size + 2) e 1 v m xs := fun {e v m xs} ho => by
    refine ⟨ho.1, ?_⟩
    rcases ho.2 with ho | ⟨g0, cap, cur, e0, hb0, hc, r⟩
    · exact .inl ho
    · exact .inr ⟨g0, cap, cur, e0, hb0, by rw [oth _ (by omega)]; exact hc, r⟩
  have n6 : w6.ownsRow (w.heap.size + 2) 9 1 (.slice (some ⟨g', 0, none⟩) (j + 1) c') (j + 1) (ns.map Value.string ++ [.string n]) :=
    (owns_below b5 (owns_below b4 n3)).kept g6 (.inr hng)
  rw [← hw7]
  refine ⟨by rw [List.map_append]; exact rowk n6, by rw [List.map_append]; exact rowk p6, fun k e e2 => ?_, ?_, ?_, ?_, ?_, by omega⟩
  · simp only [Value.ownBlock, Option.some.injEq] at e e2; omega
  · refine TyL.Pl_app T (.cons t .nil) bs [b] (TyL.Pl_same (fun k hk => ?_) (fun k hk => ?_) _ _ h.pl) ⟨t.Sh_same (B := Fr w3 w4) (fun k hk => ?_) (fun k hk => ?_) b s4, trivial⟩
    · obtain ⟨h1, h2, h3, h4⟩ := hk
      rw [oth k (by omega), k46 k h2 h3 h4]
    · obtain ⟨h1, h2, h3, h4⟩ := hk
      refine ⟨h1, by omega, ?_, ?_⟩
      · simp only [Value.ownBlock]; intro e; injection e with e; exact hg1 k h2 h3 e
      · simp only [Value.ownBlock]; intro e; injection e with e; exact hg2 k (by omega) h4 e
    · have hk1 := hk.1
      have hk2 := hk.2
      have hv : some k ≠ vp.ownBlock := fun e => by have := op k e.symm; omega
      rw [oth k (by omega), g6.block k (by omega) hv, b5.block k (by omega)]
    · have hk1 := hk.1
      have hk2 := hk.2
      have hv : some k ≠ vp.ownBlock := fun e => by have := op k e.symm; omega
      refine ⟨by omega, by omega, ?_, ?_⟩
      · simp only [Value.ownBlock]; intro e; injection e with e; omega
      · simp only [Value.ownBlock]; intro e; injection e with e; exact hg2 k (by omega) hv e
  · rw [hw7]; exact (b06.setCell (p := ⟨w.heap.size + 1, 5, none⟩) (Nat.le_succ _) _).setCell (p := ⟨w.heap.size + 1, 4, none⟩) (Nat.le_succ _) _
  · rw [oth _ (by omega), k46 _ (by omega) (low _ (by omega)).1 (low _ (by omega)).2]; exact h.lk
  · rw [hw7]
    have h1 := heap_setCell_same w6 (w.heap.size + 1) 5 _ _ (.slice (some ⟨g', 0, none⟩) (j + 1) c') bx6
    have h2 := heap_setCell_same _ (w.heap.size + 1) 4 _ _ (.slice (some ⟨g'', 0, none⟩) (j + 1) c'') h1
    simpa using h2
end Go.Proofs.YtjdjpbdfchhcfaaGreat

