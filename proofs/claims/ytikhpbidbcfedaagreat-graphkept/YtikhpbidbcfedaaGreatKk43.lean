/- tenonlaw14.GraphKept returns true. -/
import Derived.Test.YtikhpbidbcfedaaGreatKk40
import Derived.Test.YtikhpbidbcfedaaGreatKk42
namespace Go.Proofs.YtikhpbidbcfedaaGreat
open Go.RowKit Go.ChangeMaps

theorem RefsAt.mono3 {w : World} {B B' : Nat} {a : Option Addr} {l : List Int} (h : RefsAt w B a l) (hb : B ≤ B') : RefsAt w B' a l := ⟨h.row.same (fun _ _ => rfl) (fun _ hk => Nat.lt_of_lt_of_le hk hb), h.nil, h.bd⟩
theorem NdR.refs {w : World} {gs : Option Nat} {c : Nat} {l : List Int} (h : NdR w gs c l) (hb : ∀ x ∈ l, 0 ≤ x ∧ x < 18446744073709551616) : RefsAt w w.heap.size (adr gs) l := by
  refine ⟨fun t u hu => ?_, fun _ => ?_, hb⟩
  · cases gs with
    | none => have := (h.1 rfl).1; subst this; simp [rv] at hu
    | some g => exact ⟨g, 0, rfl, (h.2 g rfl).lt, by simpa using (h.2 g rfl).cell hu⟩
  · cases gs with
    | none => exact .inl rfl
    | some g => exact .inr ⟨g, 0, rfl⟩
theorem NdE.edges {w : World} {gs : Option Nat} {c : Nat} {l : List (Int × Int)} (h : NdE w gs c l) (hb : ∀ x ∈ l, (0 ≤ x.1 ∧ x.1 < 18446744073709551616) ∧ 0 ≤ x.2 ∧ x.2 < 18446744073709551616) : EdgesAt w w.heap.size (adr gs) l := by
  refine ⟨fun t u hu => ?_, fun _ => ?_, hb⟩
  · cases gs with
    | none => have := (h.1 rfl).1; subst this; simp at hu
    | some g =>
      have := ev_get l t u hu
      exact ⟨g, 0, rfl, (h.2 g rfl).lt, by simpa using (h.2 g rfl).cell this.1, by simpa using (h.2 g rfl).cell this.2⟩
  · cases gs with
    | none => exact .inl rfl
    | some g => exact .inr ⟨g, 0, rfl⟩

set_option maxRecDepth 100000 in
set_option maxHeartbeats 16000000 in
theorem GraphKept_any (a : Option Addr) (cap : Nat) (nodes : List Int) (a2 : Option Addr) (cap2 : Nat) (E : List (Int × Int)) (a3 : Option Addr) (cap3 : Nat) (l : List Int) (x : Int) (w : World)
    (h1 : RefsAt w w.heap.size a nodes) (h2 : EdgesAt w w.heap.size a2 E) (h3 : RefsAt w w.heap.size a3 l) (hx : 0 ≤ x ∧ x < 18446744073709551616) (hl1 : nodes.length * 8 ≤ 140737488355328) (hl2 : E.length * 16 ≤ 140737488355328) (hl3 : l.length * 8 ≤ 140737488355328) :
    Calls Tryz.prog 5 #[.slice a nodes.length cap, .slice a2 E.length cap2, .slice a3 l.length cap3, .int .u64 x] w fun e w' => e = .returned (.bool true) ∧ Below w.heap.size w w' := by
  have HV := lives_any w
  have HMK : Hid (∀ W : World, Below w.heap.size w W → Calls Tryz.prog 9 #[.slice a nodes.length cap, .slice a2 E.length cap2] W fun e w' => ∃ p, e = .returned (.tuple #[.pointer p, .int .i64 (Sp.mkE nodes E)]) ∧ MkE W nodes E p w') := fun W hW => Make_any a cap nodes a2 cap2 E w.heap.size W (h1.keep hW) (h2.keep hW.block) hW.size hl1 hl2
  have HBD : Hid (∀ x ∈ nodes, 0 ≤ x ∧ x < 18446744073709551616) := h1.bd
  have HED : Hid (∀ x ∈ E, (0 ≤ x.1 ∧ x.1 < 18446744073709551616) ∧ 0 ≤ x.2 ∧ x.2 < 18446744073709551616) := h2.bd
  have HLR : Hid (∀ W : World, Below w.heap.size w W → RefsAt W W.heap.size a3 l) := fun W hW => (h3.keep hW).mono3 hW.size
  have HWV : Hid (∀ W : World, Below w.heap.size w W → RfV W a nodes ∧ EgV W a2 E) := fun W hW => ⟨(h1.keep hW).rfv, (h2.keep hW.block).egv⟩
  clear h1 h2 h3 hl1 hl2
  go_enter Tryz.func5, Tryz.ntmps5
  go_wp2_with fail
  refine HV.mono ?_
  rintro e w1 ⟨rfl, hb1⟩
  have H1 : Hid (Below w.heap.size w w1) := hb1
  clear hb1 HV
  go_wp2_with fail
  refine (HMK.out w1 H1.out).mono ?_
  rintro e w2 ⟨p, rfl, hmE⟩
  have HM : Hid (MkE w1 nodes E p w2) := hmE
  have H2 : Hid (Below w.heap.size w w2) := belT H1.out hmE.1
  clear hmE HMK H1
  by_cases hk : Sp.mkE nodes E ≠ 0
  · obtain rfl := HM.out.2.2 hk
    go_wp2_with fail
    go_ret
    exact ⟨rfl, H2.out⟩
  have hk0 : Sp.mkE nodes E = 0 := Classical.byContradiction fun h => hk h
  clear hk
  obtain ⟨gb, rfl, hg⟩ := HM.out.2.1 hk0
  rw [hk0]
  obtain ⟨q1, q2, q3, q4, q5⟩ := mkE_parts hk0
  have hk1 := mkE_without hk0 x
  obtain ⟨r1, r2, r3, r4, r5⟩ := mkE_parts hk1
  have HKM := KpM.of hk0 l x
  have hN0 : (Sp.srt nodes).length ≤ 4096 ∧ (Sp.srt nodes).Pairwise (· < ·) ∧ ∀ x ∈ Sp.srt nodes, 0 ≤ x ∧ x < 18446744073709551616 := ⟨by rw [srt_len]; exact q1, srt_lt q4, fun x hx => HBD.out x (srt_mem.1 hx)⟩
  have hN1 : (Sp.srt (Sp.wN nodes x)).length ≤ 4096 := by rw [srt_len]; exact r1
  have HB1 : Hid (∀ v ∈ Sp.wN nodes x, 0 ≤ v ∧ v < 18446744073709551616) := fun v hv => HBD.out v (wN_mem.1 hv).1
  have HB2 : Hid (∀ v ∈ Sp.wE E x, (0 ≤ v.1 ∧ v.1 < 18446744073709551616) ∧ 0 ≤ v.2 ∧ v.2 < 18446744073709551616) := fun v hv => HED.out v (wE_mem.1 hv).1
  have HW2 : Hid (∀ W : World, Below w2.heap.size w2 W → Calls Tryz.prog 22 #[.slice a nodes.length cap, .slice a2 E.length cap2, .int .u64 x] W (WtE W nodes E x)) := fun W hW => by
    obtain ⟨g1, g2⟩ := HWV.out W (belT H2.out hW)
    exact without_any a cap nodes a2 cap2 E x W g1 g2 q1 q2
  have HM2 : Hid (∀ (W : World) (ga : Option Nat) (ca : Nat) (ge : Option Nat) (ce : Nat), NdR W ga ca (Sp.wN nodes x) → NdE W ge ce (Sp.wE E x) → Calls Tryz.prog 9 #[.slice (adr ga) (Sp.wN nodes x).length ca, .slice (adr ge) (Sp.wE E x).length ce] W fun e w' => ∃ gb2, e = .returned (.tuple #[.pointer (some ⟨gb2, 0, none⟩), .int .i64 0]) ∧ Below W.heap.size W w' ∧ GrE w' (fun k => W.heap.size ≤ k ∧ k < w'.heap.size) gb2 (Sp.srt (Sp.wN nodes x)) (Sp.nx (Sp.srt (Sp.wN nodes x)) (Sp.wE E x))) := fun W ga ca ge ce ha he => by
    refine (Make_any (adr ga) ca _ (adr ge) ce _ W.heap.size W (ha.refs HB1.out) (he.edges HB2.out) (Nat.le_refl _) (by omega) (by omega)).mono ?_
    rintro e w' ⟨p, rfl, m1, m2, m3⟩
    obtain ⟨gb2, rfl, hg2⟩ := m2 hk1
    exact ⟨gb2, by rw [hk1], m1, hg2⟩
  obtain ⟨N, hN⟩ : ∃ N, Sp.srt nodes = N := ⟨_, rfl⟩
  obtain ⟨nx, hnx⟩ : ∃ nx, Sp.nx N E = nx := ⟨_, rfl⟩
  obtain ⟨N', hN'⟩ : ∃ N, Sp.srt (Sp.wN nodes x) = N := ⟨_, rfl⟩
  obtain ⟨nx', hnx'⟩ : ∃ nx, Sp.nx N' (Sp.wE E x) = nx := ⟨_, rfl⟩
  rw [hN, hN'] at HKM
  rw [hnx, hnx'] at HKM
  rw [hN] at hg hN0
  rw [hN'] at hN1 HM2
  rw [hnx] at hg
  rw [hnx'] at HM2
  have hNX : (∀ i, ∀ x ∈ nx i, x < N.length) ∧ (∀ p, (nx p).length ≤ 4096) ∧ ∀ i, (nx i).Pairwise (· < ·) := by
    rw [← hnx]
    exact ⟨fun t j hj => (nx_mem.1 hj).1, fun t => Nat.le_trans (by unfold Sp.nx; exact List.length_filter_le _ _) (by simp; exact hN0.1), nx_lt _ _⟩
  have hNX' : (∀ i, ∀ x ∈ nx' i, x < N'.length) ∧ (∀ p, (nx' p).length ≤ 4096) := by
    rw [← hnx']
    exact ⟨fun t j hj => (nx_mem.1 hj).1, fun t => Nat.le_trans (by unfold Sp.nx; exact List.length_filter_le _ _) (by simp; exact hN1)⟩
  have HGE : Hid (∀ W : World, Below w2.heap.size w2 W → ∃ D, GrE W D gb N nx) := fun W hW => ⟨_, hg.keep (fun k hk => hW.block k hk.2)⟩
  have HRC : Hid (∀ W : World, Below w2.heap.size w2 W → Calls Tryz.prog 10 #[.pointer (some ⟨gb, 0, none⟩), .slice a3 l.length cap3] W (ReE W (Sp.reach N nx l) 140)) := fun W hW => by
    obtain ⟨D, h⟩ := HGE.out W hW
    exact pReach_any D gb N nx a3 cap3 l W h (HLR.out W (belT H2.out hW)) hl3 hN0.1 hNX.1 hNX.2.1
  have HRC2 : Hid (∀ (W : World) (D : Nat → Prop) (gb2 : Nat) (gs : Option Nat) (c : Nat), GrE W D gb2 N' nx' → NdR W gs c (Sp.wN l x) → Calls Tryz.prog 10 #[.pointer (some ⟨gb2, 0, none⟩), .slice (adr gs) (Sp.wN l x).length c] W (ReE W (Sp.reach N' nx' (Sp.wN l x)) 140)) := fun W D gb2 gs c hge hr => by
    have hle : (Sp.wN l x).length ≤ l.length := List.length_filter_le _ _
    exact pReach_any D gb2 N' nx' (adr gs) c _ W hge (hr.refs (fun v hv => (HLR.out w2 H2.out).bd v (wN_mem.1 hv).1)) (by omega) hN1 hNX'.1 hNX'.2
  have HKP : Hid (∀ (W : World) (u : Int), Below w2.heap.size w2 W → 0 ≤ u ∧ u < 18446744073709551616 → Calls Tryz.prog 20 #[.pointer (some ⟨gb, 0, none⟩), .slice a3 l.length cap3, .int .u64 u] W (ReE W (Sp.keeps N nx l u) 140)) := fun W u hW hu => by
    obtain ⟨D, h⟩ := HGE.out W hW
    exact pKeeps_any D gb N nx a3 cap3 l u W h (HLR.out W (belT H2.out hW)) hu.1 hu.2 hl3 hN0.1 hNX.1 hNX.2.1
  have HKR : Hid (∀ W : World, Below w2.heap.size w2 W → Calls Tryz.prog 21 #[.pointer (some ⟨gb, 0, none⟩), .slice a3 l.length cap3, .int .u64 x] W (KrE W N nx l x)) := fun W hW => by
    obtain ⟨D, h⟩ := HGE.out W hW
    exact pKeeper_any D gb N nx a3 cap3 l x W h (HLR.out W (belT H2.out hW)) hx.1 hx.2 hl3 hN0.1 hNX.1 hNX.2.1 hNX.2.2
  have HRL : Hid (∀ R, Sp.reach N nx l = some R → R.length ≤ 8192) := fun R hR => by
    have := reach_le2 (N := N) (nx := nx) (l := l) hN0.1
    rwa [hR] at this
  have HRL2 : Hid (∀ R, Sp.reach N' nx' (Sp.wN l x) = some R → R.length ≤ 8192) := fun R hR => by
    have := reach_le2 (N := N') (nx := nx') (l := Sp.wN l x) hN1
    rwa [hR] at this
  have HKL : Hid (∀ u K, Sp.keeps N nx l u = some K → K.length ≤ 8192) := fun u K hK => by
    unfold Sp.keeps at hK
    cases hp : Sp.pls N l with
    | none => rw [hp] at hK; cases hK
    | some ps =>
      rw [hp] at hK
      simp only at hK
      by_cases hu : u ∈ N
      · rw [if_pos hu] at hK
        injection hK with hK
        rw [← hK]
        have := upn_le2 N.length (Sp.wo (Bf.all nx (N.idxOf u : Int) N.length ps) (Bf.all nx (-1) N.length ps).ord)
        unfold Sp.rfs
        rw [List.length_map]
        omega
      · rw [if_neg hu] at hK; cases hK
  have HNB : Hid (∀ v ∈ N, 0 ≤ v ∧ v < 18446744073709551616) := hN0.2.2
  have HLV : Hid (∀ W : World, Below w2.heap.size w2 W → RfV W a3 l) := fun W hW => (HLR.out W (belT H2.out hW)).rfv
  have HKM2 : Hid (KpM N nx N' nx' l (Sp.wN l x) x) := HKM
  clear hg hN hnx hN' hnx' HM hk0 hk1 hN0 hN1 hNX hNX' HGE q1 q2 q3 q4 q5 r1 r2 r3 r4 r5 HB1 HB2 HBD HED HLR HWV HKM
  go_wp2_with fail
  refine (HKP.out w2 x (Below.refl _ _) hx).mono ?_
  rintro e w3 ⟨hb3, h⟩
  have H3 : Hid (Below w2.heap.size w2 w3) := hb3
  rcases h with ⟨hK, rfl⟩ | ⟨K, gk, ck, hK, rfl, hnK, _⟩
  · have HNO := HKM2.out.no hK
    have HNO' : Hid (∀ y b er, KrP N nx l x y b er → er = 140 ∧ b = false) := HNO
    clear hb3 hK HNO HKP
    go_wp2_with fail
    refine (HKR.out w3 H3.out).mono ?_
    rintro e w4 ⟨hb4, y, b, er, rfl, hkr⟩
    obtain ⟨rfl, rfl⟩ := HNO'.out y b er hkr
    have HB : Hid (Below w.heap.size w w4) := belT H2.out (belT H3.out hb4)
    clear hb4 hkr HNO' HKR H3 H2
    go_wp2_with fail
    go_ret
    exact ⟨rfl, HB.out⟩
  obtain ⟨R, R', hR, hR', hno, hyes, hkq⟩ := HKM2.out.yes K hK
  have hKl := HKL.out x K hK
  have hRl := HRL.out R hR
  have hRl' := HRL2.out R' hR'
  have H4 : Hid (NdR w3 gk ck K) := hnK
  have HRR : Hid (Sp.reach N nx l = some R ∧ Sp.reach N' nx' (Sp.wN l x) = some R') := ⟨hR, hR'⟩
  have HNO : Hid (x ∉ R → K = []) := hno
  have HYS : Hid (x ∈ R → (∀ v ∈ R, v ∈ K ↔ v ∉ R') ∧ K.length + R'.length = R.length) := hyes
  have HKQ : Hid (∀ y b er, KrP N nx l x y b er → (x ∉ R → er = 142) ∧ (x ∈ R → er = 0 ∧ (b = false → y = 0) ∧ (b = true → y ∈ N ∧ y ≠ x ∧ y ∉ K ∧ ∃ U, Sp.keeps N nx l y = some U ∧ x ∈ U))) := hkq
  clear hb3 hK hnK hR hR' hno hyes hkq HKM2 HRL HRL2
  go_wp2_with fail
  refine (HKR.out w3 H3.out).mono ?_
  rintro e w4 ⟨hb4, y, b, er, rfl, hkr⟩
  have H5 : Hid (Below w2.heap.size w2 w4 ∧ NdR w4 gk ck K) := ⟨belT H3.out hb4, H4.out.keep (fun g hg => hb4.block g (H4.out.2 g hg).lt)⟩
  have HKV : Hid ((x ∉ R → er = 142) ∧ (x ∈ R → er = 0 ∧ (b = false → y = 0) ∧ (b = true → y ∈ N ∧ y ≠ x ∧ y ∉ K ∧ ∃ U, Sp.keeps N nx l y = some U ∧ x ∈ U))) := HKQ.out y b er hkr
  clear hb4 hkr HKQ HKR H3 H4
  go_wp2_with fail
  refine (HW2.out w4 H5.out.1).mono ?_
  rintro e w5 ⟨ga, ca, ge, ce, rfl, hna, hne, hb5⟩
  have H6 : Hid (Below w2.heap.size w2 w5 ∧ NdR w5 gk ck K) := ⟨belT H5.out.1 hb5, H5.out.2.keep (fun g hg => hb5.block g (H5.out.2.2 g hg).lt)⟩
  have HQ : Hid (Calls Tryz.prog 9 #[.slice (adr ga) (Sp.wN nodes x).length ca, .slice (adr ge) (Sp.wE E x).length ce] w5 fun e w' => ∃ gb2, e = .returned (.tuple #[.pointer (some ⟨gb2, 0, none⟩), .int .i64 0]) ∧ Below w5.heap.size w5 w' ∧ GrE w' (fun k => w5.heap.size ≤ k ∧ k < w'.heap.size) gb2 N' nx') := HM2.out w5 ga ca ge ce hna hne
  clear hna hne hb5 H5 HW2 HM2
  go_wp2_with fail
  refine HQ.out.mono ?_
  rintro e w6 ⟨gb2, rfl, hb6, hge2⟩
  have H7 : Hid (Below w2.heap.size w2 w6 ∧ NdR w6 gk ck K) := ⟨belT H6.out.1 hb6, H6.out.2.keep (fun g hg => hb6.block g (H6.out.2.2 g hg).lt)⟩
  have HGR : Hid (∀ W : World, Below w6.heap.size w6 W → ∃ D, GrE W D gb2 N' nx') := fun W hW => ⟨_, hge2.keep (fun k hk => hW.block k hk.2)⟩
  have H0 : Hid (RfI w6 (Sp.wN (l.take 0) x) none 0 w6) := ⟨⟨fun _ => ⟨rfl, rfl⟩, fun g hg => by cases hg⟩, (fun g hg => by cases hg), Below.refl _ _⟩
  clear hb6 hge2 HQ H6
  go_wp2_with fail
  go_loopw [20, 21] (fun v20 v21 wr => ∃ (i m : Nat) (gs : Option Nat) (c : Nat), v21 = .int .i64 i ∧ i ≤ l.length ∧ v20 = .slice (adr gs) m c ∧ Hid (m = (Sp.wN (l.take i) x).length) ∧ Hid (RfI w6 (Sp.wN (l.take i) x) gs c wr)) (fun _ v21 _ => l.length - (intOf v21).toNat)
  case atStart => exact ⟨0, 0, none, 0, rfl, Nat.zero_le _, rfl, rfl, H0.out⟩
  case round =>
    as_aux_lemma =>
    clear H0
    obtain ⟨i, m, gs, c, rfl, hi, rfl, HM, HS⟩ := hrel
    by_cases hlt : i < l.length
    · have hltz : (i : Int) < (l.length : Int) := by omega
      obtain ⟨y, hyy⟩ : ∃ n, l[i]? = some n := ⟨_, List.getElem?_eq_getElem hlt⟩
      obtain ⟨b, o, rfl, hcx⟩ := HLV.out wr (belT H7.out.1 HS.out.bel) i y hyy
      have ht := wN_take (x := x) hyy
      by_cases hyx : y = x
      · rw [if_pos hyx] at ht
        have HT : Hid (Sp.wN (l.take (i + 1)) x = Sp.wN (l.take i) x) := ht
        subst hyx
        clear ht hyy
        go_wp2_with fail
        go_roundw
        case rel => exact ⟨i + 1, m, gs, c, by go_num, by omega, rfl, by show m = _; rw [HT.out]; exact HM.out, by show RfI _ _ _ _ _; rw [HT.out]; exact HS.out⟩
        case measure => simp [intOf]; omega
      · rw [if_neg hyx] at ht
        have HT : Hid (Sp.wN (l.take (i + 1)) x = Sp.wN (l.take i) x ++ [y]) := ht
        have hml : m ≤ l.length := by
          have := HM.out
          have h2 : (Sp.wN (l.take i) x).length ≤ (l.take i).length := List.length_filter_le _ _
          rw [List.length_take] at h2; omega
        obtain ⟨g', c', w8, hap, ho4, hgr4, hor4⟩ := appR gs c (Sp.wN (l.take i) x) wr HS.out.row y (by rw [← HM.out]; omega) 22
        have HF2 : Hid (RfI w6 (Sp.wN (l.take i) x ++ [y]) (some g') c' w8) := HS.out.put ho4 hgr4 hor4
        have hmL := HM.out
        rw [← hmL] at hap
        have HM3 : Hid (m + 1 = (Sp.wN (l.take (i + 1)) x).length) := by show _ = _; rw [HT.out, List.length_append, ← hmL]; rfl
        clear ht hyy ho4 hgr4 hor4 hmL
        go_wp2_with (at_builtin; refine wpList_ranS _ rfl _ _ 22 22 rfl _ _ _ _ rfl rfl hap ?_)
        go_roundw
        case rel => exact ⟨i + 1, m + 1, some g', c', by go_num, by omega, rfl, HM3.out, by show RfI _ _ _ _ _; rw [HT.out]; exact HF2.out⟩
        case measure => simp [intOf]; omega
    · obtain rfl : i = l.length := by omega
      have htk : l.take l.length = l := List.take_of_length_le (Nat.le_refl _)
      rw [htk] at HM HS
      have hm2 := HM.out
      subst hm2
      have H8 : Hid (Below w2.heap.size w2 wr ∧ NdR wr gk ck K ∧ NdR wr gs c (Sp.wN l x) ∧ ∃ D, GrE wr D gb2 N' nx') := ⟨belT H7.out.1 HS.out.bel, H7.out.2.keep (fun g hg => HS.out.bel.block g (H7.out.2.2 g hg).lt), HS.out.row, HGR.out wr HS.out.bel⟩
      have HG9 : Hid (∀ W : World, Below wr.heap.size wr W → ∃ D, GrE W D gb2 N' nx') := fun W hW => HGR.out W (belT HS.out.bel hW)
      clear htk HS H7 HGR HM HLV
      go_wp2_with fail
      refine (HRC.out wr H8.out.1).mono ?_
      rintro e w7 ⟨hb7, h⟩
      rcases h with ⟨hr, rfl⟩ | ⟨R0, gr, cr, hR0, rfl, hnR, _⟩
      · rw [HRR.out.1] at hr; cases hr
      rw [HRR.out.1] at hR0
      injection hR0 with hR0
      subst hR0
      have H9 : Hid (Below w2.heap.size w2 w7 ∧ NdR w7 gk ck K ∧ NdR w7 gs c (Sp.wN l x) ∧ NdR w7 gr cr R ∧ ∃ D, GrE w7 D gb2 N' nx') := ⟨belT H8.out.1 hb7, H8.out.2.1.keep (fun g hg => hb7.block g (H8.out.2.1.2 g hg).lt), H8.out.2.2.1.keep (fun g hg => hb7.block g (H8.out.2.2.1.2 g hg).lt), hnR, HG9.out w7 hb7⟩
      have HQ : Hid (Calls Tryz.prog 10 #[.pointer (some ⟨gb2, 0, none⟩), .slice (adr gs) (Sp.wN l x).length c] w7 (ReE w7 (Sp.reach N' nx' (Sp.wN l x)) 140)) := by
        obtain ⟨D3, hg3⟩ := H9.out.2.2.2.2
        exact HRC2.out w7 D3 gb2 gs c hg3 H9.out.2.2.1
      clear hb7 hnR H8 HRC HRC2 HG9
      go_wp2_with fail
      refine HQ.out.mono ?_
      rintro e w8 ⟨hb8, h⟩
      rcases h with ⟨hr, rfl⟩ | ⟨R0, gn, cn, hR0, rfl, hnR, _⟩
      · rw [HRR.out.2] at hr; cases hr
      rw [HRR.out.2] at hR0
      injection hR0 with hR0
      subst hR0
      have H10 : Hid (Below w2.heap.size w2 w8 ∧ NdR w8 gk ck K ∧ NdR w8 gr cr R ∧ NdR w8 gn cn R') := ⟨belT H9.out.1 hb8, H9.out.2.1.keep (fun g hg => hb8.block g (H9.out.2.1.2 g hg).lt), H9.out.2.2.2.1.keep (fun g hg => hb8.block g (H9.out.2.2.2.1.2 g hg).lt), hnR⟩
      have HHS := rHas_any (adr gr) cr R x w8 H10.out.2.2.1.rfv (by omega)
      clear hb8 hnR H9 HQ HRR
      by_cases hxR : x ∈ R
      · rw [decide_eq_true hxR] at HHS
        have HHT : Hid (Calls Tryz.prog 12 #[.slice (adr gr) R.length cr, .int .u64 x] w8 fun e w' => e = .returned (.bool true) ∧ Below w8.heap.size w8 w') := HHS
        obtain ⟨er0, hbf, hbt⟩ := HKV.out.2 hxR
        subst er0
        have HY : Hid ((∀ v ∈ R, v ∈ K ↔ v ∉ R') ∧ K.length + R'.length = R.length) := HYS.out hxR
        have HBF : Hid (b = false → y = 0) := hbf
        have HBT : Hid (b = true → y ∈ N ∧ y ≠ x ∧ y ∉ K ∧ ∃ U, Sp.keeps N nx l y = some U ∧ x ∈ U) := hbt
        clear HHS hxR hbf hbt HKV HYS HNO
        go_wp2_with fail
        refine HHT.out.mono ?_
        rintro e w10 ⟨rfl, hb10⟩
        have H12 : Hid (Below w2.heap.size w2 w10 ∧ NdR w10 gk ck K ∧ NdR w10 gr cr R ∧ NdR w10 gn cn R') := ⟨belT H10.out.1 hb10, H10.out.2.1.keep (fun g hg => hb10.block g (H10.out.2.1.2 g hg).lt), H10.out.2.2.1.keep (fun g hg => hb10.block g (H10.out.2.2.1.2 g hg).lt), H10.out.2.2.2.keep (fun g hg => hb10.block g (H10.out.2.2.2.2 g hg).lt)⟩
        clear hb10 HHT H10
        go_wp2_with fail
        go_loopw [26] (fun v26 wr => ∃ t : Nat, v26 = .int .i64 t ∧ t ≤ R.length ∧ Hid (Below w2.heap.size w2 wr ∧ NdR wr gk ck K ∧ NdR wr gr cr R ∧ NdR wr gn cn R')) (fun v26 _ => R.length - (intOf v26).toNat)
        case atStart => exact ⟨0, rfl, Nat.zero_le _, H12.out⟩
        case round =>
          as_aux_lemma =>
          clear H12
          obtain ⟨t, rfl, ht, HS⟩ := hrel
          by_cases hlt : t < R.length
          · have hltz : (t : Int) < (R.length : Int) := by omega
            obtain ⟨v, hv⟩ : ∃ e, R[t]? = some e := ⟨_, List.getElem?_eq_getElem hlt⟩
            obtain ⟨g, rfl, kr⟩ := HS.out.2.2.1.at_ hv
            have ead : adr (some g) = some ⟨g, 0, none⟩ := rfl
            have hvk := HY.out.1 v (List.mem_of_getElem? hv)
            have HC1 : Hid (∀ W8 : World, Below wr.heap.size wr W8 → Calls Tryz.prog 12 #[.slice (adr gk) K.length ck, .int .u64 v] W8 fun e w' => e = .returned (.bool (decide (v ∈ K))) ∧ Below W8.heap.size W8 w') := fun W8 hW8 => rHas_any (adr gk) ck K v W8 (HS.out.2.1.rfv.keep hW8) (by omega)
            have HC2 : Hid (∀ W8 : World, Below wr.heap.size wr W8 → Calls Tryz.prog 12 #[.slice (adr gn) R'.length cn, .int .u64 v] W8 fun e w' => e = .returned (.bool (decide (v ∈ R'))) ∧ Below W8.heap.size W8 w') := fun W8 hW8 => rHas_any (adr gn) cn R' v W8 (HS.out.2.2.2.rfv.keep hW8) (by omega)
            have hpq : (decide (v ∈ K) = true ∧ decide (v ∈ R') = false) ∨ (decide (v ∈ K) = false ∧ decide (v ∈ R') = true) := by
              by_cases h1 : v ∈ R' <;> simp [hvk, h1]
            clear hv hvk
            rcases hpq with ⟨hp, hq⟩ | ⟨hp, hq⟩ <;> (
              rw [hp] at HC1
              rw [hq] at HC2
              clear hp hq
              go_wp2_with fail
              refine wp_region_mark (fun Z => Z.cell? ⟨g, t, none⟩ = some (.int .u64 v)) 11 (by kernel_rfl) ?_
              have hHeld : wr.drew.cell? ⟨g, t, none⟩ = some (.int .u64 v) := kr
              refine tkF (i := 0) (v := ?_) rfl (by kernel_rfl) (by rfl) ?_ (.inr (by assumption)) ?_
              rotate_left
              · intro Z hSw; go_simp; try (with_reducible rfl)
              simp only [Act.put, lsA, lsB, lsC]
              refine tkF (i := 1) (v := ?_) rfl (by kernel_rfl) (by rfl) ?_ (.inr (by assumption)) ?_
              rotate_left
              · intro Z hSw; go_simp; try (with_reducible rfl)
              simp only [Act.put, lsA, lsB, lsC]
              refine tkF (i := 2) (v := ?_) rfl (by kernel_rfl) (by rfl) ?_ (.inr (by assumption)) ?_
              rotate_left
              · intro Z hSw; go_simp; try (with_reducible rfl)
              simp only [Act.put, lsA, lsB, lsC]
              refine tkF (i := 3) (v := ?_) rfl (by kernel_rfl) (by rfl) ?_ (.inr (by assumption)) ?_
              rotate_left
              · intro Z hSw; go_simp; try (with_reducible rfl)
              simp only [Act.put, lsA, lsB, lsC]
              refine tkM (i := 4) (v := ?_) [5] rfl (by kernel_rfl) (by rfl) ?_ (by assumption) ?_
              rotate_left
              · intro Z hSw; (try dsimp only at hSw); go_simp; try (with_reducible rfl)
              simp only [Act.put, lsA, lsB, lsC]
              refine tkF (i := 6) (v := ?_) rfl (by kernel_rfl) (by rfl) ?_ (.inr (by assumption)) ?_
              rotate_left
              · intro Z hSw; go_simp; try (with_reducible rfl)
              simp only [Act.put, lsA, lsB, lsC]
              refine tkF (i := 7) (v := ?_) rfl (by kernel_rfl) (by rfl) ?_ (.inr (by assumption)) ?_
              rotate_left
              · intro Z hSw; go_simp; try (with_reducible rfl)
              simp only [Act.put, lsA, lsB, lsC]
              refine tkF (i := 8) (v := ?_) rfl (by kernel_rfl) (by rfl) ?_ (.inr (by assumption)) ?_
              rotate_left
              · intro Z hSw; go_simp; try (with_reducible rfl)
              simp only [Act.put, lsA, lsB, lsC]
              refine tkF (i := 9) (v := ?_) rfl (by kernel_rfl) (by rfl) ?_ (.inr (by assumption)) ?_
              rotate_left
              · intro Z hSw; go_simp; try (with_reducible rfl)
              simp only [Act.put, lsA, lsB, lsC]
              refine tkM (i := 10) (v := ?_) [] rfl (by kernel_rfl) (by rfl) ?_ (by assumption) ?_
              rotate_left
              · intro Z hSw; (try dsimp only at hSw); go_simp; try (with_reducible rfl)
              simp only [Act.put, lsA, lsB, lsC]
              refine tkO (i := 5) (by kernel_rfl) rfl (fun K0 hK => ?_)
              go_simp
              refine (HC1.out wr.drew (Below.refl _ _).drew).mono ?_
              rintro e w11 ⟨rfl, hb11⟩
              have hh : w11.cell? ⟨g, t, none⟩ = some (.int .u64 v) := by rw [World.cell?_of_block (w := wr.drew) (hb11.block g (World.block_lt_of_cell? _ _ hHeld))]; exact kr
              have H13 : Hid (Below wr.heap.size wr w11) := belT (Below.refl _ _).drew hb11
              clear hb11 hHeld kr
              have hHeld := hh
              clear hh
              go_wp2_with fail
              refine hK.out _ _ (.inr hHeld) ?_
              clear hK K0
              refine tkO (i := 11) (by kernel_rfl) rfl (fun K0 hK => ?_)
              go_simp
              refine (HC2.out w11 H13.out).mono ?_
              rintro e w12 ⟨rfl, hb12⟩
              have hbb : Below wr.heap.size wr w12 := belT H13.out hb12
              have H14 : Hid (Below w2.heap.size w2 w12 ∧ NdR w12 gk ck K ∧ NdR w12 (some g) cr R ∧ NdR w12 gn cn R') := ⟨belT HS.out.1 hbb, HS.out.2.1.keep (fun g hg => hbb.block g (HS.out.2.1.2 g hg).lt), HS.out.2.2.1.keep (fun g hg => hbb.block g (HS.out.2.2.1.2 g hg).lt), HS.out.2.2.2.keep (fun g hg => hbb.block g (HS.out.2.2.2.2 g hg).lt)⟩
              clear hb12 hbb hHeld H13 HC1 HC2 HS
              go_wp2_with fail
              refine hK.out _ _ (.inl (by kernel_rfl)) ?_
              clear hK K0
              refine tkF (i := 12) (v := ?_) rfl (by kernel_rfl) (by rfl) ?_ (.inl (by kernel_rfl)) ?_
              rotate_left
              · intro Z hSw; go_simp; try (with_reducible rfl)
              simp only [Act.put, lsA, lsB, lsC]
              refine wpAnyM_done (by kernel_rfl) ?_ _
              go_wp2_with fail
              rw [← ead]
              go_roundw
              case rel => exact ⟨t + 1, by go_num, by omega, H14.out⟩
              case measure => simp [intOf]; omega
            )
          · obtain rfl : R.length = t := by omega
            have hln := HY.out.2
            have hw1 : IntKind.i64.wrap ((R.length : Int) - (R'.length : Int)) = (R.length : Int) - (R'.length : Int) := Go.wrap_small _ (by omega) (by omega)
            have hlz : ((K.length : Int) != (R.length : Int) - (R'.length : Int)) = false := by simp only [bne_eq_false_iff_eq]; omega
            clear hln HY
            cases b with
            | false =>
              have hy0 := HBF.out rfl
              subst hy0
              have HF : Hid (Below w.heap.size w wr) := belT H2.out HS.out.1
              clear HS HBF HBT HKP
              go_wp2_with fail
              go_ret
              exact ⟨rfl, HF.out⟩
            | true =>
              obtain ⟨hyN, hyx, hyK, U, hU, hxU⟩ := HBT.out rfl
              have HYU : Hid (y ∉ K ∧ Sp.keeps N nx l y = some U ∧ x ∈ U ∧ U.length ≤ 8192) := ⟨hyK, hU, hxU, HKL.out y U hU⟩
              have HQ2 : Hid (Calls Tryz.prog 20 #[.pointer (some ⟨gb, 0, none⟩), .slice a3 l.length cap3, .int .u64 y] wr (ReE wr (Sp.keeps N nx l y) 140)) := HKP.out wr y HS.out.1 (HNB.out y hyN)
              have hyx2 : (y != x) = true := by simpa using hyx
              clear hyN hyK hU hxU HBF HBT HKP
              go_wp2_with fail
              refine HQ2.out.mono ?_
              rintro e w13 ⟨hb13, h⟩
              rcases h with ⟨hr, rfl⟩ | ⟨U0, gu, cu, hU0, rfl, hnU, _⟩
              · rw [HYU.out.2.1] at hr; cases hr
              rw [HYU.out.2.1] at hU0
              injection hU0 with hU0
              subst hU0
              have H14 : Hid (Below w2.heap.size w2 w13 ∧ NdR w13 gk ck K ∧ NdR w13 gu cu U) := ⟨belT HS.out.1 hb13, HS.out.2.1.keep (fun g hg => hb13.block g (HS.out.2.1.2 g hg).lt), hnU⟩
              have HC1 : Hid (Calls Tryz.prog 12 #[.slice (adr gu) U.length cu, .int .u64 x] w13 fun e w' => e = .returned (.bool true) ∧ Below w13.heap.size w13 w') := by
                have := rHas_any (adr gu) cu U x w13 H14.out.2.2.rfv (by have := HYU.out.2.2.2; omega)
                rwa [decide_eq_true HYU.out.2.2.1] at this
              have HC2 : Hid (∀ W8 : World, Below w13.heap.size w13 W8 → Calls Tryz.prog 12 #[.slice (adr gk) K.length ck, .int .u64 y] W8 fun e w' => e = .returned (.bool false) ∧ Below W8.heap.size W8 w') := fun W8 hW8 => by
                have := rHas_any (adr gk) ck K y W8 (H14.out.2.1.rfv.keep hW8) (by omega)
                rwa [decide_eq_false HYU.out.1] at this
              clear hb13 hnU HQ2 HS
              go_wp2_with fail
              refine HC1.out.mono ?_
              rintro e w14 ⟨rfl, hb14⟩
              have H15 : Hid (Below w13.heap.size w13 w14) := hb14
              clear hb14
              go_wp2_with fail
              refine (HC2.out w14 H15.out).mono ?_
              rintro e w15 ⟨rfl, hb15⟩
              have HF : Hid (Below w.heap.size w w15) := belT H2.out (belT H14.out.1 (belT H15.out hb15))
              clear hb15 H15 H14 HC1 HC2
              go_wp2_with fail
              go_ret
              exact ⟨rfl, HF.out⟩
      · rw [decide_eq_false hxR] at HHS
        have HHT : Hid (Calls Tryz.prog 12 #[.slice (adr gr) R.length cr, .int .u64 x] w8 fun e w' => e = .returned (.bool false) ∧ Below w8.heap.size w8 w') := HHS
        have hK0 := HNO.out hxR
        have he0 := HKV.out.1 hxR
        subst hK0 he0
        have HB : Hid (Below w.heap.size w w8) := belT H2.out H10.out.1
        clear HHS hxR HKV HYS HNO H10
        go_wp2_with fail
        refine HHT.out.mono ?_
        rintro e w10 ⟨rfl, hb10⟩
        have HF : Hid (Below w.heap.size w w10) := belT HB.out hb10
        clear hb10 HHT HB
        go_wp2_with fail
        go_ret
        exact ⟨rfl, HF.out⟩
end Go.Proofs.YtikhpbidbcfedaaGreat

