/- The fetch of LazyAgain: answers that fail, and then the term's record. -/
import Derived.Test.YtidlncopjniaeaaKA29
import Derived.Test.YtidlncopjniaeaaKA22
import Derived.Deep.MidRow
import Derived.Deep.RegionHeld3
namespace Go.Proofs.Ytidlncopjniaeaa
open Go.RowKit

theorem take_ldz {P : Program} {ops : Array Oper} {S : World → Prop} {op : Oper} {a : Act} {ty : TypeId} {x : Operand} {p : Addr} {v : Value} (hw : Region.wanted op (yielded ops a.tmps) = true) (ho : op.op = .load ty x) (hx : a.eval x = .pointer (some p)) (hS : ∀ w, S w → (loadVar ty p).run P w = .ok v w) : YieldsIf P ops S op v a :=
  .inl ⟨hw, fun w hw' => by
    unfold execOp
    simp only [ho, hx, Instr.loadAt, Instr.sureAddr, Sem.run_bind, Sem.run_pure, Result.andThen_ok, hS w hw']⟩

/-- answers, as they are handed in (in blocks below B): their kind and their error -/
def AnsIn (w : World) (B : Nat) (a : Option Addr) (L : List (Int × Int)) : Prop := ∀ (i : Nat) k er, L[i]? = some (k, er) → ∃ (g o : Nat) (cs : Array Value), a = some ⟨g, o, none⟩ ∧ g < B ∧ cs.size = 14 ∧ cs.all (·.oneCell') = true ∧ cs[0]? = some (.int .i64 k) ∧ cs[12]? = some (.int .i64 er) ∧ ∀ x, x < 14 → w.cell? ⟨g, o + i * 14 + x, none⟩ = cs[x]?
theorem AnsIn.keep {w w' : World} {B : Nat} {a : Option Addr} {L : List (Int × Int)} (h : AnsIn w B a L) (hs : Same (Lo B) w w') : AnsIn w' B a L := fun i k er hi => by
  obtain ⟨g, o, cs, h1, h2, h3, h4, h5, h6, h7⟩ := h i k er hi
  exact ⟨g, o, cs, h1, h2, h3, h4, h5, h6, fun x hx => by rw [hs.cell (p := ⟨g, o + i * 14 + x, none⟩) h2]; exact h7 x hx⟩

theorem ansz : (Try.prog.info? 51).map (·.size) = some 14 := by kernel_rfl
theorem ans_ld {w : World} {g q : Nat} {cs : Array Value} (hs : cs.size = 14) (h : ∀ x, x < 14 → w.cell? ⟨g, q + x, none⟩ = cs[x]?) : (loadVar 51 ⟨g, q, none⟩).run Try.prog w = .ok (.agg cs) w := by
  have := run_loadVar_mid (P := Try.prog) w g q 51 cs.toList _ (fun j v hj => by
    have hj' : j < 14 := by have := (List.getElem?_eq_some_iff.1 hj).1; simp [hs] at this; exact this
    rw [h j hj']; simpa using hj) Try.underlying51 rfl (by rw [ansz]; simp [hs])
  simpa using this
theorem ans_st (w : World) (z cs : Array Value) (hz : z.size = 14) (hs : cs.size = 14) (h1 : cs.all (·.oneCell') = true) : (storeVar 51 ⟨w.heap.size, 0, none⟩ (.agg cs)).run Try.prog (w.alloc (.cells z 51)) = .ok () (w.alloc (.cells cs 51)) :=
  run_storeVar_new w 51 z cs (by rw [hs]; exact ansz) (by omega) h1

/-- what the fetch reads: its count, the answers' slice and the term in boxes -/
structure AS (w : World) (B nb fb tb : Nat) (t : Tm) (a : Option Addr) (cap : Nat) (L : List (Int × Int)) (n : Nat) : Prop where
  cn : Nb w nb n
  cf : w.heap[fb]? = some (.cells #[.slice a L.length cap] 49)
  ct : Tb w B tb t
  an : AnsIn w B a L
  hn : B ≤ nb
  hf : B ≤ fb
  nf : nb ≠ fb
  nt : tb ≠ nb
  hl : L.length < 4611686018427387904
theorem AS.count {w : World} {B nb fb tb : Nat} {t : Tm} {a : Option Addr} {cap : Nat} {L : List (Int × Int)} {n : Nat} (h : AS w B nb fb tb t a cap L n) (m : Nat) : AS (w.setCell ⟨nb, 0, none⟩ (.int .i64 (m : Int))) B nb fb tb t a cap L m := by
  have far : ∀ k, k < B → k ≠ nb := fun k hk => by have := h.hn; omega
  exact ⟨h.cn.set m, (Below.heap_setCell _ _ _ _ (fun e => h.nf e.symm)).trans h.cf, h.ct.keep (Below.heap_setCell _ _ _ _ h.nt) (fun k hk => Below.heap_setCell _ _ _ _ (far k hk)), h.an.keep (fun k hk => Below.heap_setCell _ _ _ _ (far k hk)), h.hn, h.hf, h.nf, h.nt, h.hl⟩
theorem AS.keep {w w' : World} {B nb fb tb : Nat} {t : Tm} {a : Option Addr} {cap : Nat} {L : List (Int × Int)} {n : Nat} (h : AS w B nb fb tb t a cap L n) (h1 : w'.heap[nb]? = w.heap[nb]?) (h2 : w'.heap[fb]? = w.heap[fb]?) (h3 : w'.heap[tb]? = w.heap[tb]?) (h4 : Same (Lo B) w w') : AS w' B nb fb tb t a cap L n :=
  ⟨h1.trans h.cn, h2.trans h.cf, h.ct.keep h3 h4, h.an.keep h4, h.hn, h.hf, h.nf, h.nt, h.hl⟩

section
variable {B nb fb tb : Nat} {t : Tm} {a : Option Addr} {cap : Nat} {L : List (Int × Int)} {n : Nat} {w : World}
set_option maxRecDepth 100000 in
set_option maxHeartbeats 2000000 in
/-- behind all answers -/
theorem again1_end (id : Int) (h : AS w B nb fb tb t a cap L n) (hn : L.length = n) :
    Calls Try.prog 17 #[.int .u64 id, .pointer (some ⟨nb, 0, none⟩), .pointer (some ⟨fb, 0, none⟩), .pointer (some ⟨tb, 0, none⟩)] w fun e w' => FE 0 0 0 (recT t) w e w' ∧ Kx (· = nb) w w' ∧ Nb w' nb (n + 1) := by
  have e0 := h.cn.cell
  have z0 := h.cn.free
  obtain ⟨X, hX⟩ : ∃ X, w.setCell ⟨nb, 0, none⟩ (.int .i64 ((n + 1 : Nat) : Int)) = X := ⟨_, rfl⟩
  have hS : AS X B nb fb tb t a cap L (n + 1) := by rw [← hX]; exact h.count _
  have HX : Hid (Nb X nb (n + 1) ∧ Kx (· = nb) w X ∧ X.heap.size = w.heap.size) := ⟨hS.cn, by rw [← hX]; exact Kx.setg (Kx.refl _ _) _, by rw [← hX]; simp [World.setCell]⟩
  have x0 : X.cell? ⟨nb, 0, none⟩ = some (.int .i64 ((n : Int) + 1)) := hS.cn.cell
  have x1 : X.cell? ⟨fb, 0, none⟩ = some (.slice a L.length cap) := by rw [cell_of_row _ _ 0 _ _ _ hS.cf]; rfl
  obtain ⟨cs, hc, hin, hB⟩ := hS.ct
  have htl := hS.ct.lt
  obtain ⟨b, i, f, tx, vb, rf, vl, vf, c, vr, rfl⟩ := Tm.In_box hin
  have HLD : Hid ((loadVar 29 ⟨tb, 0, none⟩).run Try.prog X = .ok (.agg (tcells t.kind b i f tx vb rf vl vf c vr)) X) := tm_ldz hc
  have HR : Hid (Calls Try.prog 6 #[.agg (tcells t.kind b i f tx vb rf vl vf c vr)] X fun e w' => ∃ rv, e = .returned (.pointer rv) ∧ Below X.heap.size X w' ∧ (recT t).V w' (Fr X w') (.iface 32 (.pointer rv))) :=
    mRec_any t _ (Lo B) X hin (fun k hk => by have : k < B := hk; omega)
  have hX' : w.setCell ⟨nb, 0, none⟩ (.int .i64 ((n : Int) + 1)) = X := hX
  have hl := h.hl
  have hw : IntKind.i64.wrap ((n : Int) + 1) = (n : Int) + 1 := by rw [IntKind.wrap_i64]; omega
  have hgt : (L.length : Int) < (n : Int) + 1 := by omega
  generalize L.length = len at x1 hgt
  clear hX h hS hc hin hl hn htl hB
  go_enter Try.func17, Try.ntmps17
  go_wp2_with ((with_reducible refine ldr ?_ ?_ HLD.out ?_); rfl; rfl)
  refine HR.out.mono ?_
  rintro e w1 ⟨rv, rfl, hb1, hv⟩
  have hs := HX.out.2.2
  have HE : Hid ((recT t).V w1 (Fr w w1) (.iface 32 (.pointer rv)) ∧ Kx (· = nb) w w1 ∧ Nb w1 nb (n + 1)) := ⟨(recT t).V_same (Same.refl _ _) (fun k hk => ⟨by have := hk.1; omega, hk.2⟩) _ hv, HX.out.2.1.trans (.of hb1), (hb1.block nb HX.out.1.lt).trans HX.out.1⟩
  clear hb1 hv HLD HR
  go_wp2_with fail
  go_ret2
  exact ⟨.inl ⟨rfl, rfl, rv, rfl, fun _ => HE.out.1⟩, HE.out.2⟩

def apk (k : Int) (n : Nat) : Int := if k = 2 then panK (((n : Int) + 1) % 6) else 0
def ape (k : Int) (n : Nat) : Int := if k = 2 then panE (((n : Int) + 1) % 6) else 0
def aer (er : Int) : Int := if 0 < er then er else 0
theorem aer_why (k er : Int) (n : Nat) : whyOf (apk k n) (aer er) nilT ≠ 0 := by
  unfold whyOf
  by_cases h : apk k n = 0
  · rw [if_pos h]
    unfold aer
    by_cases h2 : 0 < er
    · rw [if_pos h2, if_neg (by omega)]; omega
    · rw [if_neg h2, if_pos rfl, nilT_e]; omega
  · rw [if_neg h]; omega

set_option maxRecDepth 100000 in
set_option maxHeartbeats 4000000 in
/-- one that fails -/
theorem again1_any (id k er : Int) (h : AS w B nb fb tb t a cap L n) (hn : L[n]? = some (k, er)) :
    Calls Try.prog 17 #[.int .u64 id, .pointer (some ⟨nb, 0, none⟩), .pointer (some ⟨fb, 0, none⟩), .pointer (some ⟨tb, 0, none⟩)] w fun e w' => FE (apk k n) (ape k n) (aer er) nilT w e w' ∧ Kx (· = nb) w w' ∧ Nb w' nb (n + 1) := by
  have e0 := h.cn.cell
  have z0 := h.cn.free
  have hnl : n < L.length := (List.getElem?_eq_some_iff.1 hn).1
  obtain ⟨X, hX⟩ : ∃ X, w.setCell ⟨nb, 0, none⟩ (.int .i64 ((n + 1 : Nat) : Int)) = X := ⟨_, rfl⟩
  have hS : AS X B nb fb tb t a cap L (n + 1) := by rw [← hX]; exact h.count _
  have hXs : X.heap.size = w.heap.size := by rw [← hX]; simp [World.setCell]
  have hXk : Kx (· = nb) w X := by rw [← hX]; exact Kx.setg (Kx.refl _ _) _
  obtain ⟨ga, oa, cs, rfl, hga, hcs, hone, hc0, hc12, hcell⟩ := hS.an n k er hn
  obtain ⟨Y, hY⟩ : ∃ Y, X.alloc (.cells cs 51) = Y := ⟨_, rfl⟩
  have hYg : Y.heap[X.heap.size]? = some (.cells cs 51) := by rw [← hY]; exact heap_alloc_last _ _
  have hYb : Below X.heap.size X Y := by rw [← hY]; exact (Below.refl _ _).alloc (Nat.le_refl _) _
  have HX : Hid (Nb Y nb (n + 1) ∧ Kx (· = nb) w Y ∧ w.heap.size ≤ Y.heap.size) := ⟨(hYb.block nb hS.cn.lt).trans hS.cn, hXk.trans (.of hYb), by have := hYb.size; omega⟩
  have HLA : Hid ((loadVar 51 ⟨ga, oa + n * 14, none⟩).run Try.prog X = .ok (.agg cs) X) := ans_ld hcs (fun x hx => hcell x hx)
  have HST : Hid (∀ z : Array Value, z.size = 14 → (storeVar 51 ⟨X.heap.size, 0, none⟩ (.agg cs)).run Try.prog (X.alloc (.cells z 51)) = .ok () Y) := fun z hz => by rw [← hY]; exact ans_st X z cs hz hcs hone
  have x0 : X.cell? ⟨nb, 0, none⟩ = some (.int .i64 ((n : Int) + 1)) := hS.cn.cell
  have x1 : X.cell? ⟨fb, 0, none⟩ = some (.slice (some ⟨ga, oa, none⟩) L.length cap) := by rw [cell_of_row _ _ 0 _ _ _ hS.cf]; rfl
  have y0 : Y.cell? ⟨nb, 0, none⟩ = some (.int .i64 ((n : Int) + 1)) := HX.out.1.cell
  have yk : Y.cell? ⟨X.heap.size, 0, none⟩ = some (.int .i64 k) := by rw [cell_of_row _ _ 0 _ _ _ hYg]; exact hc0
  have ye : Y.cell? ⟨X.heap.size, 12, none⟩ = some (.int .i64 er) := by rw [cell_of_row _ _ 12 _ _ _ hYg]; exact hc12
  have hST2 : Tb Y B tb t := hS.ct.keep (hYb.block tb hS.ct.lt) (Same.of_below hYb (by obtain ⟨_, _, _, hq⟩ := hS.ct; have := hS.ct.lt; omega))
  obtain ⟨ct, hct, hin, hBt⟩ := hST2
  have htl := hS.ct.lt
  obtain ⟨b, i, f, tx, vb, rf, vl, vf, c, vr, rfl⟩ := Tm.In_box hin
  have HLD : Hid ((∀ W, Below Y.heap.size Y W → (loadVar 29 ⟨tb, 0, none⟩).run Try.prog W = .ok (.agg (tcells t.kind b i f tx vb rf vl vf c vr)) W) ∧ ∀ W, Below Y.heap.size Y W → Calls Try.prog 6 #[.agg (tcells t.kind b i f tx vb rf vl vf c vr)] W fun e w' => ∃ rv, e = .returned (.pointer rv) ∧ Below W.heap.size W w' ∧ (recT t).V w' (Fr W w') (.iface 32 (.pointer rv))) := by
    have hYs := hYb.size
    refine ⟨fun W hW => tm_ldz ((hW.block tb (by omega)).trans hct), fun W hW => mRec_any t _ (Lo B) W (t.In_same (Same.of_below hW (by omega)) (fun _ h => h) _ hin) (fun k hk => by have : k < B := hk; have := hW.size; omega)⟩
  have hX' : w.setCell ⟨nb, 0, none⟩ (.int .i64 ((n : Int) + 1)) = X := hX
  have hl := h.hl
  have hw : IntKind.i64.wrap ((n : Int) + 1) = (n : Int) + 1 := by rw [IntKind.wrap_i64]; omega
  have hw2 : wrap64 (n : Int) = (n : Int) := by unfold wrap64; omega
  have hgt : ¬ (L.length : Int) < (n : Int) + 1 := by omega
  have hn0 : (0 : Int) ≤ (n : Int) := by omega
  have hn1 : (n : Int) < (L.length : Int) := by omega
  have HP : Hid (∀ W, Below Y.heap.size Y W → FE 0 0 0 nilT w (.returned (.tuple #[.pointer none, .int .i64 0])) W ∧ Kx (· = nb) w W ∧ Nb W nb (n + 1)) := fun W hW => ⟨.inl ⟨rfl, rfl, none, rfl, fun _ => nilT_V _ _⟩, HX.out.2.1.trans (.of hW), (hW.block nb HX.out.1.lt).trans HX.out.1⟩
  have HQ : Hid (∀ W, Below Y.heap.size Y W → Kx (· = nb) w W ∧ Nb W nb (n + 1)) := fun W hW => (HP.out W hW).2
  generalize L.length = len at x1 hgt hn1
  clear hX h hS hct hin hl hn htl hBt hcell hc0 hc12 hone hcs hYg hYb hXk hXs hnl hga hY
  by_cases hk : k = 2
  · subst hk
    go_enter Try.func17, Try.ntmps17
    go_wp2_with (first | ((with_reducible refine str ?_ ?_ ?_ (HST.out _ rfl) ?_); rfl; rfl; rfl) | ((with_reducible refine ldr ?_ ?_ HLA.out ?_); rfl; rfl))
    refine (Panics_all _ _).mono ?_
    rintro e w1 ⟨⟨v, rfl, hk⟩, hb1⟩
    exact ⟨rfl, .inr ⟨by simp [apk, panK_ne], v, rfl, by simpa [apk, ape] using hk⟩, HQ.out w1 hb1⟩
  · have hkb : (k == 2) = false := by simp [hk]
    have hap : apk k n = 0 := by simp [apk, hk]
    have hae : ape k n = 0 := by simp [ape, hk]
    rw [hap, hae]
    by_cases her : 0 < er
    · have her2 : aer er = er := by simp [aer, her]
      rw [her2]
      go_enter Try.func17, Try.ntmps17
      go_wp2_with (first | ((with_reducible refine str ?_ ?_ ?_ (HST.out _ rfl) ?_); rfl; rfl; rfl) | ((with_reducible refine ldr ?_ ?_ HLA.out ?_); rfl; rfl))
      have HYl : Hid (X.heap.size < Y.heap.size) := World.block_lt_of_cell? _ _ ye
      refine wp_region_held_drew (S := fun W => (loadVar 29 ⟨tb, 0, none⟩).run Try.prog W = .ok (.agg (tcells t.kind b i f tx vb rf vl vf c vr)) W ∧ W.cell? ⟨X.heap.size, 12, none⟩ = some (.int .i64 er)) (by kernel_rfl) ?_ (fun hHeld => ?_)
      · exact ⟨HLD.out.1 _ (Below.refl Y.heap.size Y).drew, by rw [((Below.refl Y.heap.size Y).drew).cell (p := ⟨X.heap.size, 12, none⟩) HYl.out]; exact ye⟩
      refine wpAnyH_take (i := 0) (oi := { dst := some 32, op := Go.Op.load 29 (Go.Operand.tmp 3), type := 29, pos := "outright.go:91", after := #[], guard := none }) (v := .agg (tcells t.kind b i f tx vb rf vl vf c vr)) rfl (by kernel_rfl) (by kernel_rfl) (by kernel_rfl) (fun _ _ _ h => h) (take_ldz rfl rfl rfl (fun w hSw => hSw.1)) (by assumption) ?_
      simp only [Act.put, List.setIfInBounds_toArray, List.set_cons_zero, List.set_cons_succ]
      refine wpAnyH_take (i := 2) (oi := { dst := some 34, op := Go.Op.fieldAddr 51 (Go.Operand.tmp 7) 2, type := 0, pos := "outright.go:91", after := #[{ on := 4, ground := Go.Ground.gcOnly Go.Departure.lateStores }], guard := none }) (v := ?_) rfl (by kernel_rfl) (by kernel_rfl) (by kernel_rfl) (fun _ _ _ h => h) (Or.inl ⟨by rfl, ?_⟩) (by assumption) ?_
      rotate_left
      · intro w hSw; (try dsimp only at hSw); go_simp; try (with_reducible rfl)
      simp only [Act.put, List.setIfInBounds_toArray, List.set_cons_zero, List.set_cons_succ]
      refine wpAnyH_take (i := 3) (oi := { dst := some 35, op := Go.Op.load 34 (Go.Operand.tmp 34), type := 34, pos := "outright.go:91", after := #[{ on := 2, ground := Go.Ground.data }, { on := 4, ground := Go.Ground.gcOnly Go.Departure.lateStores }], guard := none }) (v := ?_) rfl (by kernel_rfl) (by kernel_rfl) (by kernel_rfl) (fun _ _ _ h => h) (Or.inl ⟨by rfl, ?_⟩) (by assumption) ?_
      rotate_left
      · intro w hSw; (try dsimp only at hSw); go_simp; try (with_reducible rfl)
      simp only [Act.put, List.setIfInBounds_toArray, List.set_cons_zero, List.set_cons_succ]
      refine wpAnyH_ready (rs := [1]) (by kernel_rfl) (by simp) ?_
      refine AllReadyH.cons (o := { dst := some 33, op := Go.Op.call { callee := Go.Callee.value (Go.Operand.func 6), args := #[Go.Operand.tmp 32], argTypes := #[29] }, type := 32, pos := "outright.go:91", after := #[{ on := 0, ground := Go.Ground.data }], guard := none }) rfl (fun K hK => ?_) AllReadyH.nil
      go_simp
      refine (HLD.out.2 Y.drew (Below.refl Y.heap.size Y).drew).mono ?_
      rintro e w1 ⟨rv, rfl, hb1, _⟩
      have HB1 : Hid (Below Y.heap.size Y w1) := (Below.refl Y.heap.size Y).drew.trans hb1
      clear hb1
      go_wp2_with fail
      refine hK.out _ _ ?_ (fun hHeld => ?_)
      · exact ⟨HLD.out.1 _ HB1.out, by rw [(HB1.out).cell (p := ⟨X.heap.size, 12, none⟩) HYl.out]; exact ye⟩
      clear hK K
      refine wpAnyH_take (i := 4) (oi := { dst := some 5, op := Go.Op.assign (Go.Operand.tmp 33), type := 32, pos := "outright.go:91", after := #[{ on := 1, ground := Go.Ground.data }, { on := 1, ground := Go.Ground.chain }, { on := 0, ground := Go.Ground.phase }, { on := 1, ground := Go.Ground.phase }, { on := 2, ground := Go.Ground.textOnly Go.Departure.lateStores }, { on := 3, ground := Go.Ground.textOnly Go.Departure.lateStores }], guard := none }) (v := ?_) rfl (by kernel_rfl) (by kernel_rfl) (by kernel_rfl) (fun _ _ _ h => h) (Or.inl ⟨by rfl, ?_⟩) (by assumption) ?_
      rotate_left
      · intro w hSw; (try dsimp only at hSw); go_simp; try (with_reducible rfl)
      simp only [Act.put, List.setIfInBounds_toArray, List.set_cons_zero, List.set_cons_succ]
      refine wpAnyH_take (i := 5) (oi := { dst := some 6, op := Go.Op.assign (Go.Operand.tmp 35), type := 34, pos := "outright.go:91", after := #[{ on := 3, ground := Go.Ground.data }, { on := 4, ground := Go.Ground.chain }, { on := 0, ground := Go.Ground.phase }, { on := 1, ground := Go.Ground.phase }, { on := 2, ground := Go.Ground.phase }, { on := 3, ground := Go.Ground.phase }, { on := 4, ground := Go.Ground.phase }], guard := none }) (v := ?_) rfl (by kernel_rfl) (by kernel_rfl) (by kernel_rfl) (fun _ _ _ h => h) (Or.inl ⟨by rfl, ?_⟩) (by assumption) ?_
      rotate_left
      · intro w hSw; (try dsimp only at hSw); go_simp; try (with_reducible rfl)
      simp only [Act.put, List.setIfInBounds_toArray, List.set_cons_zero, List.set_cons_succ]
      refine wpAnyH_done (by kernel_rfl) ?_ _
      go_wp2_with fail
      go_ret2
      exact ⟨.inl ⟨rfl, rfl, rv, rfl, fun h => by omega⟩, HQ.out w1 HB1.out⟩
    · have her2 : aer er = 0 := by simp [aer, her]
      rw [her2]
      go_enter Try.func17, Try.ntmps17
      go_wp2_with (first | ((with_reducible refine str ?_ ?_ ?_ (HST.out _ rfl) ?_); rfl; rfl; rfl) | ((with_reducible refine ldr ?_ ?_ HLA.out ?_); rfl; rfl))
      go_ret2
      exact HP.out _ (Below.refl _ _)
end
end Go.Proofs.Ytidlncopjniaeaa

/- tenonlaw12.LazyAgain returns true, in whatever way the fetches fail. -/
namespace Go.Proofs.Ytidlncopjniaeaa
open Go.RowKit

def againC (nb fb tb : Nat) : Array Value := #[.pointer (some ⟨nb, 0, none⟩), .pointer (some ⟨fb, 0, none⟩), .pointer (some ⟨tb, 0, none⟩)]
def againF (nb fb tb : Nat) : Value := .func (.func 17) #[] (againC nb fb tb)

/-- the ghost of LazyAgain behind n fetches that failed -/
structure AJ (W0 : World) (g nb fb tb B : Nat) (t : Tm) (a : Option Addr) (cap : Nat) (L : List (Int × Int)) (n : Nat) (la : Int) (w : World) : Prop where
  kx : Kx (fun j => j = nb ∨ j = g) W0 w
  st : AS w B nb fb tb t a cap L n
  gh : Gh w g (gc 3 (againF nb fb tb) false la ⟨#[]⟩ 0 none)
  gn : g ≠ nb
  gf : g ≠ fb
  gt : g ≠ tb
  bg : B ≤ g

section
variable {W0 : World} {g nb fb tb B : Nat} {t : Tm} {a : Option Addr} {cap : Nat} {L : List (Int × Int)} {n : Nat} {la : Int} {w : World}
theorem AS.lt {w : World} {B nb fb tb : Nat} {t : Tm} {a : Option Addr} {cap : Nat} {L : List (Int × Int)} {n : Nat} (h : AS w B nb fb tb t a cap L n) : nb < w.heap.size ∧ fb < w.heap.size ∧ tb < w.heap.size ∧ B ≤ tb := ⟨h.cn.lt, (Array.getElem?_eq_some_iff.1 h.cf).1, h.ct.lt, by obtain ⟨_, _, _, hb⟩ := h.ct; exact hb⟩
theorem AS.gap {w W : World} (h : AS w B nb fb tb t a cap L n) (gn : g ≠ nb) (gf : g ≠ fb) (gt : g ≠ tb) (bg : B ≤ g) (hk : Kx (· = g) w W) : AS W B nb fb tb t a cap L n := by
  obtain ⟨h1, h2, h3, h4⟩ := h.lt
  exact h.keep (hk.block _ h1 (fun e => gn e.symm)) (hk.block _ h2 (fun e => gf e.symm)) (hk.block _ h3 (fun e => gt e.symm)) (fun k hk2 => hk.block k (by have : k < B := hk2; omega) (fun e => by have : k < B := hk2; omega))
theorem AJ.fet {pk pe er : Int} {tm : Tm} (h : AJ W0 g nb fb tb B t a cap L n la w)
    (hf : ∀ W, AS W B nb fb tb t a cap L n → Calls Try.prog 17 (#[.int .u64 3] ++ againC nb fb tb) W fun e w' => FE pk pe er tm W e w' ∧ Kx (· = nb) W w' ∧ Nb w' nb (n + 1)) :
    Fet 17 (againC nb fb tb) g 3 pk pe er tm (· = nb) (fun X => Nb X nb (n + 1)) w := by
  refine ⟨fun W => by kernel_rfl, fun j hj => by subst hj; exact ⟨h.st.cn.lt, fun e => h.gn e.symm⟩, fun X Y hs hq => (hs nb rfl).trans hq, fun W hW => ?_⟩
  exact hf W (h.st.gap h.gn h.gf h.gt h.bg hW)
/-- behind a fetch -/
theorem AJ.after {la' : Int} {w' : World} (h : AJ W0 g nb fb tb B t a cap L n la w) (hk : Kx (fun j => j = nb ∨ j = g) w w') (hn : Nb w' nb (n + 1)) (hg : Gh w' g (gc 3 (againF nb fb tb) false la' ⟨#[]⟩ 0 none)) : AJ W0 g nb fb tb B t a cap L (n + 1) la' w' := by
  obtain ⟨h1, h2, h3, h4⟩ := h.st.lt
  have hs := h.st
  have far : Same (Lo B) w w' := fun k hk2 => hk.block k (by have : k < B := hk2; omega) (fun e => by have : k < B := hk2; have := hs.hn; have := h.bg; omega)
  exact ⟨h.kx.trans hk, ⟨hn, (hk.block fb h2 (fun e => e.elim (fun e => hs.nf e.symm) (fun e => h.gf e.symm))).trans hs.cf, hs.ct.keep (hk.block tb h3 (fun e => e.elim hs.nt (fun e => h.gt e.symm))) far, hs.an.keep far, hs.hn, hs.hf, hs.nf, hs.nt, hs.hl⟩, hg, h.gn, h.gf, h.gt, h.bg⟩
theorem AJ.bad (h : AJ W0 g nb fb tb B t a cap L n la w) (hn : n < L.length) : ∃ why, why ≠ 0 ∧ Calls Try.prog 13 #[.pointer (some ⟨g, 0, none⟩)] w fun e w' => e = .returned (.int .i64 why) ∧ AJ W0 g nb fb tb B t a cap L (n + 1) why w' := by
  obtain ⟨⟨k, er⟩, hL⟩ : ∃ x, L[n]? = some x := ⟨L[n], List.getElem?_eq_getElem hn⟩
  have hF := h.fet (fun W hW => again1_any 3 k er hW hL)
  refine ⟨whyOf (apk k n) (aer er) nilT, aer_why k er n, (Load_bad (show Gh w g (gc 3 (.func (.func 17) #[] (againC nb fb tb)) false la ⟨#[]⟩ 0 none) from h.gh) hF (aer_why k er n)).mono ?_⟩
  rintro e w' ⟨rfl, h1, h2, h3⟩
  exact ⟨rfl, h.after h1 h2 h3⟩
theorem AJ.endBad (h : AJ W0 g nb fb tb B t a cap L n la w) (hn : L.length = n) (he : (recT t).all.e ≠ 0) : Calls Try.prog 13 #[.pointer (some ⟨g, 0, none⟩)] w fun e w' => e = .returned (.int .i64 (recT t).all.e) ∧ AJ W0 g nb fb tb B t a cap L (n + 1) (recT t).all.e w' := by
  have hF := h.fet (fun W hW => again1_end 3 hW hn)
  have hw : whyOf 0 0 (recT t) = (recT t).all.e := by simp [whyOf]
  have := Load_bad (show Gh w g (gc 3 (.func (.func 17) #[] (againC nb fb tb)) false la ⟨#[]⟩ 0 none) from h.gh) hF (by rw [hw]; exact he)
  rw [hw] at this
  refine this.mono ?_
  rintro e w' ⟨rfl, h1, h2, h3⟩
  exact ⟨rfl, h.after h1 h2 h3⟩
theorem AJ.endOk (h : AJ W0 g nb fb tb B t a cap L n la w) (hn : L.length = n) (he : (recT t).all.e = 0) : Calls Try.prog 13 #[.pointer (some ⟨g, 0, none⟩)] w fun e w' => e = .returned (.int .i64 0) ∧ Kx (fun j => j = nb ∨ j = g) W0 w' ∧ Nb w' nb (n + 1) ∧ w'.heap[fb]? = w.heap[fb]? ∧ ∃ b, Gh w' g (gc 3 (againF nb fb tb) false 0 (recT t).cOf (recT t).vOf (some ⟨b, 0, none⟩)) := by
  have hF := h.fet (fun W hW => again1_end 3 hW hn)
  have hw : whyOf 0 0 (recT t) = 0 := by simp [whyOf, he]
  refine (Load_ok (by decide) (show Gh w g (gc 3 (.func (.func 17) #[] (againC nb fb tb)) false la ⟨#[]⟩ 0 none) from h.gh) hF hw).mono ?_
  rintro e w' ⟨rfl, h1, h2, b, h3, h4, h5⟩
  exact ⟨rfl, h.kx.trans h1, h2, h1.block fb h.st.lt.2.1 (fun e => e.elim (fun e => h.st.nf e.symm) (fun e => h.gf e.symm)), b, h4⟩
theorem AJ.slice (h : AJ W0 g nb fb tb B t a cap L n la w) : w.cell? ⟨fb, 0, none⟩ = some (.slice a L.length cap) := by rw [cell_of_row _ _ 0 _ _ _ h.st.cf]; rfl
end

theorem rec_nil {t : Tm} {w : World} {B : Nat → Prop} (hv : (recT t).V w B (.iface 32 (.pointer none))) : (recT t).all.e = 7 := by
  unfold recT at hv ⊢
  by_cases h : t.kind = 10
  · rw [if_pos h] at hv
    cases t with
    | mk k b i f tx by' rf l fs c vr =>
      simp only [Tm.V] at hv
      obtain ⟨_, _, _, _, _, _, _, _, _, h10, _⟩ := hv
      obtain ⟨g, a, cap, e, _⟩ := h10 h
      injection e with _ e
      cases e
  · rw [if_neg h]; exact nilT_e

set_option maxRecDepth 100000 in
set_option maxHeartbeats 4000000 in
theorem LazyAgain_any (t : Tm) (cs : Array Value) (a : Option Addr) (cap : Nat) (L : List (Int × Int)) (w : World) (hi : t.In w (Lo w.heap.size) cs) (ha : AnsIn w w.heap.size a L) (hlen : L.length < 4611686018427387904) :
    Calls Try.prog 4 #[.slice a L.length cap, .agg cs] w fun e w' => e = .returned (.bool true) ∧ Below w.heap.size w w' := by
  have hmf : ∀ (fn : Fn) (first cap : Array Value) (w : World), (Instr.makeFunc fn first cap).run Try.prog w = .ok (.func fn first cap) w := fun _ _ _ _ => rfl
  obtain ⟨b0, i0, f0, tx0, vb, rf0, vl, vf, c0, vr0, rfl⟩ := Tm.In_box hi
  have HLv : Hid (∀ W, Calls Try.prog 5 #[] W fun e w' => e = .returned (.bool true) ∧ Below W.heap.size W w') := lives12_any
  have HA : Hid (∀ u, Below (w.heap.size + 2) ((w.alloc (.cells #[.slice a L.length cap] 49)).alloc (.cells (tcells t.kind b0 i0 f0 tx0 vb rf0 vl vf c0 vr0) 29)) u → Below w.heap.size w u ∧ w.heap.size + 2 ≤ u.heap.size ∧ u.heap[w.heap.size]? = some (.cells #[.slice a L.length cap] 49) ∧ Tb u w.heap.size (w.heap.size + 1) t ∧ AnsIn u w.heap.size a L) := by
    intro u hu
    have hb : Below w.heap.size w u := (((Below.refl _ _).alloc (Nat.le_refl _) _).alloc (by simp) _).trans (hu.mono (by omega))
    have hs : w.heap.size + 2 ≤ u.heap.size := by have := hu.size; simp at this; omega
    exact ⟨hb, hs, (hu.block _ (by omega)).trans (al2_old _ _ _), ⟨_, (hu.block _ (by omega)).trans (al2_new _ _ _), t.In_same (Same.of_below hb (Nat.le_refl _)) (fun _ h => h) _ hi, by omega⟩, ha.keep (Same.of_below hb (Nat.le_refl _))⟩
  have HLn : Hid (L.length < 4611686018427387904) := hlen
  clear hi ha hlen
  go_enter Try.func4, Try.ntmps4
  unfold tcells at HA ⊢
  go_wp2_with fail
  refine (HLv.out _).mono ?_
  rintro e u1 ⟨rfl, hb1⟩
  obtain ⟨q1, q2, q3, q4, q5⟩ := HA.out u1 (by have := hb1; simp only [World.size_alloc] at this; exact this)
  have HU : Hid (Below w.heap.size w u1 ∧ w.heap.size + 2 ≤ u1.heap.size ∧ u1.heap[w.heap.size]? = some (.cells #[.slice a L.length cap] 49) ∧ Tb u1 w.heap.size (w.heap.size + 1) t ∧ AnsIn u1 w.heap.size a L) := ⟨q1, q2, q3, q4, q5⟩
  clear q1 q2 q3 q4 q5 hb1 HA HLv
  go_wp2_with fail
  refine (gNew_any 3 _ _ _ (by decide)).mono ?_
  rintro e W0 ⟨rfl, hW0⟩
  have HJ : Hid (AJ W0 (u1.heap.size + 1) u1.heap.size w.heap.size (w.heap.size + 1) w.heap.size t a cap L 0 0 W0 ∧ Below w.heap.size w W0) := by
    obtain ⟨q1, q2, q3, q4, q5⟩ := HU.out
    have hb4 : Below u1.heap.size u1 W0 := by subst hW0; exact ((Below.refl _ _).alloc (Nat.le_refl _) _).alloc (by simp) _
    refine ⟨⟨Kx.refl _ _, ⟨?_, (hb4.block _ (by omega)).trans q3, q4.keep (hb4.block _ q4.lt) (Same.of_below hb4 (by omega)), q5.keep (Same.of_below hb4 (by omega)), by omega, by omega, by omega, by omega, HLn.out⟩, ?_, by omega, by omega, by omega, by omega⟩, q1.trans (hb4.mono (by omega))⟩
    · subst hW0; exact al2_old _ _ _
    · subst hW0; exact al2_new _ _ _
  rw [show (u1.alloc (.cells #[.int .i64 0] 3)).heap.size = u1.heap.size + 1 from by simp]
  generalize hgg : u1.heap.size + 1 = g at HJ ⊢
  generalize hnn : u1.heap.size = nb at HJ ⊢ hgg
  have hq : ∀ W, (binOp .eql 37 (.pointer (some ⟨g, 0, none⟩)) (.pointer none)).run Try.prog W = .ok (.bool false) W := fun W => by kernel_rfl
  have hgq : ∀ x y W, (eqGuard .eql 37 x y (.pointer (some ⟨g, 0, none⟩)) (.pointer none)).run Try.prog W = .ok () W := fun x y W => by kernel_rfl
  have HBW : Hid (∀ W, Kx (fun j => j = nb ∨ j = g) W0 W → Below w.heap.size w W) := fun W h => HJ.out.2.trans (h.below (fun j hj => by have := HJ.out.1.st.hn; have := HJ.out.1.bg; rcases hj with rfl | rfl <;> assumption) HJ.out.2.size)
  clear hW0 hgg hnn HU
  go_wp2_with fail
  go_loopw [8] (fun x wr => ∃ (i : Nat) (la : Int), x = .int .i64 (i : Int) ∧ i ≤ L.length ∧ Hid (AJ W0 g nb w.heap.size (w.heap.size + 1) w.heap.size t a cap L i la wr)) (fun x _ => L.length - (intOf x).toNat)
  case atStart => exact ⟨0, 0, rfl, Nat.zero_le _, HJ.out.1⟩
  case round =>
    obtain ⟨i, la, rfl, hil, HK⟩ := hrel
    have HLl := HLn.out
    have s0 : wr.cell? ⟨w.heap.size, 0, none⟩ = some (.slice a L.length cap) := HK.out.slice
    rcases Nat.lt_or_ge i L.length with hlt | hge
    · have hi1 : (i : Int) < (L.length : Int) := by omega
      have hw1 : IntKind.i64.wrap ((i : Int) + 1) = (i : Int) + 1 := by rw [IntKind.wrap_i64]; omega
      obtain ⟨why, hwy, hcall⟩ := HK.out.bad hlt
      have hwb : (why == 0) = false := by simp [hwy]
      have HC : Hid (Calls Try.prog 13 #[.pointer (some ⟨g, 0, none⟩)] wr fun e w' => e = .returned (.int .i64 why) ∧ AJ W0 g nb w.heap.size (w.heap.size + 1) w.heap.size t a cap L (i + 1) why w') := hcall
      clear hcall hwy
      go_wp2_with fail
      refine HC.out.mono ?_
      rintro e w1 ⟨rfl, hj1⟩
      have HK1 : Hid (AJ W0 g nb w.heap.size (w.heap.size + 1) w.heap.size t a cap L (i + 1) why w1) := hj1
      have d0 : w1.cell? ⟨nb, 0, none⟩ = some (.int .i64 ((i : Int) + 1)) := hj1.st.cn.cell
      clear hj1 s0 HC
      go_wp2_with (first | (go_at_call 15; refine (Loaded_no HK1.out.gh).mono ?_; rintro e w' ⟨rfl, rfl⟩) | (go_at_call 16; refine (Last_any HK1.out.gh).mono ?_; rintro e w' ⟨rfl, rfl⟩))
      exact ⟨⟨i + 1, why, by simp, by omega, HK1⟩, by simp [intOf]; omega⟩
    · have hi1 : ¬ (i : Int) < (L.length : Int) := by omega
      have hiL : L.length = i := by omega
      have HIL : Hid (L.length = i) := hiL
      obtain ⟨ct, hct, hin, hBt⟩ := HK.out.st.ct
      have htl := HK.out.st.lt.2.2.1
      obtain ⟨b1, i1, f1, tx1, vb1, rf1, vl1, vf1, c1, vr1, rfl⟩ := Tm.In_box hin
      have HLD : Hid (∀ W, Below wr.heap.size wr W → (loadVar 29 ⟨w.heap.size + 1, 0, none⟩).run Try.prog W = .ok (.agg (tcells t.kind b1 i1 f1 tx1 vb1 rf1 vl1 vf1 c1 vr1)) W) := fun W hW => tm_ldz ((hW.block _ htl).trans hct)
      have HR : Hid (∀ W, Below wr.heap.size wr W → Calls Try.prog 6 #[.agg (tcells t.kind b1 i1 f1 tx1 vb1 rf1 vl1 vf1 c1 vr1)] W fun e w' => ∃ rv, e = .returned (.pointer rv) ∧ Below W.heap.size W w' ∧ (recT t).V w' (Fr W w') (.iface 32 (.pointer rv))) := fun W hW =>
        mRec_any t _ (Lo w.heap.size) W (t.In_same (Same.of_below hW (by omega)) (fun _ h => h) _ hin) (fun k hk => by have : k < w.heap.size := hk; have := hW.size; omega)
      have HD0 := HLD.out wr (Below.refl _ _)
      clear hct hin hBt htl hiL
      go_wp2_with ((with_reducible refine ldr ?_ ?_ HD0 ?_); rfl; rfl)
      refine (HR.out wr (Below.refl _ _)).mono ?_
      rintro e w1 ⟨rv1, rfl, hb1, hv1⟩
      have HB1 : Hid (Below wr.heap.size wr w1) := hb1
      have HC1 : Hid (Calls Try.prog 7 #[.iface 32 (.pointer rv1)] w1 fun e w' => e = .returned (.tuple #[.int .i64 (recT t).cAt, .int .i64 (recT t).all.e]) ∧ Below w1.heap.size w1 w') := Check_any (recT t) _ w1.heap.size w1 (Nat.le_refl _) ((recT t).V_same (Same.refl _ _) (fun k hk => hk.2) _ hv1)
      clear hb1 hv1 HD0 s0
      generalize (recT t).cAt = at0 at HC1
      go_wp2_with fail
      refine HC1.out.mono ?_
      rintro e w2 ⟨rfl, hb2⟩
      have HB2 : Hid (Below wr.heap.size wr w2) := HB1.out.trans (hb2.mono HB1.out.size)
      have HD2 := HLD.out w2 HB2.out
      clear hb2 HC1 HB1
      go_wp2_with ((with_reducible refine ldr ?_ ?_ HD2 ?_); rfl; rfl)
      refine (HR.out w2 HB2.out).mono ?_
      rintro e w3 ⟨rv, rfl, hb3, hv3⟩
      have HB3 : Hid (Below wr.heap.size wr w3) := HB2.out.trans (hb3.mono HB2.out.size)
      have hj3 : AJ W0 g nb w.heap.size (w.heap.size + 1) w.heap.size t a cap L i la w3 := by
        have hb := HB3.out
        have hk : AJ W0 g nb w.heap.size (w.heap.size + 1) w.heap.size t a cap L i la wr := HK.out
        obtain ⟨l1, l2, l3, l4⟩ := hk.st.lt
        exact ⟨hk.kx.trans (.of hb), hk.st.keep (hb.block _ l1) (hb.block _ l2) (hb.block _ l3) (Same.of_below hb (by omega)), hk.gh.keep (hb.block _ hk.gh.lt), hk.gn, hk.gf, hk.gt, hk.bg⟩
      have HK3 : Hid (AJ W0 g nb w.heap.size (w.heap.size + 1) w.heap.size t a cap L i la w3) := hj3
      have HN3 : Hid (rv = none → (recT t).all.e = 7) := fun h => by subst h; exact rec_nil hv3
      have hw1 : IntKind.i64.wrap ((L.length : Int) + 1) = (L.length : Int) + 1 := by rw [IntKind.wrap_i64]; omega
      clear hb3 hv3 HD2 HB2 HB3 hj3 HLD HR
      by_cases he : (recT t).all.e = 0
      · have HO : Hid ((recT t).all.e = 0) := he
        rcases rv with _ | rv
        · exact absurd (HN3.out rfl) (by omega)
        · have hrs : ∀ W, (binOp .eql 32 (.pointer (some rv)) (.pointer none)).run Try.prog W = .ok (.bool false) W := fun W => by kernel_rfl
          have hrt : ∀ x y W, (eqGuard .eql 32 x y (.pointer (some rv)) (.pointer none)).run Try.prog W = .ok () W := fun x y W => by kernel_rfl
          rw [he]
          clear he
          go_wp2_with fail
          refine (HK3.out.endOk HIL.out HO.out).mono ?_
          rintro e w4 ⟨rfl, k1, k2, k3, b4, k4⟩
          have d0 : w4.cell? ⟨nb, 0, none⟩ = some (.int .i64 ((L.length : Int) + 1)) := by rw [HIL.out]; exact k2.cell
          have s4 : w4.cell? ⟨w.heap.size, 0, none⟩ = some (.slice a L.length cap) := by rw [World.cell?_of_block (w := w3) k3]; exact HK3.out.slice
          have H4 : Hid (Kx (fun j => j = nb ∨ j = g) W0 w4 ∧ Gh w4 g (gc 3 (againF nb w.heap.size (w.heap.size + 1)) false 0 (recT t).cOf (recT t).vOf (some ⟨b4, 0, none⟩))) := ⟨k1, k4⟩
          clear k1 k2 k3 k4
          go_wp2_with (go_at_call 15; refine (Loaded_yes H4.out.2).mono ?_; rintro e w' ⟨rfl, rfl⟩)
          go_ret
          exact ⟨rfl, HBW.out _ H4.out.1⟩
      · have HO : Hid ((recT t).all.e ≠ 0) := he
        have HEnd : Hid (∀ q, (recT t).all.e = q → Calls Try.prog 13 #[.pointer (some ⟨g, 0, none⟩)] w3 fun e w' => e = .returned (.int .i64 q) ∧ AJ W0 g nb w.heap.size (w.heap.size + 1) w.heap.size t a cap L (i + 1) q w') := fun q hq => by subst hq; exact HK3.out.endBad HIL.out HO.out
        rcases rv with _ | rv
        · have he7 := HN3.out rfl
          rw [he7]
          have HE7 := HEnd.out 7 he7
          have hrs : ∀ W, (binOp .eql 32 (.pointer none) (.pointer none)).run Try.prog W = .ok (.bool true) W := fun W => by kernel_rfl
          have hrt : ∀ x y W, (eqGuard .eql 32 x y (.pointer none) (.pointer none)).run Try.prog W = .ok () W := fun x y W => by kernel_rfl
          have HE : Hid (Calls Try.prog 13 #[.pointer (some ⟨g, 0, none⟩)] w3 fun e w' => e = .returned (.int .i64 7) ∧ AJ W0 g nb w.heap.size (w.heap.size + 1) w.heap.size t a cap L (i + 1) 7 w') := HE7
          clear he7 HE7 he HEnd
          go_wp2_with fail
          refine HE.out.mono ?_
          rintro e w4 ⟨rfl, k1⟩
          have d0 : w4.cell? ⟨nb, 0, none⟩ = some (.int .i64 ((L.length : Int) + 1)) := by rw [HIL.out]; exact k1.st.cn.cell
          have s4 : w4.cell? ⟨w.heap.size, 0, none⟩ = some (.slice a L.length cap) := k1.slice
          have H4 : Hid (AJ W0 g nb w.heap.size (w.heap.size + 1) w.heap.size t a cap L (i + 1) 7 w4) := k1
          clear k1
          go_wp2_with (go_at_call 15; refine (Loaded_no H4.out.gh).mono ?_; rintro e w' ⟨rfl, rfl⟩)
          go_ret
          exact ⟨rfl, HBW.out _ H4.out.kx⟩
        · have hrs : ∀ W, (binOp .eql 32 (.pointer (some rv)) (.pointer none)).run Try.prog W = .ok (.bool false) W := fun W => by kernel_rfl
          have hrt : ∀ x y W, (eqGuard .eql 32 x y (.pointer (some rv)) (.pointer none)).run Try.prog W = .ok () W := fun x y W => by kernel_rfl
          have hqb : ((recT t).all.e == 0) = false := by simp [he]
          have HE0 := HEnd.out _ rfl
          clear he HEnd HO HN3
          generalize (recT t).all.e = q at HE0 hqb ⊢
          have HE : Hid (Calls Try.prog 13 #[.pointer (some ⟨g, 0, none⟩)] w3 fun e w' => e = .returned (.int .i64 q) ∧ AJ W0 g nb w.heap.size (w.heap.size + 1) w.heap.size t a cap L (i + 1) q w') := HE0
          clear HE0
          go_wp2_with fail
          refine HE.out.mono ?_
          rintro e w4 ⟨rfl, k1⟩
          have d0 : w4.cell? ⟨nb, 0, none⟩ = some (.int .i64 ((L.length : Int) + 1)) := by rw [HIL.out]; exact k1.st.cn.cell
          have s4 : w4.cell? ⟨w.heap.size, 0, none⟩ = some (.slice a L.length cap) := k1.slice
          have H4 : Hid (AJ W0 g nb w.heap.size (w.heap.size + 1) w.heap.size t a cap L (i + 1) q w4) := k1
          clear k1
          go_wp2_with (go_at_call 15; refine (Loaded_no H4.out.gh).mono ?_; rintro e w' ⟨rfl, rfl⟩)
          go_ret
          exact ⟨rfl, HBW.out _ H4.out.kx⟩
end Go.Proofs.Ytidlncopjniaeaa

