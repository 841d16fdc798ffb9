/- Every Print and Lines of any value, every Quote and every Float is the document's, and the value stays: the Go function tenonlaw02.TextPrints returns true at every three arguments that can be read and are together of bulk at most 1048576, and leaves them as they were; what the library's tables hold is tied to the program's text. -/
import Derived.Test.YtnndlffidifddaaGreatDoorRows
import Derived.Test.YtnndlffidifddaaGreatDoorTie
import Derived.Test.YtnndlffidifddaaGreatDoorCards
import Derived.Test.YtnndlffidifddaaGreatDoorK48
import Derived.Test.YtnndlffidifddaaGreatDoorK49
import Derived.ProofKit
import Derived.SizedLaws
import Derived.OpenShut
import Derived.LaidMore
import Derived.Lay
import Derived.MakeChecks
import Derived.SevenTiedAt
import Derived.Stop.Joined
import Derived.Deep.DeepHandedRow
import Derived.Lib.LaidTab
namespace Go.Proofs.YtnndlffidifddaaGreatDoor
open Go.ChangeShapes Go.WideShapes Go.ChangeAt Go.RowKit
open Go.ChangeMaps (open_string shut_string)

theorem Tryz.own : ownKnob Tryz.prog.godebug = none := by kernel_rfl
theorem Tryz.laidOut : laidOutB Tryz.prog = true := by kernel_rfl
theorem Tryz.gDeb : Tryz.prog.globalNamed Rows.textPrintsUptoRow.laid[1].1 = some 4 := by kernel_rfl
theorem Tryz.gPow : Tryz.prog.globalNamed Rows.textPrintsUptoRow.laid[3].1 = some 1 := by kernel_rfl
theorem Tryz.tDeb : (Tryz.prog.globals[4]?).map (·.type) = some 163 := by kernel_rfl
theorem Tryz.tPow : (Tryz.prog.globals[1]?).map (·.type) = some 126 := by kernel_rfl
theorem Tryz.uDeb : Tryz.prog.underlying 163 = some (.array 64 5) := by kernel_rfl
theorem Tryz.uPow : Tryz.prog.underlying 126 = some (.array 20 24) := by kernel_rfl
theorem Tryz.cDeb : Tryz.prog.cellsOf 163 = 64 := by kernel_rfl
theorem Tryz.cPow : Tryz.prog.cellsOf 126 = 20 := by kernel_rfl
theorem Tryz.cU64 : Tryz.prog.cellsOf 24 = 1 := by kernel_rfl
def deb64 : List Int := [0, 1, 56, 2, 57, 49, 28, 3, 61, 58, 42, 50, 38, 29, 17, 4, 62, 47, 59, 36, 45, 43, 51, 22, 53, 39, 33, 30, 24, 18, 12, 5, 63, 55, 48, 27, 60, 41, 37, 16, 46, 35, 44, 21, 52, 32, 23, 11, 54, 26, 40, 15, 34, 20, 31, 10, 25, 14, 19, 9, 13, 8, 7, 6]

/-- what the condition on the tables gives -/
theorem env_of {W : World} (h : laidMetH Tryz.prog Rows.textPrintsUptoRow.laid W) : EnvT W.heap.size W := by
  rw [MakeChecks.laidMetH_plain _ _ _ (by kernel_rfl)] at h
  obtain ⟨ps, ⟨g0, t0, cs0, f0, p0, q0, hg0, ht0, hv0, hd0, ⟨g1, t1, cs1, f1, p1, q1, hg1, ht1, hv1, hd1, ⟨g2, t2, cs2, f2, p2, q2, hg2, ht2, hv2, hd2, ⟨g3, t3, cs3, f3, p3, q3, hg3, ht3, hv3, hd3, _, _⟩, _⟩, _⟩, _⟩, _, _⟩ := h
  obtain rfl := Option.some.inj (Tryz.gDeb.symm.trans hg1)
  obtain rfl := Option.some.inj (Tryz.gPow.symm.trans hg3)
  obtain rfl := Option.some.inj (Tryz.tDeb.symm.trans ht1)
  obtain rfl := Option.some.inj (Tryz.tPow.symm.trans ht3)
  have hcell : W.cell? ⟨4, 15, none⟩ = some (.int .u8 4) := by
    have hd1' : DataW.trod _ Tryz.prog W 0 _ false f1 163 cs1.toList = some (Lib.tabData .u8 deb64, p1) := hd1
    have := Lib.cells_of_tab Tryz.uDeb Tryz.underlying5 Tryz.cU8 Tryz.cDeb hd1'
    have hc := World.var?_cell hg1 hv1 15
    rw [hc, ← Array.getElem?_toList, this]
    rfl
  refine ⟨Lib.tabBelow_of_tabIs ?_, World.block_lt_of_cell? _ _ hcell, hcell⟩
  have hd3' : DataW.trod _ Tryz.prog W 0 _ false f3 126 cs3.toList = some (Lib.tabData .u64 Lib.pow10Tab, p3) := hd3
  have := Lib.cells_of_tab Tryz.uPow Tryz.underlying24 Tryz.cU64 Tryz.cPow hd3'
  unfold Lib.TabIs
  refine hv3.trans ?_
  rw [← this]

theorem okWide_flt {P : Program} {w : World} {r : Reach} {base : Nat} {t : TypeId} {v : Value} {k : FloatKind} (ht : P.underlying t = some (.float k)) (h : Value.okWide P w r base t v) : ∃ n, v = .float k n := by
  simp only [Value.okWide, ht, Cell.okWide] at h
  cases v <;> simp_all [Cell.ok]
theorem bulk_string {H : Type} {b : List UInt8} : b.length ≤ Rows.uptoBulk (DataW.lit (H := H) (.string b)) := by simp [Rows.uptoBulk]

set_option maxRecDepth 100000 in
theorem TextPrints_lifted (os : Os) (started : os.Started) (H : Type) (enc : TypeId × Value → H) (F : Stop.Interp) :
    ReturnsInHanded {} Tryz.checked os 3 .any ((Rows.OpenSpec.upto Rows.textPrintsSpec).preRow enc Tryz.prog Tryz.f3 Rows.textPrintsUptoRow.domain false Rows.textPrintsUptoRow.laid) (((Rows.OpenSpec.upto Rows.textPrintsSpec).at F).post enc Tryz.prog Tryz.f3 false true false false) := by
  refine returnsInHanded_of_row (C := Tryz.checked) (s := Rows.OpenSpec.upto Rows.textPrintsSpec) Tryz.own started (by kernel_rfl) Tryz.func3 ?_ ?_
  · have hok : Input.okWideB Tryz.prog ((World.laidAll Tryz.prog os Rows.textPrintsUptoRow.laid).forCall (fun _ _ => 0) ⟨#[], #[.agg #[.int .i64 0, .bool false, .int .i64 0, .float .f64 0, .string ByteArray.empty, .slice none 0 0, .int .u64 0, .slice none 0 0, .slice none 0 0, .string ByteArray.empty, .int .i64 0], .string ByteArray.empty, .float .f64 0], []⟩) 3 ⟨#[], #[.agg #[.int .i64 0, .bool false, .int .i64 0, .float .f64 0, .string ByteArray.empty, .slice none 0 0, .int .u64 0, .slice none 0 0, .slice none 0 0, .string ByteArray.empty, .int .i64 0], .string ByteArray.empty, .float .f64 0], []⟩ = true := by kernel_rfl
    have hx : ∃ x, DataW.whole enc Tryz.prog ((World.laidAll Tryz.prog os Rows.textPrintsUptoRow.laid).forCall (fun _ _ => 0) ⟨#[], #[.agg #[.int .i64 0, .bool false, .int .i64 0, .float .f64 0, .string ByteArray.empty, .slice none 0 0, .int .u64 0, .slice none 0 0, .slice none 0 0, .string ByteArray.empty, .int .i64 0], .string ByteArray.empty, .float .f64 0], []⟩).memory Tryz.f3.params.toList (Rows.OpenSpec.upto Rows.textPrintsSpec).vars false #[.agg #[.int .i64 0, .bool false, .int .i64 0, .float .f64 0, .string ByteArray.empty, .slice none 0 0, .int .u64 0, .slice none 0 0, .slice none 0 0, .string ByteArray.empty, .int .i64 0], .string ByteArray.empty, .float .f64 0].toList 8 = some x ∧ x = ([.agg [.lit (.int .i64 0), .lit (.bool false), .lit (.int .i64 0), .lit (.float .f64 0), .lit (.string []), .nil, .lit (.int .u64 0), .nil, .nil, .lit (.string []), .lit (.int .i64 0)], .lit (.string []), .lit (.float .f64 0)], [], []) := ⟨_, by kernel_rfl, rfl⟩
    obtain ⟨x, hx, rfl⟩ := hx
    exact ⟨World.laidAll Tryz.prog os Rows.textPrintsUptoRow.laid, fun _ _ => 0, ⟨#[], #[.agg #[.int .i64 0, .bool false, .int .i64 0, .float .f64 0, .string ByteArray.empty, .slice none 0 0, .int .u64 0, .slice none 0 0, .slice none 0 0, .string ByteArray.empty, .int .i64 0], .string ByteArray.empty, .float .f64 0], []⟩, World.laidAll_os _ _ _, World.shaped_of_ZipB (by kernel_rfl) (by kernel_rfl), (Input.okWide_of_okWideB (base := 0) hok).1, (Input.okWide_of_okWideB hok).2,
      OpenSpec.preRow_of_cond 8 hx (by kernel_rfl) (fun k hk => by cases hk; kernel_rfl) (by kernel_rfl) (by rw [MakeChecks.laidMetH_plain _ _ _ (by kernel_rfl)]; exact laidMet_laidAll _ (by kernel_rfl) (by kernel_rfl)), by
        simp only [Assume.holds]
        exact ⟨by simp, by simp, fun _ => Modest.zero, by simp, by simp⟩⟩
  intro W base args ds gs before hval0 hW _ hcond hsz0 hLaid _ _
  have hval : ∀ (j : Nat) t v, Tryz.f3.params[j]? = some t → args[j]? = some v → Value.okWide Tryz.prog W .any base t v := hval0
  have hW' := hW
  obtain ⟨p, q, hA0, hV, rfl, hfz, hnd⟩ := hW
  have hA : DataW.TrodAll enc Tryz.prog W 0 (fun _ => true) true Tryz.f3.params.toList args.toList ds p := hA0
  rw [Tryz.params3] at hA hval
  obtain ⟨v0, v1, v2, d0, d1, d2, p0, p1, p2, rfl, rfl, rfl, h0, h1, h2⟩ := trodAll_three hA
  obtain ⟨rfl, rfl⟩ := trodVars_none hV
  have k0 := h0
  have k1 := h1
  have k2 := h2
  have lt0 : ∀ x ∈ p0, x.block < W.heap.size := by obtain ⟨m, hm⟩ := k0; exact DataW.trod_lt m _ _ _ hm
  have lt1 : ∀ x ∈ p1, x.block < W.heap.size := by obtain ⟨m, hm⟩ := k1; exact DataW.trod_lt m _ _ _ hm
  have lt2 : ∀ x ∈ p2, x.block < W.heap.size := by obtain ⟨m, hm⟩ := k2; exact DataW.trod_lt m _ _ _ hm
  have hsz0' : ∀ m ∈ d0.weights Tryz.prog 29, m ≤ reachBytes := by
    intro m hm
    have := List.all_eq_true.1 hsz0 m (DataW.weights_mem_each (j := 0) (t := 29) (d := d0) rfl rfl m hm)
    simpa using this
  have hbulk : Rows.uptoBulk d1 ≤ 1048576 := by
    have h : Rows.uptoBulkAll ([d0, d1, d2] ++ []) ≤ 1048576 := of_decide_eq_true (hcond _ rfl)
    simp only [List.append_nil, Rows.uptoBulkAll] at h
    omega
  obtain ⟨cs0, rfl, _⟩ := okWide_struct Tryz.underlying29 (hval 0 29 v0 rfl rfl)
  obtain ⟨t0, ht0⟩ : ∃ t : Tm, t.In W (Lo W.heap.size) cs0 := by
    obtain ⟨fuel, hf⟩ := h0
    obtain ⟨t, ht⟩ := open_term fuel _ _ hf hsz0'
    exact ⟨t, by simpa [Value.cells] using ht⟩
  obtain ⟨s, rfl, rfl, rfl, hs⟩ := open_string Tryz.underlying9 (hval 1 9 v1 rfl rfl) h1
  have hs' : s.size ≤ 1099511627776 := by
    have h1 := Nat.le_trans bulk_string hbulk
    have h2 : s.data.toList.length = s.size := by rw [Array.length_toList]; rfl
    omega
  obtain ⟨f, rfl, hf⟩ : ∃ f, v2 = .float .f64 f ∧ f < 18446744073709551616 := by
    obtain ⟨fuel, hf⟩ := h2
    obtain ⟨f, e, hwf⟩ := trod_float Tryz.underlying22 hf
    obtain ⟨g, rfl⟩ := okWide_flt Tryz.underlying22 (hval 2 22 v2 rfl rfl)
    simp only [Value.cells, List.cons.injEq, Value.float.injEq, true_and, and_true] at e
    subst e
    exact ⟨_, rfl, wf_f64 hwf⟩
  clear hA0 hval0
  refine (prints_any t0 cs0 s f W ht0 hs' hf (env_of hLaid)).mono fun e W' ⟨he, bel⟩ => ?_
  subst he
  have back0 : ∀ {v : Value} {d : DataW H} {p : List MemPlace}, DataW.Trod enc Tryz.prog W 0 (fun _ => true) true 29 v d p → (∀ x ∈ p, x.block < W.heap.size) → DataW.Trod enc Tryz.prog W' 0 (fun b => decide (b < W.heap.size)) true 29 v d p :=
    fun h lt => Below.trod Tryz.laidOut (by kernel_rfl) (of_decide_eq_true (by kernel_rfl)) h bel lt
  have back1 : ∀ {v : Value} {d : DataW H} {p : List MemPlace}, DataW.Trod enc Tryz.prog W 0 (fun _ => true) true 9 v d p → (∀ x ∈ p, x.block < W.heap.size) → DataW.Trod enc Tryz.prog W' 0 (fun b => decide (b < W.heap.size)) true 9 v d p :=
    fun h lt => Below.trod Tryz.laidOut (by kernel_rfl) (of_decide_eq_true (by kernel_rfl)) h bel lt
  have back2 : ∀ {v : Value} {d : DataW H} {p : List MemPlace}, DataW.Trod enc Tryz.prog W 0 (fun _ => true) true 22 v d p → (∀ x ∈ p, x.block < W.heap.size) → DataW.Trod enc Tryz.prog W' 0 (fun b => decide (b < W.heap.size)) true 22 v d p :=
    fun h lt => Below.trod Tryz.laidOut (by kernel_rfl) (of_decide_eq_true (by kernel_rfl)) h bel lt
  exact ⟨_, rfl, _, _, _, [], _, [], hW', trodAll_mk1 (shut_bool Tryz.underlying4 _), trodAll_mk3 (back0 k0 lt0) (back1 k1 lt1) (back2 k2 lt2), rfl, bel.frame _, fun h => by cases h⟩

theorem TextPrints_row : Rows.TextPrintsUptoSaid :=
  OpenClaim.holds_of_cond 3 Tryz.f3 rfl rfl rfl rfl rfl rfl rfl ⟨rfl, rfl, rfl, rfl, rfl⟩ rfl rfl rfl rfl rfl (by kernel_rfl) Tryz.func3 (by kernel_rfl)
    (of_decide_eq_true (by kernel_rfl)) (by unfold Func.isWrapper; first | (rw [if_pos (by decide +kernel)]; kernel_rfl) | (rw [if_neg (by decide +kernel)]; exact ⟨rfl, rfl⟩))
    (fun os started H enc _ F => by rw [OpenClaim.pre_eq_preRow]; exact TextPrints_lifted os started H enc F)

theorem TextPrints_holds : Rows.TextPrintsUptoCardSaid :=
  Claim7.holds_tied_plain_at .later [] _ _ _ _ TextPrints_row (fun _ h => by cases h) (by kernel_rfl) (fun _ h => by cases h) textPrintsUpto_row_tie rfl ⟨rfl, rfl⟩ (by kernel_rfl) rfl
    (fun f fn hf hfn => by
      obtain rfl : f = 3 := Option.some.inj ((show Tryz.prog.funcNamed Rows.textPrintsUptoRow.func = some 3 by kernel_rfl).symm.trans hf) |>.symm
      obtain rfl : fn = Tryz.f3 := (Option.some.inj (Tryz.func3.symm.trans hfn)).symm
      exact ⟨by kernel_rfl, fun j t ht => by
        rw [Tryz.params3] at ht
        have hm : t ∈ [29, 9, 22] := by simpa using Array.mem_of_getElem? ht
        have hall : ([29, 9, 22].all fun u => !Tryz.prog.wantsStandIn u) = true := by kernel_rfl
        exact (show Tryz.prog.wantsStandIn t = false by simpa using List.all_eq_true.1 hall t hm)⟩)
    (by kernel_rfl)
end Go.Proofs.YtnndlffidifddaaGreatDoor

