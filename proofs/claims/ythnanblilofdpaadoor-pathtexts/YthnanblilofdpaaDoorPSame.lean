/- Whether two ways are one: tenonref04.Same. -/
import Derived.Test.YthnanblilofdpaaDoorPRd
import Derived.Laws.StructEq
namespace Go.Proofs.YthnanblilofdpaaDoor
open Go.RowKit

theorem beq_dec (m n : ByteArray) : (m.toList == n.toList) = decide (m = n) := by
  rw [Bool.eq_iff_iff, beq_iff_eq, decide_eq_true_eq, ByteArray.toList_eq, ByteArray.toList_eq, Array.toList_inj]
  exact ⟨fun h => ByteArray.ext h, fun h => by rw [h]⟩
theorem Tryd.fldW : (Tryd.prog.fieldsOf 32).toList = [⟨"Name", 9, 0, false, "", "", 0⟩, ⟨"At", 4, 1, false, "", "", 16⟩, ⟨"Index", 3, 2, false, "", "", 24⟩] := by kernel_rfl
theorem eq_s (n1 n2 : ByteArray) (b1 b2 : Bool) (i1 i2 : Int) (W : World) : (Op.equalIn 10000 32 (.agg #[.string n1, .bool b1, .int .i64 i1]) (.agg #[.string n2, .bool b2, .int .i64 i2])).run Tryd.prog W = .ok (decide ((⟨n1, b1, i1⟩ : Stp) = ⟨n2, b2, i2⟩)) W := by
  rw [run_equalIn_struct (P := Tryd.prog) W 9999 32 _ _ (by kernel_rfl) (by kernel_rfl), Tryd.fldW]
  have u9 : Tryd.prog.underlying 9 = some .string := by kernel_rfl
  have u4 : Tryd.prog.underlying 4 = some .bool := by kernel_rfl
  have u3 : Tryd.prog.underlying 3 = some (.int .i64) := by kernel_rfl
  have pa : ∀ (V : World) (n : ByteArray) (b : Bool) (i : Int), (part 9 #[.string n, .bool b, .int .i64 i] 0).run Tryd.prog V = .ok (.string n) V := fun V n b i => by kernel_rfl
  have pb : ∀ (V : World) (n : ByteArray) (b : Bool) (i : Int), (part 4 #[.string n, .bool b, .int .i64 i] 1).run Tryd.prog V = .ok (.bool b) V := fun V n b i => by kernel_rfl
  have pc : ∀ (V : World) (n : ByteArray) (b : Bool) (i : Int), (part 3 #[.string n, .bool b, .int .i64 i] 2).run Tryd.prog V = .ok (.int .i64 i) V := fun V n b i => by kernel_rfl
  have qa : ∀ (V : World) (m n : ByteArray), (Op.equalIn 9999 9 (.string m) (.string n)).run Tryd.prog V = .ok (decide (m = n)) V := fun V m n => by rw [run_equalIn_string V 9998 9 _ _ u9, beq_dec]
  have qb : ∀ (V : World) (m n : Bool), (Op.equalIn 9999 4 (.bool m) (.bool n)).run Tryd.prog V = .ok (m == n) V := fun V m n => run_equalIn_bool' V 9998 4 _ _ u4
  have qc : ∀ (V : World) (m n : Int), (Op.equalIn 9999 3 (.int .i64 m) (.int .i64 n)).run Tryd.prog V = .ok (m == n) V := fun V m n => run_equalIn_int V 9998 3 .i64 .i64 _ _ u3
  have en : ("Name" : String) ≠ "_" := by decide
  have ea : ("At" : String) ≠ "_" := by decide
  have ei : ("Index" : String) ≠ "_" := by decide
  simp only [Op.eqFields, if_pos en, if_pos ea, if_pos ei, Sem.run_bind, pa, Result.andThen_ok, qa, Sem.run_ite, pb, qb, pc, qc, Sem.run_pure]
  by_cases h1 : n1 = n2
  · by_cases h2 : b1 = b2
    · by_cases h3 : i1 = i2
      · simp [h1, h2, h3]
      · simp [h1, h2, h3]
    · simp [h1, h2]
  · simp [h1]
theorem eq_st (x y : Stp) (W : World) : (Op.equalIn 10000 32 (.agg #[.string x.name, .bool x.at', .int .i64 x.idx]) (.agg #[.string y.name, .bool y.at', .int .i64 y.idx])).run Tryd.prog W = .ok (decide (x = y)) W := eq_s _ _ _ _ _ _ W
theorem neq_s (x y : Stp) (W : World) : (binOp .neq 32 (.agg #[.string x.name, .bool x.at', .int .i64 x.idx]) (.agg #[.string y.name, .bool y.at', .int .i64 y.idx])).run Tryd.prog W = .ok (.bool (!decide (x = y))) W := by
  rw [run_neq_struct, eq_s]; rfl
theorem eql_s (x y : Stp) (W : World) : (binOp .eql 32 (.agg #[.string x.name, .bool x.at', .int .i64 x.idx]) (.agg #[.string y.name, .bool y.at', .int .i64 y.idx])).run Tryd.prog W = .ok (.bool (decide (x = y))) W := by
  rw [run_eql_struct, eq_s]; rfl
@[go_sem] theorem eqg_n (p q : Operand) (xs ys : Array Value) (W : World) : (eqGuard .neq 32 p q (.agg xs) (.agg ys)).run Tryd.prog W = .ok () W := run_eqGuard_agg W _ _ _ _ _ _ (by kernel_rfl)
@[go_sem] theorem eqg_e (p q : Operand) (xs ys : Array Value) (W : World) : (eqGuard .eql 32 p q (.agg xs) (.agg ys)).run Tryd.prog W = .ok () W := run_eqGuard_agg W _ _ _ _ _ _ (by kernel_rfl)
theorem list_step {l m : List Stp} {k : Nat} (hl : k < l.length) (hm : k < m.length) (h : l.take k = m.take k) (e : l[k] = m[k]) : l.take (k + 1) = m.take (k + 1) := by
  rw [List.take_succ_eq_append_getElem hl, List.take_succ_eq_append_getElem hm, h, e]

set_option maxRecDepth 100000 in
set_option maxHeartbeats 4000000 in
theorem SameW_any (l m : List Stp) (a a2 : Option Addr) (cap cap2 b : Nat) (w : World) (hb : b ≤ w.heap.size) (h : Rdw w b a l) (h2 : Rdw w b a2 m) (hl : l.length ≤ maxLen) (hm : m.length ≤ maxLen) :
    Calls Tryd.prog 15 #[.slice a l.length cap, .slice a2 m.length cap2] w fun e w' => e = .returned (.bool (decide (l = m))) ∧ Below w.heap.size w w' := by
  unfold maxLen at hl hm
  by_cases hlen : l.length = m.length
  · have HR : Hid (Rdw w b a l ∧ Rdw w b a2 m) := ⟨h, h2⟩
    clear h h2
    have hlen' : ((l.length : Int) != (m.length : Int)) = false := by simp [hlen]
    have HLEN : Hid (l.length = m.length) := hlen
    clear hlen
    go_enter Tryd.func15, Tryd.ntmps15
    go_wp2_with fail
    go_loopw [5] (fun i wr => ∃ k : Nat, k ≤ l.length ∧ i = .int .i64 k ∧ Hid (l.take k = m.take k) ∧ Hid (Below w.heap.size w wr)) (fun i _ => l.length - (intOf i).toNat)
    case atStart => exact ⟨0, by omega, rfl, rfl, Below.refl _ _⟩
    case round =>
      obtain ⟨k, hk, rfl, HK, HB⟩ := hrel
      by_cases hlt : k < l.length
      · have hlt2 : k < m.length := by rw [← HLEN.out]; exact hlt
        obtain ⟨g, o, rfl, hg, c0, c1, c2, hnm⟩ := (HR.out.1.on (HB.out.mono hb) (Nat.le_refl _)) k l[k] (List.getElem?_eq_getElem hlt)
        obtain ⟨g2, o2, rfl, hg2, d0, d1, d2, hnm2⟩ := (HR.out.2.on (HB.out.mono hb) (Nat.le_refl _)) k m[k] (List.getElem?_eq_getElem hlt2)
        have HS : Hid (l[k] = m[k] → l.take (k + 1) = m.take (k + 1)) := fun e => list_step hlt hlt2 HK.out e
        have HN : Hid (l[k] ≠ m[k] → decide (l = m) = false) := fun e => by
          rw [decide_eq_false_iff_not]
          intro he
          subst he
          exact e rfl
        generalize l[k] = x at c0 c1 c2 HS HN
        generalize m[k] = y at d0 d1 d2 HS HN
        clear hnm hnm2
        have hq := eq_st x y
        by_cases he : x = y
        · have HS' : Hid (l.take (k + 1) = m.take (k + 1)) := HS.out he
          have hd : decide (x = y) = true := decide_eq_true he
          clear he
          go_wp2_with fail
          go_quiet (fail)
          go_wp2_with fail
          go_roundw
          case rel => exact ⟨k + 1, by omega, by go_num, HS', HB.out.trans (below_drewN' _ _ _)⟩
          case measure => simp [intOf]; omega
        · have HN' : Hid (decide (l = m) = false) := HN.out he
          have hd : decide (x = y) = false := decide_eq_false he
          clear he
          go_wp2_with fail
          go_quiet (fail)
          go_wp2_with fail
          go_ret
          exact ⟨ret_bool HN'.out.symm, HB.out.trans (below_drewN' _ _ _)⟩
      · have HE : Hid (decide (l = m) = true) := by
          show _ = _
          rw [decide_eq_true_eq, ← List.take_of_length_le (i := k) (l := l) (by omega), ← List.take_of_length_le (i := k) (l := m) (by rw [← HLEN.out]; omega)]
          exact HK.out
        go_wp2_with fail
        go_ret
        exact ⟨ret_bool HE.out.symm, HB.out⟩
  · have H : Hid (decide (l = m) = false) := by show _ = _; rw [decide_eq_false_iff_not]; intro e; exact hlen (by rw [e])
    have hlen' : ((l.length : Int) != (m.length : Int)) = true := by simp; omega
    clear hlen
    go_enter Tryd.func15, Tryd.ntmps15
    go_wp2_with fail
    go_ret
    exact ⟨ret_bool H.out.symm, Below.refl _ _⟩
end Go.Proofs.YthnanblilofdpaaDoor
