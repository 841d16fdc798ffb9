/- tenonmake.plain and tenonmake.entries: the term of a value, made by appending. -/
import Derived.Test.YtnndlffidifddaaGreatDoorK27
import Derived.Test.YtnndlffidifddaaGreatDoorK26
namespace Go.Proofs.YtnndlffidifddaaGreatDoor
open Go.RowKit

def Tm.OkAt (t : Tm) (n : Int) : Prop := ∃ p d, (t.wk n p d).e = 0
def TmL.OkAt (l : TmL) (n : Int) : Prop := ∃ p d, (l.wk n p d).e = 0
def TmF.OkAt (l : TmF) (n : Int) : Prop := ∃ p d, (l.wk n p d).e = 0
theorem Tm.OkAt.ok {t : Tm} {n : Int} (h : t.OkAt n) : t.Ok := by obtain ⟨p, d, h⟩ := h; exact ⟨n, p, d, h⟩
theorem TmL.OkAt.head {t : Tm} {l : TmL} {n : Int} (h : TmL.OkAt (.cons t l) n) : t.OkAt n ∧ l.OkAt n := by
  obtain ⟨p, d, h⟩ := h
  rw [TmL.wk] at h
  by_cases e : (t.wk n p d).e ≠ 0
  · rw [if_pos e] at h; exact absurd h e
  · rw [if_neg e] at h; exact ⟨⟨p, d, Decidable.not_not.1 e⟩, ⟨_, _, h⟩⟩
theorem TmF.OkAt.head {m : ByteArray} {t : Tm} {l : TmF} {n : Int} (h : TmF.OkAt (.cons m t l) n) : t.OkAt n ∧ l.OkAt n := by
  obtain ⟨p, d, h⟩ := h
  rw [TmF.wk] at h
  by_cases e : (t.wk n p d).e ≠ 0
  · rw [if_pos e] at h; exact absurd h e
  · rw [if_neg e] at h; exact ⟨⟨p, d, Decidable.not_not.1 e⟩, ⟨_, _, h⟩⟩
theorem Tm.OkAt.parts {k : Int} {b : Bool} {i : Int} {f : Nat} {tx : ByteArray} {by' : ByteArray} {rf : Int} {l : TmL} {fs : TmF} {c : ByteArray} {v n : Int} (h : Tm.OkAt (.mk k b i f tx by' rf l fs c v) n) :
    n ≤ 64 ∧ (k = 8 → l.OkAt (n + 1)) ∧ (k = 9 ∨ k = 10 → fs.OkAt (n + 1)) := by
  obtain ⟨p, d, h⟩ := h
  rw [Tm.wk] at h
  by_cases e : (Tm.mk k b i f tx by' rf l fs c v).own p n ≠ 0
  · rw [if_pos e] at h; exact absurd h e
  · rw [if_neg e] at h
    have hz := Sp.ent_zero (Tm.own_ent _ _ _ (Decidable.not_not.1 e))
    refine ⟨hz.2.2.2, fun h8 => ?_, fun h9 => ?_⟩
    · rw [if_pos h8] at h; exact ⟨_, _, h⟩
    · rw [if_neg (by omega), if_pos h9] at h; exact ⟨_, _, h⟩

def PlC (N : Nat) : Prop := ∀ (t : Tm), t.sz ≤ N → ∀ (v : Value) (B : Nat → Prop) (w : World) (deep n : Int), t.V w B v → Sub B w → t.OkAt n → t.Bdd → 0 ≤ deep → deep ≤ n →
  Calls Tryz.prog 38 #[v, .int .i64 deep] w fun e w' => ∃ cs, e = .returned (.agg cs) ∧ Below w.heap.size w w' ∧ t.clean.In w' (Fr w w') cs
theorem PlC.at {N : Nat} (HC : PlC N) {t : Tm} (hN : t.sz ≤ N) {v : Value} {B : Nat → Prop} {w : World} {deep n : Int} (h : t.V w B v) (hB : Sub B w) (ho : t.OkAt n) (hb : t.Bdd) (h0 : 0 ≤ deep) (h1 : deep ≤ n) :
    ∀ W, Below w.heap.size w W → Calls Tryz.prog 38 #[v, .int .i64 deep] W fun e w' => ∃ k b i f tx ab nb cb rf al nl cl af nf cf c vr, e = .returned (.agg (tcells k b i f tx (.slice ab nb cb) rf (.slice al nl cl) (.slice af nf cf) c vr)) ∧ Below W.heap.size W w' ∧ t.clean.In w' (Fr W w') (tcells k b i f tx (.slice ab nb cb) rf (.slice al nl cl) (.slice af nf cf) c vr) := by
  intro W hW
  refine (HC t hN v B W deep n (t.V_same (hB.same hW) (fun _ h => h) v h) (hB.later hW) ho hb h0 h1).mono ?_
  rintro e w' ⟨cs, rfl, hb, hv⟩
  obtain ⟨k1, b1, i1, f1, tx1, ab1, nb1, cb1, rf1, al1, nl1, cl1, af1, nf1, cf1, cc1, vr1, rfl⟩ := Tm.In_tc' hv
  exact ⟨k1, b1, i1, f1, tx1, ab1, nb1, cb1, rf1, al1, nl1, cl1, af1, nf1, cf1, cc1, vr1, rfl, hb, hv⟩
end Go.Proofs.YtnndlffidifddaaGreatDoor

/- text.writer.value at lists, dicts, records: the closures, fields, and value itself by induction. -/
namespace Go.Proofs.YtnndlffidifddaaGreatDoor
open Go.RowKit

/-- what the library's tables hold, kept by whatever leaves the blocks below the writer -/
def EnvT (wb : Nat) (w : World) : Prop := Tab wb w ∧ 4 < wb ∧ Tz w
theorem EnvT.on {wb : Nat} {w w' : World} (h : EnvT wb w) (hw : Below wb w w') : EnvT wb w' := by
  refine ⟨h.1.on hw, h.2.1, ?_⟩
  have := h.2.2
  unfold Tz at this ⊢
  rw [hw.cell (p := ⟨4, 15, none⟩) h.2.1]; exact this

/-- a list's term at a place -/
theorem TmL.at_nth {w : World} {B : Nat → Prop} (ln : Bool) (q : Nat) : (l : TmL) → ∀ (a : Option Addr) (j i : Nat), l.V w B a j → i < l.len → ∃ (g o : Nat) (v : Value) (t : Tm), a = some ⟨g, o, none⟩ ∧ B g ∧ w.cell? ⟨g, o + (j + i), none⟩ = some v ∧ t.V w B v ∧ (l.texts ln q).getD i [] = t.txt ln q ∧ t.sz ≤ l.sz ∧ (∀ n, l.OkAt n → t.OkAt n) ∧ (l.Bdd → t.Bdd)
  | .nil, a, j, i, _, hi => by simp [TmL.len] at hi
  | .cons t l, a, j, i, h, hi => by
    simp only [TmL.V] at h
    obtain ⟨g, o, v, rfl, hg, hc, ht, hl⟩ := h
    cases i with
    | zero => exact ⟨g, o, v, t, rfl, hg, hc, ht, by simp [TmL.texts], by simp [TmL.sz]; omega, fun n hn => hn.head.1, fun hb => hb.1⟩
    | succ i =>
      obtain ⟨g2, o2, v2, t2, e, h1, h2, h3, h4, h5, h6, h7⟩ := TmL.at_nth ln q l _ (j + 1) i hl (by simp [TmL.len] at hi; omega)
      refine ⟨g2, o2, v2, t2, e, h1, by rw [show j + (i + 1) = j + 1 + i by omega]; exact h2, h3, by rw [TmL.texts, List.getD_cons_succ]; exact h4, by simp [TmL.sz]; omega, fun n hn => h6 n hn.head.2, fun hb => h7 hb.2⟩
theorem TmF.at_nth {w : World} {B : Nat → Prop} (ln : Bool) (q : Nat) : (l : TmF) → ∀ (a : Option Addr) (j i : Nat), l.V w B a j → i < l.len → ∃ (g o : Nat) (m : ByteArray) (v : Value) (t : Tm), a = some ⟨g, o, none⟩ ∧ B g ∧ w.cell? ⟨g, o + (j + i) * 2, none⟩ = some (.string m) ∧ w.cell? ⟨g, o + (j + i) * 2 + 1, none⟩ = some v ∧ t.V w B v ∧ (l.texts ln q).getD i [] = (m.data.toList ++ [58, 32]) ++ t.txt ln q ∧ t.sz ≤ l.sz ∧ (∀ n, l.OkAt n → t.OkAt n) ∧ (l.Bdd → t.Bdd) ∧ (l.Nm → m.size ≤ 32)
  | .nil, a, j, i, _, hi => by simp [TmF.len] at hi
  | .cons m t l, a, j, i, h, hi => by
    simp only [TmF.V] at h
    obtain ⟨g, o, v, rfl, hg, hc, hc1, hnl, ht, hl⟩ := h
    cases i with
    | zero => exact ⟨g, o, m, v, t, rfl, hg, hc, hc1, ht, by simp [TmF.texts], by simp [TmF.sz]; omega, fun n hn => hn.head.1, fun hb => hb.1, fun hm => hm.head.1⟩
    | succ i =>
      obtain ⟨g2, o2, m2, v2, t2, e, h1, h2, h2', h3, h4, h5, h6, h7, h8⟩ := TmF.at_nth ln q l _ (j + 1) i hl (by simp [TmF.len] at hi; omega)
      refine ⟨g2, o2, m2, v2, t2, e, h1, by rw [show j + (i + 1) = j + 1 + i by omega]; exact h2, by rw [show j + (i + 1) = j + 1 + i by omega]; exact h2', h3, by rw [TmF.texts, List.getD_cons_succ]; exact h4, by simp [TmF.sz]; omega, fun n hn => h6 n hn.head.2, fun hb => h7 hb.2, fun hm => h8 hm.head.2⟩

/-- the contract of value at terms of at most N parts -/
def ValC (N : Nat) : Prop := ∀ (t : Tm), t.sz ≤ N → ∀ (v : Value) (w : World) (wb : Nat) (ln : Bool) (d : Nat) (xs : List UInt8) (n : Int), t.V w (Lo wb) v → t.OkAt n → (d : Int) ≤ n → t.Bdd → Wt w wb ln d xs → EnvT wb w → xs.length + (t.txt ln d).length ≤ 17592180000000 →
  Calls Tryz.prog 32 #[.pointer (some ⟨wb, 0, none⟩), v] w (WtE wb ln d (xs ++ t.txt ln d) w)

set_option maxRecDepth 100000 in
set_option maxHeartbeats 2000000 in
/-- the closure that writes a list's value -/
theorem clL_any (t : Tm) (v : Value) (W : World) (wb b1 b2 g o i len cap : Nat) (ln : Bool) (d : Nat) (ys : List UInt8) (hi : i < len) (hx1 : W.heap[b1]? = some (.cells #[.pointer (some ⟨wb, 0, none⟩)] 94 (0, 0))) (hx2 : W.heap[b2]? = some (.cells #[.slice (some ⟨g, o, none⟩) len cap] 41 (0, 0))) (hc : W.cell? ⟨g, o + i, none⟩ = some v)
    (hv : ∀ W', Below W.heap.size W W' → Calls Tryz.prog 32 #[.pointer (some ⟨wb, 0, none⟩), v] W' (WtE wb ln d (ys ++ t.txt ln d) W')) :
    Calls Tryz.prog 50 #[.int .i64 (i : Int), .pointer (some ⟨b1, 0, none⟩), .pointer (some ⟨b2, 0, none⟩)] W (WtE wb ln d (ys ++ t.txt ln d) W) := by
  have x1 : W.cell? ⟨b1, 0, none⟩ = some (.pointer (some ⟨wb, 0, none⟩)) := by rw [Lib.cell_of_heap hx1]; rfl
  have x2 : W.cell? ⟨b2, 0, none⟩ = some (.slice (some ⟨g, o, none⟩) len cap) := by rw [Lib.cell_of_heap hx2]; rfl
  have HV : Hid (∀ W', Below W.heap.size W W' → Calls Tryz.prog 32 #[.pointer (some ⟨wb, 0, none⟩), v] W' (WtE wb ln d (ys ++ t.txt ln d) W')) := hv
  have hi0 : (0 : Int) ≤ (i : Int) := Int.natCast_nonneg _
  have hi1 : (i : Int) < (len : Int) := by omega
  clear hx1 hx2 hv hi
  go_enter Tryz.func50, Tryz.ntmps50
  go_wp2_with fail
  go_region_law ((go_simp; go_at_call 32; refine (HV.out _ ?_).mono ?_; exact (Below.refl _ _).drew; rintro e w4 ⟨rfl, hw4, hk4⟩; have HK4 : Hid (Wt w4 wb ln d (ys ++ t.txt ln d) ∧ Kw wb W w4) := ⟨hw4, (Kw.refl wb W).drew.trans hk4⟩; clear hw4 hk4; dsimp only))
  all_goals
    go_wp2_with fail
    go_end0
    exact ⟨rfl, HK4.out⟩

set_option maxRecDepth 100000 in
set_option maxHeartbeats 2000000 in
/-- the closure that writes a field -/
theorem clF_any (t : Tm) (m : ByteArray) (v : Value) (W : World) (wb b1 b2 g o i len cap : Nat) (ln : Bool) (d : Nat) (ys : List UInt8) (hi : i < len) (hx1 : W.heap[b1]? = some (.cells #[.pointer (some ⟨wb, 0, none⟩)] 94 (0, 0))) (hx2 : W.heap[b2]? = some (.cells #[.slice (some ⟨g, o, none⟩) len cap] 43 (0, 0))) (hn1 : b1 ≠ wb) (hn2 : b2 ≠ wb) (hg : g < wb) (hc : W.cell? ⟨g, o + i * 2, none⟩ = some (.string m)) (hc1 : W.cell? ⟨g, o + i * 2 + 1, none⟩ = some v) (hm : m.size ≤ 32) (hw : Wt W wb ln d ys) (hl : ys.length + (m.size + 2) ≤ 70368744170000)
    (hv : ∀ W', Kw wb W W' → Wt W' wb ln d (ys ++ (m.data.toList ++ [58, 32])) → Calls Tryz.prog 32 #[.pointer (some ⟨wb, 0, none⟩), v] W' (WtE wb ln d (ys ++ ((m.data.toList ++ [58, 32]) ++ t.txt ln d)) W')) :
    Calls Tryz.prog 76 #[.int .i64 (i : Int), .pointer (some ⟨b1, 0, none⟩), .pointer (some ⟨b2, 0, none⟩)] W (WtE wb ln d (ys ++ ((m.data.toList ++ [58, 32]) ++ t.txt ln d)) W) := by
  have HX : Hid (∀ W', Kw wb W W' → W'.cell? ⟨b1, 0, none⟩ = some (.pointer (some ⟨wb, 0, none⟩)) ∧ W'.cell? ⟨b2, 0, none⟩ = some (.slice (some ⟨g, o, none⟩) len cap) ∧ W'.cell? ⟨g, o + i * 2, none⟩ = some (.string m) ∧ W'.cell? ⟨g, o + i * 2 + 1, none⟩ = some v) := fun W' hW => by
    refine ⟨by rw [Lib.cell_of_heap (hW.box hx1 hn1 (by decide))]; rfl, by rw [Lib.cell_of_heap (hW.box hx2 hn2 (by decide))]; rfl, ?_, ?_⟩
    · rw [hW.below.cell (p := ⟨g, o + i * 2, none⟩) hg]; exact hc
    · rw [hW.below.cell (p := ⟨g, o + i * 2 + 1, none⟩) hg]; exact hc1
  obtain ⟨x1, x2, x3, x4⟩ := HX.out W (Kw.refl _ _)
  have hsz : (m ++ (⟨#[58, 32]⟩ : ByteArray)).size = m.size + 2 := by rw [ByteArray.size_append]; rfl
  have HA : Hid (∀ W', Below W.heap.size W W' → Calls Tryz.prog 44 #[.pointer (some ⟨wb, 0, none⟩), .string (m ++ ⟨#[58, 32]⟩)] W' (WtE wb ln d (ys ++ (m.data.toList ++ [58, 32])) W')) := fun W' hW => by
    have := add_any (m ++ ⟨#[58, 32]⟩) W' wb ln d ys (hw.on hW) (by rw [hsz]; omega)
    simpa using this
  have HV : Hid (∀ W', Kw wb W W' → Wt W' wb ln d (ys ++ (m.data.toList ++ [58, 32])) → Calls Tryz.prog 32 #[.pointer (some ⟨wb, 0, none⟩), v] W' (WtE wb ln d (ys ++ ((m.data.toList ++ [58, 32]) ++ t.txt ln d)) W')) := hv
  have hi0 : (0 : Int) ≤ (i : Int) := Int.natCast_nonneg _
  have hi1 : (i : Int) < (len : Int) := by omega
  have hcc : ¬ 9223372036854775807 < m.size + 2 := by omega
  clear hx1 hx2 hv hi hc hc1 hw hsz
  go_enter Tryz.func76, Tryz.ntmps76
  go_wp2_with fail
  go_region_law ((go_simp; go_at_call 44; refine (HA.out _ ?_).mono ?_; exact (Below.refl _ _).drew; rintro e w4 ⟨rfl, hw4, hk4⟩; have HK4 : Hid (Wt w4 wb ln d (ys ++ (m.data.toList ++ [58, 32])) ∧ Kw wb W w4) := ⟨hw4, (Kw.refl wb W).drew.trans hk4⟩; clear hw4 hk4 HA; dsimp only))
  all_goals
    clear x1 x2 x3 x4
    obtain ⟨x1, x2, x3, x4⟩ := HX.out w4 HK4.out.2
    go_wp2_with fail
    go_region_law ((go_simp; go_at_call 32; refine (HV.out _ ?_ ?_).mono ?_; exact HK4.out.2.drew; exact HK4.out.1.on (Below.refl _ _).drew; rintro e w5 ⟨rfl, hw5, hk5⟩; have HK5 : Hid (Wt w5 wb ln d (ys ++ ((m.data.toList ++ [58, 32]) ++ t.txt ln d)) ∧ Kw wb W w5) := ⟨hw5, HK4.out.2.drew.trans hk5⟩; clear hw5 hk5; dsimp only))
    all_goals
      go_wp2_with fail
      go_end0
      exact ⟨rfl, HK5.out⟩
end Go.Proofs.YtnndlffidifddaaGreatDoor

/- text.writer.fields, and value at lists, dicts, records. -/
namespace Go.Proofs.YtnndlffidifddaaGreatDoor
open Go.RowKit

/-- two boxes laid behind all -/
abbrev Wy (w : World) (wb : Nat) (v : Value) (T : TypeId) : World := (Wx w wb).alloc (.cells #[v] T)
theorem Wy.kw (w : World) (wb : Nat) (v : Value) (T : TypeId) (h : wb ≤ w.heap.size) : Kw wb w (Wy w wb v T) := (Wx.kw w wb h).alloc (by simp; omega) _
theorem Wy.b0 (w : World) (wb : Nat) (v : Value) (T : TypeId) : (Wy w wb v T).heap[w.heap.size]? = some (.cells #[.pointer (some ⟨wb, 0, none⟩)] 94 (0, 0)) := by
  rw [Below.heap_alloc _ _ _ (by simp)]; exact heap_alloc_new w _
theorem Wy.b1 (w : World) (wb : Nat) (v : Value) (T : TypeId) : (Wy w wb v T).heap[w.heap.size + 1]? = some (.cells #[v] T (0, 0)) := by
  have := heap_alloc_new (Wx w wb) (.cells #[v] T)
  simpa using this
theorem Wy.wt {w : World} {wb : Nat} {ln : Bool} {d : Nat} {xs : List UInt8} (h : Wt w wb ln d xs) (v : Value) (T : TypeId) : Wt (Wy w wb v T) wb ln d xs := (h.on ((Below.refl _ _).alloc (Nat.le_refl _) _)).on ((Below.refl _ _).alloc (Nat.le_refl _) _)

theorem brk_L (N : Nat) (HC : ValC N) (L : TmL) (hN : L.sz ≤ N) (al : Option Addr) (cl : Nat) (w : World) (wb : Nat) (ln : Bool) (d : Nat) (xs : List UInt8) (n : Int) (hv : L.V w (Lo wb) al 0) (hok : L.OkAt (n + 1)) (hd : (d : Int) ≤ n) (hn64 : n ≤ 64) (hbd : L.Bdd) (h : Wt w wb ln d xs) (he : EnvT wb w) (hll : L.len ≤ 4096) (hl : xs.length + (L.txtB ln d).length ≤ 17592180000000) :
    Calls Tryz.prog 49 #[.pointer (some ⟨wb, 0, none⟩), .string ⟨#[91]⟩, .string ⟨#[93]⟩, .int .i64 (L.len : Int), .func (.func 50) #[] #[.pointer (some ⟨w.heap.size, 0, none⟩), .pointer (some ⟨w.heap.size + 1, 0, none⟩)]] (Wy w wb (.slice al L.len cl) 41) (WtE wb ln d (xs ++ L.txtB ln d) (Wy w wb (.slice al L.len cl) 41)) := by
  have hlt := h.lt
  have e := TmL.texts_len ln (d + 1) L
  have hb : Below wb w (Wy w wb (.slice al L.len cl) 41) := (Wy.kw w wb _ _ (by omega)).below
  have key := bracketed_L ⟨#[91]⟩ ⟨#[93]⟩ (L.texts ln (d + 1)) w.heap.size (w.heap.size + 1) (Wy w wb (.slice al L.len cl) 41) wb ln d xs (Wy.wt h _ _) (by omega) (fun i W ys hi hKW hW hlen => by
    rw [e] at hi
    obtain ⟨g, o, v, t, rfl, hg, hc, ht, htx, hsz, hokt, hbt⟩ := L.at_nth ln (d + 1) _ 0 i hv hi
    rw [htx] at hlen ⊢
    have hbW : Below wb w W := hb.trans hKW.below
    refine clL_any t v W wb w.heap.size (w.heap.size + 1) g o i L.len cl ln (d + 1) ys hi (hKW.box (Wy.b0 w wb _ _) (by omega) (by decide)) (hKW.box (Wy.b1 w wb _ _) (by omega) (by decide)) ?_ (fun W' hW' => ?_)
    · rw [hbW.cell (p := ⟨g, o + i, none⟩) hg]; simpa using hc
    · have hz : wb ≤ W.heap.size := by have := hW.lt; omega
      have hb' : Below wb w W' := hbW.trans (hW'.mono hz)
      exact HC t (by omega) v W' wb ln (d + 1) ys (n + 1) (t.V_same (Same.of_below hb' (Nat.le_refl _)) (fun _ h => h) v ht) (hokt _ hok) (by omega) (hbt hbd) (hW.on hW') (he.on hb') hlen) (by omega) (by rw [TmL.brkd]; omega)
  rw [TmL.brkd, e] at key
  exact key

theorem brk_F (N : Nat) (HC : ValC N) (L : TmF) (hN : L.sz ≤ N) (al : Option Addr) (cl : Nat) (w : World) (wb : Nat) (ln : Bool) (d : Nat) (xs : List UInt8) (n : Int) (hv : L.V w (Lo wb) al 0) (hok : L.OkAt (n + 1)) (hd : (d : Int) ≤ n) (hn64 : n ≤ 64) (hbd : L.Bdd) (hnm : L.Nm) (h : Wt w wb ln d xs) (he : EnvT wb w) (hll : L.len ≤ 4096) (hl : xs.length + (L.txtB ln d).length ≤ 17592180000000) :
    Calls Tryz.prog 49 #[.pointer (some ⟨wb, 0, none⟩), .string ⟨#[123]⟩, .string ⟨#[125]⟩, .int .i64 (L.len : Int), .func (.func 76) #[] #[.pointer (some ⟨w.heap.size, 0, none⟩), .pointer (some ⟨w.heap.size + 1, 0, none⟩)]] (Wy w wb (.slice al L.len cl) 43) (WtE wb ln d (xs ++ L.txtB ln d) (Wy w wb (.slice al L.len cl) 43)) := by
  have hlt := h.lt
  have e := TmF.texts_len ln (d + 1) L
  have hb : Below wb w (Wy w wb (.slice al L.len cl) 43) := (Wy.kw w wb _ _ (by omega)).below
  have key := bracketed_F ⟨#[123]⟩ ⟨#[125]⟩ (L.texts ln (d + 1)) w.heap.size (w.heap.size + 1) (Wy w wb (.slice al L.len cl) 43) wb ln d xs (Wy.wt h _ _) (by omega) (fun i W ys hi hKW hW hlen => by
    rw [e] at hi
    obtain ⟨g, o, m, v, t, rfl, hg, hc, hc1, ht, htx, hsz, hokt, hbt, hms⟩ := L.at_nth ln (d + 1) _ 0 i hv hi
    rw [htx] at hlen ⊢
    have hm32 := hms hnm
    have hml : m.data.toList.length = m.size := by rw [Array.length_toList]; rfl
    simp only [List.length_append, List.length_cons, List.length_nil, hml] at hlen
    have hbW : Below wb w W := hb.trans hKW.below
    refine clF_any t m v W wb w.heap.size (w.heap.size + 1) g o i L.len cl ln (d + 1) ys hi (hKW.box (Wy.b0 w wb _ _) (by omega) (by decide)) (hKW.box (Wy.b1 w wb _ _) (by omega) (by decide)) (by omega) (by omega) hg ?_ ?_ hm32 hW (by omega) (fun W' hW' hWt => ?_)
    · rw [hbW.cell (p := ⟨g, o + i * 2, none⟩) hg]; simpa using hc
    · rw [hbW.cell (p := ⟨g, o + i * 2 + 1, none⟩) hg]; simpa using hc1
    · have hb' : Below wb w W' := hbW.trans hW'.below
      have := HC t (by omega) v W' wb ln (d + 1) (ys ++ (m.data.toList ++ [58, 32])) (n + 1) (t.V_same (Same.of_below hb' (Nat.le_refl _)) (fun _ h => h) v ht) (hokt _ hok) (by omega) (hbt hbd) hWt (he.on hb') (by simp only [List.length_append, List.length_cons, List.length_nil, hml]; omega)
      rw [List.append_assoc] at this
      exact this) (by omega) (by rw [TmF.brkd]; omega)
  rw [TmF.brkd, e] at key
  exact key

set_option maxRecDepth 100000 in
set_option maxHeartbeats 2000000 in
theorem wfields_any (N : Nat) (HC : ValC N) (L : TmF) (hN : L.sz ≤ N) (al : Option Addr) (cl : Nat) (w : World) (wb : Nat) (ln : Bool) (d : Nat) (xs : List UInt8) (n : Int) (hv : L.V w (Lo wb) al 0) (hok : L.OkAt (n + 1)) (hd : (d : Int) ≤ n) (hn64 : n ≤ 64) (hbd : L.Bdd) (hnm : L.Nm) (h : Wt w wb ln d xs) (he : EnvT wb w) (hll : L.len ≤ 4096) (hl : xs.length + (L.txtB ln d).length ≤ 17592180000000) :
    Calls Tryz.prog 51 #[.pointer (some ⟨wb, 0, none⟩), .slice al L.len cl] w (WtE wb ln d (xs ++ L.txtB ln d) w) := by
  have HB : Hid (Calls Tryz.prog 49 _ _ _) := brk_F N HC L hN al cl w wb ln d xs n hv hok hd hn64 hbd hnm h he hll hl
  have HK : Hid (Kw wb w (Wy w wb (.slice al L.len cl) 43)) := Wy.kw w wb _ _ (Nat.le_of_lt h.lt)
  clear HC hv hok hbd h he hnm hd hl
  go_enter Tryz.func51, Tryz.ntmps51
  go_wp2_with fail
  refine HB.out.mono ?_
  rintro e w1 ⟨rfl, hw1, hk1⟩
  have HK1 : Hid (Wt w1 wb ln d (xs ++ L.txtB ln d) ∧ Kw wb w w1) := ⟨hw1, HK.out.trans hk1⟩
  clear hw1 hk1
  go_wp2_with fail
  go_end0
  exact ⟨rfl, HK1.out⟩

set_option maxRecDepth 100000 in
set_option maxHeartbeats 2000000 in
theorem val_8 (N : Nat) (HC : ValC N) (L : TmL) (hN : L.sz ≤ N) (al : Option Addr) (cl : Nat) (w : World) (wb : Nat) (ln : Bool) (d : Nat) (xs : List UInt8) (n : Int) (hv : L.V w (Lo wb) al 0) (hok : L.OkAt (n + 1)) (hd : (d : Int) ≤ n) (hn64 : n ≤ 64) (hbd : L.Bdd) (h : Wt w wb ln d xs) (he : EnvT wb w) (hll : L.len ≤ 4096) (hl : xs.length + (L.txtB ln d).length ≤ 17592180000000) :
    Calls Tryz.prog 32 #[.pointer (some ⟨wb, 0, none⟩), .iface 41 (.slice al L.len cl)] w (WtE wb ln d (xs ++ L.txtB ln d) w) := by
  have HB : Hid (Calls Tryz.prog 49 _ _ _) := brk_L N HC L hN al cl w wb ln d xs n hv hok hd hn64 hbd h he hll hl
  have HK : Hid (Kw wb w (Wy w wb (.slice al L.len cl) 41)) := Wy.kw w wb _ _ (Nat.le_of_lt h.lt)
  clear HC hv hok hbd h he hd hl
  go_enter Tryz.func32, Tryz.ntmps32
  go_wp2_with fail
  refine HB.out.mono ?_
  rintro e w1 ⟨rfl, hw1, hk1⟩
  have HK1 : Hid (Wt w1 wb ln d (xs ++ L.txtB ln d) ∧ Kw wb w w1) := ⟨hw1, HK.out.trans hk1⟩
  clear hw1 hk1
  go_wp2_with fail
  go_end0
  exact ⟨rfl, HK1.out⟩

set_option maxRecDepth 100000 in
set_option maxHeartbeats 2000000 in
theorem val_9 (N : Nat) (HC : ValC N) (L : TmF) (hN : L.sz ≤ N) (al : Option Addr) (cl : Nat) (w : World) (wb : Nat) (ln : Bool) (d : Nat) (xs : List UInt8) (n : Int) (hv : L.V w (Lo wb) al 0) (hok : L.OkAt (n + 1)) (hd : (d : Int) ≤ n) (hn64 : n ≤ 64) (hbd : L.Bdd) (hnm : L.Nm) (h : Wt w wb ln d xs) (he : EnvT wb w) (hll : L.len ≤ 4096) (hl : xs.length + (L.txtB ln d).length ≤ 17592180000000) :
    Calls Tryz.prog 32 #[.pointer (some ⟨wb, 0, none⟩), .iface 43 (.slice al L.len cl)] w (WtE wb ln d (xs ++ L.txtB ln d) w) := by
  have HF : Hid (Calls Tryz.prog 51 #[.pointer (some ⟨wb, 0, none⟩), .slice al L.len cl] (Wx w wb) (WtE wb ln d (xs ++ L.txtB ln d) (Wx w wb))) := by
    have hk := h.later (Below.refl (Wx w wb).heap.size (Wx w wb))
    exact wfields_any N HC L hN al cl (Wx w wb) wb ln d xs n (L.V_same (Same.of_below hk.2.below (Nat.le_refl _)) (fun _ h => h) _ _ hv) hok hd hn64 hbd hnm hk.1 (he.on hk.2.below) hll hl
  have HK : Hid (Kw wb w (Wx w wb)) := Wx.kw w wb (Nat.le_of_lt h.lt)
  clear HC hv hok hbd h he hd hl hnm
  go_enter Tryz.func32, Tryz.ntmps32
  go_wp2_with fail
  refine HF.out.mono ?_
  rintro e w1 ⟨rfl, hw1, hk1⟩
  have HK1 : Hid (Wt w1 wb ln d (xs ++ L.txtB ln d) ∧ Kw wb w w1) := ⟨hw1, HK.out.trans hk1⟩
  clear hw1 hk1
  go_wp2_with fail
  go_end0
  exact ⟨rfl, HK1.out⟩
end Go.Proofs.YtnndlffidifddaaGreatDoor

/- text.writer.value at records, and at every value that can be; text.write, Print and Lines. -/
namespace Go.Proofs.YtnndlffidifddaaGreatDoor
open Go.RowKit

theorem grow_bel (w : World) (k : Nat) (os : Array Obj) : Below w.heap.size w (Go.Sort.grow (w.drewN k) os) :=
  ⟨rfl, rfl, rfl, by show w.heap.size ≤ (w.heap ++ os).size; simp, fun i hi => by show (w.heap ++ os)[i]? = w.heap[i]?; rw [Array.getElem?_append_left hi]⟩
theorem Itoa_tab (n : Int) (w : World) (h : Lib.TabIs Tryz.prog w "internal/strconv.uint64pow10" .u64 Lib.pow10Tab) (h0 : -9223372036854775808 ≤ n) (h1 : n ≤ 9223372036854775807) :
    Calls Tryz.prog 52 #[.int .i64 n] w fun e w' => e = .returned (.string ⟨(Lib.itoa n).toArray⟩) ∧ Below w.heap.size w w' := by
  refine (Tryz.strconv_Itoa n h0 h1 w h).mono ?_
  rintro e w' ⟨rfl, k, os, rfl⟩
  exact ⟨rfl, grow_bel w k os⟩
theorem itoa_pos {n : Int} (h : 0 ≤ n) : Lib.itoa n = Lib.decDigits n.toNat := by
  unfold Lib.itoa; rw [if_neg (by omega)]

set_option maxRecDepth 100000 in
set_option maxHeartbeats 4000000 in
theorem val_10 (N : Nat) (HC : ValC N) (L : TmF) (hN : L.sz ≤ N) (c : ByteArray) (vr : Int) (g : Nat) (al : Option Addr) (cl : Nat) (w : World) (wb : Nat) (ln : Bool) (d : Nat) (xs : List UInt8) (n : Int) (hg : g < wb) (c0 : w.cell? ⟨g, 0, none⟩ = some (.string c)) (c1 : w.cell? ⟨g, 1, none⟩ = some (.int .i64 vr)) (c2 : w.cell? ⟨g, 2, none⟩ = some (.slice al L.len cl)) (hc32 : c.size ≤ 32) (hvr : 1 ≤ vr ∧ vr ≤ 1000) (hv : L.V w (Lo wb) al 0) (hok : L.OkAt (n + 1)) (hd : (d : Int) ≤ n) (hn64 : n ≤ 64) (hbd : L.Bdd) (hnm : L.Nm) (h : Wt w wb ln d xs) (he : EnvT wb w) (hll : L.len ≤ 4096) (hl : xs.length + (c.data.toList ++ (47 :: Lib.decDigits vr.toNat) ++ L.txtB ln d).length ≤ 17592180000000) :
    Calls Tryz.prog 32 #[.pointer (some ⟨wb, 0, none⟩), .iface 45 (.pointer (some ⟨g, 0, none⟩))] w (WtE wb ln d (xs ++ (c.data.toList ++ (47 :: Lib.decDigits vr.toNat) ++ L.txtB ln d)) w) := by
  have hlt := h.lt
  obtain ⟨I, hI, HI⟩ : ∃ I : ByteArray, I.size ≤ 21 ∧ Hid (I = ⟨(Lib.itoa vr).toArray⟩) := ⟨_, by show (Lib.itoa vr).toArray.size ≤ 21; rw [List.size_toArray]; exact Lib.itoa_length_le vr (by omega) (by omega), rfl⟩
  have hIl : I.data.toList = Lib.decDigits vr.toNat := by rw [HI.out, itoa_pos (by omega)]
  have HIt : Hid (∀ W, Below (Wx w wb).heap.size (Wx w wb) W → Calls Tryz.prog 52 #[.int .i64 vr] W fun e w' => e = .returned (.string I) ∧ Below W.heap.size W w') := fun W hW => by
    rw [HI.out]
    exact Itoa_tab vr W (he.on (h.later hW).2.below).1.here (by omega) (by omega)
  have hsz : (c ++ (⟨#[47]⟩ : ByteArray) ++ I).size = c.size + 1 + I.size := by rw [ByteArray.size_append, ByteArray.size_append]; rfl
  have hdat : (c ++ (⟨#[47]⟩ : ByteArray) ++ I).data.toList = c.data.toList ++ (47 :: Lib.decDigits vr.toNat) := by rw [← hIl]; simp
  have HA : Hid (∀ W, Below (Wx w wb).heap.size (Wx w wb) W → Calls Tryz.prog 44 #[.pointer (some ⟨wb, 0, none⟩), .string (c ++ ⟨#[47]⟩ ++ I)] W (WtE wb ln d (xs ++ (c.data.toList ++ (47 :: Lib.decDigits vr.toNat))) W)) := fun W hW => by
    have := add_any (c ++ ⟨#[47]⟩ ++ I) W wb ln d xs (h.later hW).1 (by rw [hsz]; simp only [List.length_append] at hl; omega)
    rw [hdat] at this
    exact this
  have HF : Hid (∀ W, Kw wb w W → Wt W wb ln d (xs ++ (c.data.toList ++ (47 :: Lib.decDigits vr.toNat))) → Calls Tryz.prog 51 #[.pointer (some ⟨wb, 0, none⟩), .slice al L.len cl] W (WtE wb ln d (xs ++ (c.data.toList ++ (47 :: Lib.decDigits vr.toNat) ++ L.txtB ln d)) W)) := fun W hK hW => by
    have := wfields_any N HC L hN al cl W wb ln d _ n (L.V_same (Same.of_below hK.below (Nat.le_refl _)) (fun _ h => h) _ _ hv) hok hd hn64 hbd hnm hW (he.on hK.below) hll (by simp only [List.length_append] at hl ⊢; omega)
    rw [List.append_assoc] at this
    exact this
  have HX : Hid (∀ W, Below (Wx w wb).heap.size (Wx w wb) W → W.cell? ⟨w.heap.size, 0, none⟩ = some (.pointer (some ⟨wb, 0, none⟩)) ∧ W.cell? ⟨g, 0, none⟩ = some (.string c) ∧ W.cell? ⟨g, 1, none⟩ = some (.int .i64 vr)) := fun W hW => by
    have hb := (h.later hW).2.below
    refine ⟨by rw [hW.cell (p := ⟨w.heap.size, 0, none⟩) (by simp)]; simp, ?_, ?_⟩
    · rw [hb.cell (p := ⟨g, 0, none⟩) hg]; exact c0
    · rw [hb.cell (p := ⟨g, 1, none⟩) hg]; exact c1
  have HX5 : Hid (∀ W, Kw wb (Wx w wb) W → W.cell? ⟨w.heap.size, 0, none⟩ = some (.pointer (some ⟨wb, 0, none⟩)) ∧ W.cell? ⟨g, 2, none⟩ = some (.slice al L.len cl)) := fun W hK => by
    refine ⟨by rw [Lib.cell_of_heap (hK.box (heap_alloc_new w _) (by omega) (by decide))]; rfl, ?_⟩
    rw [((Wx.kw w wb (by omega)).below.trans hK.below).cell (p := ⟨g, 2, none⟩) hg]; exact c2
  have HW : Hid (Wt w wb ln d xs) := h
  obtain ⟨x0, x1, x2⟩ := HX.out _ (Below.refl _ _).drew
  have hcc1 : ¬ 9223372036854775807 < c.size + 1 := by omega
  have hcc2 : ¬ 9223372036854775807 < c.size + 1 + I.size := by omega
  have HKX : Hid (Kw wb w (Wx w wb)) := Wx.kw w wb (by omega)
  clear h HC hv hok hbd he hnm hl hsz hdat hIl HI c0 c1 c2
  go_enter Tryz.func32, Tryz.ntmps32
  go_wp2_with fail
  go_region_law ((first
    | (go_simp; go_at_call 52; refine (HIt.out _ ?_).mono ?_; exact (Below.refl _ _).drew; rintro e w4 ⟨rfl, hb4⟩; have HB4 : Hid (Below (Wx w wb).heap.size (Wx w wb) w4) := (Below.refl _ _).drew.trans hb4; obtain ⟨y0, y1, y2⟩ := HX.out w4 HB4.out; clear hb4 HIt; dsimp only)
    | (go_simp; go_at_call 44; refine (HA.out _ HB4.out).mono ?_; rintro e w5 ⟨rfl, hw5, hk5⟩; have HK5 : Hid (Wt w5 wb ln d (xs ++ (c.data.toList ++ (47 :: Lib.decDigits vr.toNat))) ∧ Kw wb w w5 ∧ Kw wb (Wx w wb) w5) := ⟨hw5, (HW.out.later HB4.out).2.trans hk5, Kw.trans ⟨HB4.out.mono (by simp; omega), fun k o hk0 _ _ => by rw [HB4.out.block k (Array.getElem?_eq_some_iff.1 hk0).1]; exact hk0⟩ hk5⟩; clear hw5 hk5; dsimp only)))
  all_goals
    obtain ⟨z0, z2⟩ := HX5.out w5 HK5.out.2.2
    clear x0 x1 x2 y0 y1 y2 HX HX5 HA HB4
    go_wp2_with fail
    go_region_law ((go_simp; go_at_call 51; refine (HF.out _ ?_ ?_).mono ?_; exact HK5.out.2.1.drew; exact HK5.out.1.on (Below.refl _ _).drew; rintro e w6 ⟨rfl, hw6, hk6⟩; have HK6 : Hid (Wt w6 wb ln d (xs ++ (c.data.toList ++ (47 :: Lib.decDigits vr.toNat) ++ L.txtB ln d)) ∧ Kw wb w w6) := ⟨hw6, HK5.out.2.1.drew.trans hk6⟩; clear hw6 hk6; dsimp only))
    all_goals
      go_wp2_with fail
      go_end0
      exact ⟨rfl, HK6.out⟩
end Go.Proofs.YtnndlffidifddaaGreatDoor

