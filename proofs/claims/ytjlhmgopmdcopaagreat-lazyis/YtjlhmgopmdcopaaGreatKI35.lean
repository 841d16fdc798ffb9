/- A ghost as an object: its abilities; object.Load of it. -/
import Derived.Test.YtjlhmgopmdcopaaGreatKI29
import Derived.Test.YtjlhmgopmdcopaaGreatKI23
import Derived.Test.YtjlhmgopmdcopaaGreatKI34
import Derived.Test.YtjlhmgopmdcopaaGreatKI27
import Derived.Test.YtjlhmgopmdcopaaGreatKI8
namespace Go.Proofs.YtjlhmgopmdcopaaGreat
open Go.RowKit

theorem Ab_ghost : Ab 36 9 where
  v2 := As2.yes Tryz.underlying103 (by kernel_rfl)
  v1 := As1.yes Tryz.underlying103 (by kernel_rfl)
  i2 := As2.no Tryz.underlying106 (by kernel_rfl) (by kernel_rfl)
  i1 := As1.no Tryz.underlying106 (by kernel_rfl)
  o2 := As2.no Tryz.underlying109 (by kernel_rfl) (by kernel_rfl)
  o1 := As1.no Tryz.underlying109 (by kernel_rfl)
  l2 := As2.yes Tryz.underlying76 (by kernel_rfl)
  l1 := As1.yes Tryz.underlying76 (by kernel_rfl)
  ob := As2.yes Tryz.underlying73 (by kernel_rfl)

/-- a ghost that is loaded with a term's record: all lies below the heap's end -/
def LG (w : World) (g : Nat) (id : Int) (fn : Value) (tm : Tm) : Prop := ∃ fb, (dctT tm.fields).all.e = 0 ∧ Gh w g (gc id fn false 0 tm.cOf tm.vOf (some ⟨fb, 0, none⟩)) ∧ Th w fb id tm.fields
theorem LG.keep {w w' : World} {g : Nat} {id : Int} {fn : Value} {tm : Tm} (h : LG w g id fn tm) (hb : Below w.heap.size w w') : LG w' g id fn tm := by
  obtain ⟨fb, h1, h2, h3⟩ := h
  exact ⟨fb, h1, h2.keep (hb.block g h2.lt), h3.keep hb⟩
theorem LG.lt {w : World} {g : Nat} {id : Int} {fn : Value} {tm : Tm} (h : LG w g id fn tm) : g < w.heap.size := by obtain ⟨fb, h1, h2, h3⟩ := h; exact h2.lt
section
variable {w : World} {g : Nat} {id : Int} {fn : Value} {tm : Tm}
theorem LG.loaded (h : LG w g id fn tm) : Calls Tryz.prog 19 #[.pointer (some ⟨g, 0, none⟩)] w fun e w' => e = .returned (.bool true) ∧ w = w' := by obtain ⟨fb, h1, h2, h3⟩ := h; exact Loaded_yes h2
theorem LG.asked (h : LG w g id fn tm) : Calls Tryz.prog 29 #[.pointer (some ⟨g, 0, none⟩)] w fun e w' => e = .returned (.tuple #[]) ∧ w = w' := by
  obtain ⟨fb, h1, h2, h3⟩ := h
  refine asked_of (er := 0) ((Load_has h2).mono ?_)
  rintro e w' ⟨rfl, rfl⟩
  exact ⟨rfl, h2.c7, rfl⟩
theorem LG.cls (h : LG w g id fn tm) : Calls Tryz.prog 11 #[.pointer (some ⟨g, 0, none⟩)] w fun e w' => e = .returned (.string tm.cOf) ∧ w = w' := Class_of h.asked fun w' e => by subst e; obtain ⟨fb, h1, h2, h3⟩ := h; exact h2.c4
theorem LG.ver (h : LG w g id fn tm) : Calls Tryz.prog 12 #[.pointer (some ⟨g, 0, none⟩)] w fun e w' => e = .returned (.int .i64 tm.vOf) ∧ w = w' := Version_of h.asked fun w' e => by subst e; obtain ⟨fb, h1, h2, h3⟩ := h; exact h2.c5
theorem LG.get (h : LG w g id fn tm) {J : Nat} {nm : ByteArray} {t : Tm} (hJ : tm.fields.nth J = some (nm, t)) : Calls Tryz.prog 20 #[.pointer (some ⟨g, 0, none⟩), .string nm] w fun e w' => ∃ v, e = .returned (.tuple #[v, .bool true]) ∧ Below w.heap.size w w' ∧ t.V w' (Fr w w') v := by
  refine (gGet_of (R := fun v k w' => k = true ∧ Below w.heap.size w w' ∧ t.V w' (Fr w w') v) h.asked ?_).mono ?_
  · rintro w' rfl
    obtain ⟨fb, h1, h2, h3⟩ := h
    obtain ⟨hgd, hnamed, hlen⟩ := dct_ok h1
    rw [TmF.names_len] at hlen
    refine ⟨_, h2.c6, (Get_th fb id tm.fields J nm t w h3 (Sp.named_up _ _ hnamed).1 hgd hlen hJ).mono ?_⟩
    rintro e w2 ⟨v, rfl, hb, hv⟩
    exact ⟨v, true, rfl, rfl, hb, hv⟩
  · rintro e w' ⟨v, k, rfl, rfl, hb, hv⟩
    exact ⟨v, rfl, hb, hv⟩

/-- how its methods are found -/
theorem mg_ed (g : Nat) (W : World) : (method 314 36 (.pointer (some ⟨g, 0, none⟩)) "Loaded").run Tryz.prog W = .ok (19, .pointer (some ⟨g, 0, none⟩)) W := by kernel_rfl
theorem mg_load (g : Nat) (W : World) : (method 314 36 (.pointer (some ⟨g, 0, none⟩)) "Load").run Tryz.prog W = .ok (51, .pointer (some ⟨g, 0, none⟩)) W := by kernel_rfl
theorem mg_cls (g : Nat) (W : World) : (method 314 36 (.pointer (some ⟨g, 0, none⟩)) "Class").run Tryz.prog W = .ok (11, .pointer (some ⟨g, 0, none⟩)) W := by kernel_rfl
theorem mg_ver (g : Nat) (W : World) : (method 314 36 (.pointer (some ⟨g, 0, none⟩)) "Version").run Tryz.prog W = .ok (12, .pointer (some ⟨g, 0, none⟩)) W := by kernel_rfl
theorem mg_get (g : Nat) (W : World) : (method 314 36 (.pointer (some ⟨g, 0, none⟩)) "Get").run Tryz.prog W = .ok (20, .pointer (some ⟨g, 0, none⟩)) W := by kernel_rfl

set_option maxRecDepth 100000 in
set_option maxHeartbeats 2000000 in
/-- object.Load's literal, of one that is loaded -/
theorem gLoad1_yes (p : Nat) (h : LG w g id fn tm) (hp : w.cell? ⟨p, 0, none⟩ = some (.iface 36 (.pointer (some ⟨g, 0, none⟩)))) :
    Calls Tryz.prog 28 #[.pointer (some ⟨p, 0, none⟩)] w fun e w' => e = .returned (.int .i64 0) ∧ w = w' := by
  have HL : Hid (Calls Tryz.prog 19 #[.pointer (some ⟨g, 0, none⟩)] w fun e w' => e = .returned (.bool true) ∧ w = w') := h.loaded
  have hm := mg_ed g
  clear h
  go_enter Tryz.func28, Tryz.ntmps28
  go_wp2_with fail
  refine HL.out.mono ?_
  rintro e w' ⟨rfl, rfl⟩
  go_wp2_with fail
  go_ret
  exact ⟨rfl, rfl⟩

set_option maxRecDepth 100000 in
set_option maxHeartbeats 2000000 in
/-- of one that is not -/
theorem gLoad1_no {la : Int} {cl : ByteArray} {vr why : Int} {R : World → Prop} (p : Nat) (h : Gh w g (gc id fn false la cl vr none)) (hp : w.cell? ⟨p, 0, none⟩ = some (.iface 36 (.pointer (some ⟨g, 0, none⟩))))
    (hl : Calls Tryz.prog 51 #[.pointer (some ⟨g, 0, none⟩)] w fun e w' => e = .returned (.int .i64 why) ∧ R w') :
    Calls Tryz.prog 28 #[.pointer (some ⟨p, 0, none⟩)] w fun e w' => e = .returned (.int .i64 why) ∧ R w' := by
  have HL : Hid (Calls Tryz.prog 19 #[.pointer (some ⟨g, 0, none⟩)] w fun e w' => e = .returned (.bool false) ∧ w = w') := Loaded_no h
  have HD : Hid (Calls Tryz.prog 51 #[.pointer (some ⟨g, 0, none⟩)] w fun e w' => e = .returned (.int .i64 why) ∧ R w') := hl
  have hm := mg_ed g
  have hm2 := mg_load g
  clear h hl
  go_enter Tryz.func28, Tryz.ntmps28
  go_wp2_with fail
  refine HL.out.mono ?_
  rintro e w' ⟨rfl, rfl⟩
  go_wp2_with fail
  refine HD.out.mono ?_
  rintro e w1 ⟨rfl, hr⟩
  have HR : Hid (R w1) := hr
  clear hr HD HL
  go_wp2_with fail
  go_ret
  exact ⟨rfl, HR.out⟩

theorem gsm (g : Nat) : Sm 36 (.pointer (some ⟨g, 0, none⟩)) := .inr (by decide)
theorem gAbilities (g : Nat) (w : World) : Calls Tryz.prog 9 #[.iface 36 (.pointer (some ⟨g, 0, none⟩))] w fun e w' => e = .returned (.tuple #[.int .i64 9, .int .i64 0]) ∧ w = w' := Abilities_bt Ab_ghost (gsm g) w

set_option maxRecDepth 100000 in
set_option maxHeartbeats 2000000 in
/-- object.Load of a ghost that is loaded -/
theorem oLoad_yes (h : LG w g id fn tm) : Calls Tryz.prog 10 #[.iface 36 (.pointer (some ⟨g, 0, none⟩))] w fun e w' => e = .returned (.int .i64 0) ∧ Below w.heap.size w w' := by
  have hmf : ∀ (fn : Fn) (first cap : Array Value) (w : World), (Instr.makeFunc fn first cap).run Tryz.prog w = .ok (.func fn first cap) w := fun _ _ _ _ => rfl
  have HS : Hid (∀ W, Calls Tryz.prog 24 #[.iface 36 (.pointer (some ⟨g, 0, none⟩))] W fun e w' => e = .returned (.int .i64 0) ∧ W = w') := fun W => holds_sm (gsm g) W
  have HA : Hid (∀ W, Calls Tryz.prog 26 #[.iface 36 (.pointer (some ⟨g, 0, none⟩))] W fun e w' => e = .returned (.tuple #[.iface 36 (.pointer (some ⟨g, 0, none⟩)), .bool true]) ∧ W = w') := fun W => as_Lazy Ab_ghost _ W
  have HG : Hid (∀ W, W = w.alloc (.cells #[.iface 36 (.pointer (some ⟨g, 0, none⟩))] 76) → Calls Tryz.prog 27 #[.func (.func 28) #[] #[.pointer (some ⟨w.heap.size, 0, none⟩)]] W fun e w' => e = .returned (.int .i64 0) ∧ Below w.heap.size w w') := by
    intro W hW
    have hz : W.heap.size = w.heap.size + 1 := by subst hW; simp only [World.size_alloc]
    have hb : Below w.heap.size w W := by subst hW; exact (Below.refl _ _).alloc (Nat.le_refl _) _
    have g0 : W.heap[w.heap.size]? = some (.cells #[.iface 36 (.pointer (some ⟨g, 0, none⟩))] 76) := by subst hW; exact heap_alloc_last _ _
    clear hW
    refine answered_any _ _ 0 W (fun w' => Below w.heap.size w w') (fun W => by kernel_rfl) (fun X Y hXY hX => hX.trans (hXY.mono (by omega))) (fun W1 hb1 => ?_)
    have k0 := (hb1.block w.heap.size (by omega)).trans g0
    have hwb : Below w.heap.size w W1 := hb.trans (hb1.mono (by omega))
    refine (gLoad1_yes w.heap.size (h.keep hwb) (by rw [cell_of_row _ _ 0 _ _ _ k0]; rfl)).mono ?_
    rintro e w' ⟨rfl, rfl⟩
    exact ⟨rfl, fun _ _ _ => rfl, hwb⟩
  clear h
  go_enter Tryz.func10, Tryz.ntmps10
  go_wp2_with (first | (go_at_call 24; refine (HS.out _).mono ?_; rintro e w' ⟨rfl, rfl⟩) | (go_at_call 26; refine (HA.out _).mono ?_; rintro e w' ⟨rfl, rfl⟩))
  refine (HG.out _ rfl).mono ?_
  rintro e w1 ⟨rfl, hb⟩
  have HB : Hid (Below w.heap.size w w1) := hb
  clear hb HG
  go_wp2_with fail
  go_ret
  exact ⟨rfl, HB.out⟩
end
end Go.Proofs.YtjlhmgopmdcopaaGreat

/- The fetch of LazyIs; object.Load of its ghost before it is loaded; Class and Version of one that can't load. -/
namespace Go.Proofs.YtjlhmgopmdcopaaGreat
open Go.RowKit

/-- the box of the record that the fetch answers: it lies elsewhere than the ghost -/
structure RI (w : World) (g q : Nat) (rv : Option Addr) (tm : Tm) : Prop where
  box : w.heap[q]? = some (.cells #[.pointer rv] 31)
  ne : q ≠ g
  val : tm.V w (Vg g w) (.iface 31 (.pointer rv))
theorem RI.keep {w w' : World} {g q : Nat} {rv : Option Addr} {tm : Tm} (h : RI w g q rv tm) (hk : Kx (· = g) w w') : RI w' g q rv tm :=
  ⟨(hk.block q (Array.getElem?_eq_some_iff.1 h.box).1 h.ne).trans h.box, h.ne, tm.V_same (fun _ hk2 => hk.block _ hk2.1 hk2.2) (fun _ hk2 => ⟨Nat.lt_of_lt_of_le hk2.1 hk.size, hk2.2⟩) _ h.val⟩

set_option maxRecDepth 100000 in
set_option maxHeartbeats 2000000 in
theorem is1_any (q : Nat) (rv : Option Addr) (id : Int) (w : World) (h : w.heap[q]? = some (.cells #[.pointer rv] 31)) :
    Calls Tryz.prog 8 #[.int .u64 id, .pointer (some ⟨q, 0, none⟩)] w fun e w' => e = .returned (.tuple #[.pointer rv, .int .i64 0]) ∧ w = w' := by
  have c0 : w.cell? ⟨q, 0, none⟩ = some (.pointer rv) := by rw [cell_of_row _ _ 0 _ _ _ h]; rfl
  clear h
  go_enter Tryz.func8, Tryz.ntmps8
  go_wp2_with fail
  go_ret2
  exact ⟨rfl, rfl⟩

def isF (q : Nat) : Value := .func (.func 8) #[] #[.pointer (some ⟨q, 0, none⟩)]
section
variable {w : World} {g q : Nat} {rv : Option Addr} {tm : Tm} {la : Int}
theorem is_fet (h : RI w g q rv tm) : Fet 8 #[] #[.pointer (some ⟨q, 0, none⟩)] g 9 0 0 0 tm (fun _ => False) (fun _ => True) w := by
  refine ⟨fun W => by kernel_rfl, fun j hj => hj.elim, fun _ _ _ _ h => h, fun W hW h5 => ?_⟩
  have hR := h.keep hW
  refine Calls.mono (R := fun e w' => e = .returned (.tuple #[.pointer rv, .int .i64 0]) ∧ W = w') (is1_any q rv 9 W hR.box) ?_
  rintro e w' ⟨rfl, rfl⟩
  exact ⟨.inl ⟨rfl, rfl, rv, rfl, fun _ => tm.V_same (fun k hk => hW.block k hk.1 hk.2) (fun k hk => ⟨Nat.lt_of_lt_of_le hk.1 hW.size, hk.2, .inl hk.1⟩) _ h.val⟩, Kx.refl _ _, trivial⟩

theorem is_load_ok (hG : Gh w g (gc 9 (isF q) false la ⟨#[]⟩ 0 none)) (h : RI w g q rv tm) (he : tm.all.e = 0) :
    Calls Tryz.prog 51 #[.pointer (some ⟨g, 0, none⟩)] w fun e w' => e = .returned (.int .i64 0) ∧ Kx (· = g) w w' ∧ GL w' (Fr w w') g 9 (isF q) 0 tm := by
  refine (Load_ok (by decide) hG (is_fet h) (by simp [whyOf, he])).mono ?_
  rintro e w' ⟨rfl, h1, _, h2⟩
  exact ⟨rfl, h1.mono fun j hj => hj.elim (fun h => h.elim) id, h2⟩
theorem is_load_bad (hG : Gh w g (gc 9 (isF q) false la ⟨#[]⟩ 0 none)) (h : RI w g q rv tm) (he : tm.all.e ≠ 0) :
    Calls Tryz.prog 51 #[.pointer (some ⟨g, 0, none⟩)] w fun e w' => e = .returned (.int .i64 tm.all.e) ∧ Kx (· = g) w w' ∧ Gh w' g (gc 9 (isF q) false tm.all.e ⟨#[]⟩ 0 none) := by
  have hw : whyOf 0 0 tm = tm.all.e := by simp [whyOf]
  have := Load_bad hG (is_fet h) (by rw [hw]; exact he)
  rw [hw] at this
  refine this.mono ?_
  rintro e w' ⟨rfl, h1, _, h2⟩
  exact ⟨rfl, h1.mono fun j hj => hj.elim (fun h => h.elim) id, h2⟩

/-- what Load leaves -/
def After (w : World) (g q : Nat) (tm : Tm) (w' : World) : Prop :=
  Kx (· = g) w w' ∧ (tm.all.e = 0 → GL w' (Fr w w') g 9 (isF q) 0 tm) ∧ (tm.all.e ≠ 0 → Gh w' g (gc 9 (isF q) false tm.all.e ⟨#[]⟩ 0 none))
theorem is_load (hG : Gh w g (gc 9 (isF q) false la ⟨#[]⟩ 0 none)) (h : RI w g q rv tm) :
    Calls Tryz.prog 51 #[.pointer (some ⟨g, 0, none⟩)] w fun e w' => e = .returned (.int .i64 tm.all.e) ∧ After w g q tm w' := by
  by_cases he : tm.all.e = 0
  · refine (is_load_ok hG h he).mono ?_
    rintro e w' ⟨rfl, h1, h2⟩
    exact ⟨by rw [he], h1, fun _ => h2, fun h => absurd he h⟩
  · refine (is_load_bad hG h he).mono ?_
    rintro e w' ⟨rfl, h1, h2⟩
    exact ⟨rfl, h1, fun h => absurd h he, fun _ => h2⟩
theorem After.keep {X Y : World} (h : After w g q tm X) (hg : g < X.heap.size) (hb2 : Below X.heap.size X Y) : After w g q tm Y := by
  refine ⟨h.1.trans (.of hb2), fun he => ?_, fun he => (h.2.2 he).keep (hb2.block g hg)⟩
  obtain ⟨fb, a, b, c⟩ := h.2.1 he
  exact ⟨fb, a, b.keep (hb2.block g hg), c.keep (fun k hk => hb2.block k hk.2) (fun k hk => ⟨hk.1, Nat.lt_of_lt_of_le hk.2 hb2.size⟩)⟩

theorem is_cls (hG : Gh w g (gc 9 (isF q) false la ⟨#[]⟩ 0 none)) (h : RI w g q rv tm) (he : tm.all.e ≠ 0) :
    Calls Tryz.prog 11 #[.pointer (some ⟨g, 0, none⟩)] w fun e w' => e = .returned (.string ⟨#[]⟩) ∧ Kx (· = g) w w' ∧ Gh w' g (gc 9 (isF q) false tm.all.e ⟨#[]⟩ 0 none) := by
  refine Class_of (asked_of (er := tm.all.e) ((is_load_bad hG h he).mono ?_)) (fun w' h => h.2.c4)
  rintro e w' ⟨rfl, h1, h2⟩
  exact ⟨rfl, h2.c7, h1, h2⟩
theorem is_ver (hG : Gh w g (gc 9 (isF q) false la ⟨#[]⟩ 0 none)) (h : RI w g q rv tm) (he : tm.all.e ≠ 0) :
    Calls Tryz.prog 12 #[.pointer (some ⟨g, 0, none⟩)] w fun e w' => e = .returned (.int .i64 0) ∧ Kx (· = g) w w' ∧ Gh w' g (gc 9 (isF q) false tm.all.e ⟨#[]⟩ 0 none) := by
  refine Version_of (asked_of (er := tm.all.e) ((is_load_bad hG h he).mono ?_)) (fun w' h => h.2.c5)
  rintro e w' ⟨rfl, h1, h2⟩
  exact ⟨rfl, h2.c7, h1, h2⟩
end

theorem answered_safe2 (f : Nat) (cap : Array Value) (k : Int) (w W : World) (Q : World → Prop) (hcf : ∀ W, Sem.run Tryz.prog (callFunc f cap) W = .ok (.enter f cap) W) (hQ : ∀ X Y, Kx (fun j => w.heap.size ≤ j ∧ j < w.heap.size + 4) X Y → Q X → Q Y)
    (HC : ∀ W1, Below w.heap.size w W1 → W1.heap.size = w.heap.size + 4 → Calls Tryz.prog f cap W1 fun e w' => e = .returned (.int .i64 k) ∧ (∀ j, w.heap.size ≤ j → j < W1.heap.size → w'.heap[j]? = W1.heap[j]?) ∧ Q w')
    (hW : W = (w.alloc (.cells #[.func (.func f) #[] cap] 62)).alloc (.cells #[.int .i64 0] 33)) :
    Calls Tryz.prog 49 #[.func (.func 50) #[] #[.pointer (some ⟨w.heap.size, 0, none⟩), .pointer (some ⟨w.heap.size + 1, 0, none⟩)]] W fun e w' => e = .returned (.int .i64 0) ∧ w'.cell? ⟨w.heap.size + 1, 0, none⟩ = some (.int .i64 k) ∧ Q w' := by
  have hs : W.heap.size = w.heap.size + 2 := by subst hW; simp only [World.size_alloc]
  have hb : Below w.heap.size w W := by subst hW; exact ((Below.refl _ _).alloc (Nat.le_refl _) _).alloc (by simp) _
  have g0 : W.heap[w.heap.size]? = some (.cells #[.func (.func f) #[] cap] 62) := by subst hW; exact al2_old _ _ _
  have g1 : W.heap[w.heap.size + 1]? = some (.cells #[.int .i64 0] 33) := by subst hW; exact al2_new _ _ _
  clear hW
  refine (safely_ok2 _ _ W (fun w' => w'.cell? ⟨w.heap.size + 1, 0, none⟩ = some (.int .i64 k) ∧ Q w') (fun W => by kernel_rfl) ?_ ?_)
  · intro X Y hXY ⟨h1, h2⟩
    rw [hs] at hXY
    exact ⟨(World.cell?_of_block (w := X) (hXY.block (w.heap.size + 1) (by omega) (by omega))).trans h1, hQ X Y ⟨hXY.os, hXY.tape, hXY.output, by rw [hXY.size]; exact Nat.le_refl _, fun j _ hj => hXY.block j (by omega) (by omega)⟩ h2⟩
  · intro W1 hb1 hs1
    rw [hs] at hb1 hs1
    have k0 := (hb1.block w.heap.size (by omega)).trans g0
    have k1 := (hb1.block (w.heap.size + 1) (by omega)).trans g1
    have hwb : Below w.heap.size w W1 := hb.trans (hb1.mono (by omega))
    refine (answered_1_any f cap k w.heap.size W1 (fun w' => Q w' ∧ ∀ j, w.heap.size ≤ j → j < W1.heap.size → w'.heap[j]? = W1.heap[j]?) hcf (by rw [cell_of_row _ _ 0 _ _ _ k0]; rfl) (by rw [cell_of_row _ _ 0 _ _ _ k1]; rfl) (frozen_of_row _ _ 0 _ _ k1) ((HC W1 hwb (by omega)).mono fun e w' ⟨h1, h2, h3⟩ => ⟨h1, h2 _ (by omega) (by omega), h3, h2⟩)).mono ?_
    rintro e w' ⟨rfl, w1, ⟨hq1, hk1⟩, hb2, hx, rfl⟩
    refine ⟨.inl ⟨rfl, rfl, rfl⟩, ?_, ?_, ?_, ?_⟩
    · rw [hs]; exact (Below.heap_setCell _ _ _ _ (by show w.heap.size + 2 ≠ w.heap.size + 1; omega)).trans (hk1 _ (by omega) (by omega))
    · rw [hs]; exact (Below.heap_setCell _ _ _ _ (by show w.heap.size + 2 + 1 ≠ w.heap.size + 1; omega)).trans (hk1 _ (by omega) (by omega))
    · exact sc_eq' hx
    · exact hQ _ _ ((Kx.refl _ w1).set (c := w.heap.size + 1) (.inl ⟨by omega, by omega⟩) _) hq1

set_option maxRecDepth 100000 in
set_option maxHeartbeats 2000000 in
theorem answered_any2 (f : Nat) (cap : Array Value) (k : Int) (w : World) (Q : World → Prop) (hcf : ∀ W, Sem.run Tryz.prog (callFunc f cap) W = .ok (.enter f cap) W) (hQ : Hid (∀ X Y, Kx (fun j => w.heap.size ≤ j ∧ j < w.heap.size + 4) X Y → Q X → Q Y))
    (HC : Hid (∀ W1, Below w.heap.size w W1 → W1.heap.size = w.heap.size + 4 → Calls Tryz.prog f cap W1 fun e w' => e = .returned (.int .i64 k) ∧ (∀ j, w.heap.size ≤ j → j < W1.heap.size → w'.heap[j]? = W1.heap[j]?) ∧ Q w')) :
    Calls Tryz.prog 27 #[.func (.func f) #[] cap] w fun e w' => e = .returned (.int .i64 k) ∧ Q w' := by
  have hmf : ∀ (fn : Fn) (first cap : Array Value) (w : World), (Instr.makeFunc fn first cap).run Tryz.prog w = .ok (.func fn first cap) w := fun _ _ _ _ => rfl
  have HS : Hid (∀ W, W = _ → _) := fun W hW => answered_safe2 f cap k w W Q hcf hQ.out HC.out hW
  clear hcf hQ HC
  go_enter Tryz.func27, Tryz.ntmps27
  go_wp2_with fail
  refine (HS.out _ rfl).mono ?_
  rintro e w1 ⟨rfl, c1, hq1⟩
  have HQ : Hid (Q w1) := hq1
  clear hq1 HS
  go_wp2_with fail
  go_ret
  exact ⟨rfl, HQ.out⟩

section
variable {w : World} {g q : Nat} {rv : Option Addr} {tm : Tm} {la : Int}
set_option maxRecDepth 100000 in
set_option maxHeartbeats 2000000 in
/-- object.Load of a ghost that is not loaded -/
theorem oLoad_no (hG : Gh w g (gc 9 (isF q) false la ⟨#[]⟩ 0 none)) (h : RI w g q rv tm) : Calls Tryz.prog 10 #[.iface 36 (.pointer (some ⟨g, 0, none⟩))] w fun e w' => e = .returned (.int .i64 tm.all.e) ∧ After w g q tm w' := by
  have hmf : ∀ (fn : Fn) (first cap : Array Value) (w : World), (Instr.makeFunc fn first cap).run Tryz.prog w = .ok (.func fn first cap) w := fun _ _ _ _ => rfl
  have HS : Hid (∀ W, Calls Tryz.prog 24 #[.iface 36 (.pointer (some ⟨g, 0, none⟩))] W fun e w' => e = .returned (.int .i64 0) ∧ W = w') := fun W => holds_sm (gsm g) W
  have HA : Hid (∀ W, Calls Tryz.prog 26 #[.iface 36 (.pointer (some ⟨g, 0, none⟩))] W fun e w' => e = .returned (.tuple #[.iface 36 (.pointer (some ⟨g, 0, none⟩)), .bool true]) ∧ W = w') := fun W => as_Lazy Ab_ghost _ W
  have HG : Hid (∀ W, W = w.alloc (.cells #[.iface 36 (.pointer (some ⟨g, 0, none⟩))] 76) → Calls Tryz.prog 27 #[.func (.func 28) #[] #[.pointer (some ⟨w.heap.size, 0, none⟩)]] W fun e w' => e = .returned (.int .i64 tm.all.e) ∧ After w g q tm w') := by
    intro W hW
    have hgl := hG.lt
    have hz : W.heap.size = w.heap.size + 1 := by subst hW; simp only [World.size_alloc]
    have hb : Below w.heap.size w W := by subst hW; exact (Below.refl _ _).alloc (Nat.le_refl _) _
    have g0 : W.heap[w.heap.size]? = some (.cells #[.iface 36 (.pointer (some ⟨g, 0, none⟩))] 76) := by subst hW; exact heap_alloc_last _ _
    clear hW
    refine (answered_any2 _ _ tm.all.e W (fun w' => Kx (· = g) w w' ∧ (tm.all.e = 0 → GL w' (fun j => W.heap.size + 4 ≤ j ∧ j < w'.heap.size) g 9 (isF q) 0 tm) ∧ (tm.all.e ≠ 0 → Gh w' g (gc 9 (isF q) false tm.all.e ⟨#[]⟩ 0 none))) (fun W => by kernel_rfl) ?_ (fun W1 hb1 hs1 => ?_)).mono ?_
    · intro X Y hXY ⟨h1, h2, h3⟩
      have hgX : g < X.heap.size := Nat.lt_of_lt_of_le hgl h1.size
      have hgY : Y.heap[g]? = X.heap[g]? := hXY.block g hgX (fun h => by omega)
      refine ⟨h1.back hXY (fun j hj => .inr (by omega)), fun he => ?_, fun he => (h3 he).keep hgY⟩
      obtain ⟨fb, a, b, c⟩ := h2 he
      exact ⟨fb, a, b.keep hgY, c.keep (fun k hk => hXY.block k hk.2 (fun h => by have := hk.1; omega)) (fun k hk => ⟨hk.1, Nat.lt_of_lt_of_le hk.2 hXY.size⟩)⟩
    · have k0 := (hb1.block w.heap.size (by omega)).trans g0
      have hwb : Below w.heap.size w W1 := hb.trans (hb1.mono (by omega))
      have hG1 : Gh W1 g (gc 9 (isF q) false la ⟨#[]⟩ 0 none) := hG.keep (hwb.block g hgl)
      refine (gLoad1_no w.heap.size hG1 (by rw [cell_of_row _ _ 0 _ _ _ k0]; rfl) (is_load hG1 (h.keep (.of hwb)))).mono ?_
      rintro e w' ⟨rfl, h1, h2, h3⟩
      refine ⟨rfl, fun j hj1 hj2 => h1.block j hj2 (by omega), (Kx.of hwb).trans h1, fun he => ?_, h3⟩
      obtain ⟨fb, a, b, c⟩ := h2 he
      exact ⟨fb, a, b, c.keep (Same.refl _ _) (fun k hk => ⟨by have := hk.1; omega, hk.2⟩)⟩
    · rintro e w' ⟨rfl, h1, h2, h3⟩
      refine ⟨rfl, h1, fun he => ?_, h3⟩
      obtain ⟨fb, a, b, c⟩ := h2 he
      exact ⟨fb, a, b, c.keep (Same.refl _ _) (fun k hk => ⟨by have := hk.1; omega, hk.2⟩)⟩
  clear h hG
  generalize tm.all.e = ec at HG ⊢
  go_enter Tryz.func10, Tryz.ntmps10
  go_wp2_with (first | (go_at_call 24; refine (HS.out _).mono ?_; rintro e w' ⟨rfl, rfl⟩) | (go_at_call 26; refine (HA.out _).mono ?_; rintro e w' ⟨rfl, rfl⟩))
  refine (HG.out _ rfl).mono ?_
  rintro e w1 ⟨rfl, hb⟩
  have HB : Hid (After w g q tm w1) := hb
  clear hb HG
  go_wp2_with fail
  go_ret
  exact ⟨rfl, HB.out⟩
end
end Go.Proofs.YtjlhmgopmdcopaaGreat

/- object.versionOf and VersionOf of a ghost that is loaded. -/
namespace Go.Proofs.YtjlhmgopmdcopaaGreat
open Go.RowKit

theorem setC_size (X : World) (p : Addr) (v : Value) : (X.setCell p v).heap.size = X.heap.size := by simp [World.setCell]
def rc3 (c : ByteArray) (v : Int) : Array Value := #[.string c, .int .i64 v, .slice none 0 0]
section
variable {w : World} {g : Nat} {id : Int} {fn : Value} {tm : Tm}
set_option maxRecDepth 100000 in
set_option maxHeartbeats 2000000 in
theorem gver1 (p q : Nat) (h : LG w g id fn tm) (hp : w.cell? ⟨p, 0, none⟩ = some (.iface 36 (.pointer (some ⟨g, 0, none⟩)))) (hr : w.heap[q]? = some (.cells (rc3 ⟨#[]⟩ 0) 59)) :
    Calls Tryz.prog 77 #[.pointer (some ⟨p, 0, none⟩), .pointer (some ⟨q, 0, none⟩)] w fun e w' => e = .returned (.tuple #[]) ∧ w'.heap[q]? = some (.cells (rc3 tm.cOf tm.vOf) 59) ∧ Kx (· = q) w w' ∧ w'.heap.size = w.heap.size := by
  have hd : LG w.drew g id fn tm := h.keep (Below.refl _ _).drew
  have HC : Hid (Calls Tryz.prog 11 #[.pointer (some ⟨g, 0, none⟩)] w.drew fun e w' => e = .returned (.string tm.cOf) ∧ w.drew = w') := hd.cls
  have HV : Hid (Calls Tryz.prog 12 #[.pointer (some ⟨g, 0, none⟩)] w.drew fun e w' => e = .returned (.int .i64 tm.vOf) ∧ w.drew = w') := hd.ver
  have m1 := mg_cls g
  have m2 := mg_ver g
  have hrd : w.drew.heap[q]? = some (.cells (rc3 ⟨#[]⟩ 0) 59) := hr
  obtain ⟨X1, hX1⟩ : ∃ X, w.drew.setCell ⟨q, 0, none⟩ (.string tm.cOf) = X := ⟨_, rfl⟩
  obtain ⟨X2, hX2⟩ : ∃ X, X1.setCell ⟨q, 1, none⟩ (.int .i64 tm.vOf) = X := ⟨_, rfl⟩
  have r1 : X1.heap[q]? = some (.cells (rc3 tm.cOf 0) 59) := by rw [← hX1, setCell_eq_setRow _ _ _ _ _ _ _ hrd]; exact setRow_heap _ _ _ _ _ _ hrd
  have r2 : X2.heap[q]? = some (.cells (rc3 tm.cOf tm.vOf) 59) := by rw [← hX2, setCell_eq_setRow _ _ _ _ _ _ _ r1]; exact setRow_heap _ _ _ _ _ _ r1
  have HR : Hid (X2.heap[q]? = some (.cells (rc3 tm.cOf tm.vOf) 59) ∧ Kx (· = q) w X2 ∧ X2.heap.size = w.heap.size) := ⟨r2, by rw [← hX2, ← hX1]; exact (Kx.setg (Kx.refl _ w).drew _).setg _, by rw [← hX2, ← hX1, setC_size, setC_size]; rfl⟩
  have c0 : w.drew.cell? ⟨q, 0, none⟩ = some (.string ⟨#[]⟩) := by rw [cell_of_row _ _ 0 _ _ _ hrd]; rfl
  have z0 : w.drew.frozen? ⟨q, 0, none⟩ = false := frozen_of_row _ _ 0 _ _ hrd
  have c1 : X1.cell? ⟨q, 1, none⟩ = some (.int .i64 0) := by rw [cell_of_row _ _ 1 _ _ _ r1]; rfl
  have z1 : X1.frozen? ⟨q, 1, none⟩ = false := frozen_of_row _ _ 1 _ _ r1
  generalize tm.cOf = cc at HC hX1 HR ⊢
  generalize tm.vOf = vv at HV hX2 HR ⊢
  clear h hd r1 r2 hr hrd
  go_enter Tryz.func77, Tryz.ntmps77
  go_wp2_with fail
  go_region_with (first | (go_at_call 11; refine HC.out.mono ?_; rintro e w' ⟨rfl, rfl⟩) | (go_at_call 12; refine HV.out.mono ?_; rintro e w' ⟨rfl, rfl⟩))
  all_goals
    go_wp2_with fail
    go_end0
    exact ⟨rfl, HR.out⟩

/-- a record without fields -/
def recN (c : ByteArray) (v : Int) : Tm := .mk 10 false 0 0 ByteArray.empty ByteArray.empty 0 .nil .nil c v
theorem recN_e {c : ByteArray} {v : Int} (h : Sp.headR c v = 0) : (recN c v).all.e = 0 := by
  show ((recN c v).wk 1 0 0).e = 0
  unfold recN
  rw [Tm.wk_10 (by decide) h]
  rfl
theorem headR_sz {c : ByteArray} {v : Int} (h : Sp.headR c v = 0) : c.size ≤ 32 := by
  unfold Sp.headR at h
  split at h
  · cases h
  · rename_i hn
    simp [Sp.isNm] at hn
    omega
theorem recN_V {W : World} {B : Nat → Prop} {rb : Nat} {c : ByteArray} {v : Int} (hc : c.size ≤ 32) (hr : W.heap[rb]? = some (.cells (rc3 c v) 59)) (hB : B rb) : (recN c v).V W B (.iface 31 (.pointer (some ⟨rb, 0, none⟩))) := by
  refine Tm.V_of10 (a := none) (cap := 0) hB (by rw [cell_of_row _ _ 0 _ _ _ hr]; rfl) (by rw [cell_of_row _ _ 1 _ _ _ hr]; rfl) (by rw [cell_of_row _ _ 2 _ _ _ hr]; rfl) (by unfold maxLen; omega) ⟨⟨_, hr⟩, ⟨by decide, ⟨[], rfl, .inl ⟨rfl, rfl⟩⟩, fun g o q e => by cases e⟩, ?_⟩
  simp only [TmF.V]

theorem gver_safe (h : LG w g id fn tm) (W : World) (hW : W = (w.alloc (.cells #[.iface 36 (.pointer (some ⟨g, 0, none⟩))] 103)).alloc (.cells (rc3 ⟨#[]⟩ 0) 59)) :
    Calls Tryz.prog 49 #[.func (.func 77) #[] #[.pointer (some ⟨w.heap.size, 0, none⟩), .pointer (some ⟨w.heap.size + 1, 0, none⟩)]] W fun e w' => e = .returned (.int .i64 0) ∧ w'.heap[w.heap.size + 1]? = some (.cells (rc3 tm.cOf tm.vOf) 59) ∧ Below w.heap.size w w' := by
  have hs : W.heap.size = w.heap.size + 2 := by subst hW; simp only [World.size_alloc]
  have hb : Below w.heap.size w W := by subst hW; exact ((Below.refl _ _).alloc (Nat.le_refl _) _).alloc (by simp) _
  have g0 : W.heap[w.heap.size]? = some (.cells #[.iface 36 (.pointer (some ⟨g, 0, none⟩))] 103) := by subst hW; exact al2_old _ _ _
  have g1 : W.heap[w.heap.size + 1]? = some (.cells (rc3 ⟨#[]⟩ 0) 59) := by subst hW; exact al2_new _ _ _
  have hgl := h.lt
  clear hW
  refine safely_ok2 _ _ W (fun w' => w'.heap[w.heap.size + 1]? = some (.cells (rc3 tm.cOf tm.vOf) 59) ∧ Below w.heap.size w w') (fun W => by kernel_rfl) ?_ ?_
  · intro X Y hk ⟨h1, h2⟩
    rw [hs] at hk
    exact ⟨(hk.block _ (by omega) (by omega)).trans h1, h2.trans ⟨hk.os, hk.tape, hk.output, by rw [hk.size]; exact Nat.le_refl _, fun j hj => hk.block j (by omega) (by omega)⟩⟩
  · intro W1 hb1 hs1
    rw [hs] at hb1 hs1
    have hwb : Below w.heap.size w W1 := hb.trans (hb1.mono (by omega))
    refine (gver1 w.heap.size (w.heap.size + 1) (h.keep hwb) (by rw [cell_of_row _ _ 0 _ _ _ ((hb1.block _ (by omega)).trans g0)]; rfl) ((hb1.block _ (by omega)).trans g1)).mono ?_
    rintro e w' ⟨rfl, h1, h2, h3⟩
    refine ⟨.inl ⟨rfl, rfl, rfl⟩, ?_, ?_, h1, hwb.trans (h2.below (fun j hj => by omega) (by omega))⟩
    · rw [hs]; exact h2.block _ (by omega) (by omega)
    · rw [hs]; exact h2.block _ (by omega) (by omega)

set_option maxRecDepth 100000 in
set_option maxHeartbeats 2000000 in
theorem gversionOf (h : LG w g id fn tm) (hh : Sp.headR tm.cOf tm.vOf = 0) : Calls Tryz.prog 57 #[.iface 36 (.pointer (some ⟨g, 0, none⟩))] w fun e w' => e = .returned (.tuple #[.string tm.cOf, .int .i64 tm.vOf, .int .i64 0]) ∧ Below w.heap.size w w' := by
  have hmf : ∀ (fn : Fn) (first cap : Array Value) (w : World), (Instr.makeFunc fn first cap).run Tryz.prog w = .ok (.func fn first cap) w := fun _ _ _ _ => rfl
  have HS : Hid (∀ W, W = _ → _) := fun W hW => gver_safe h W hW
  have HC : Hid (∀ W, W.heap[w.heap.size + 1]? = some (.cells (rc3 tm.cOf tm.vOf) 59) → Calls Tryz.prog 6 #[.iface 31 (.pointer (some ⟨w.heap.size + 1, 0, none⟩))] W fun e w' => e = .returned (.tuple #[.int .i64 (recN tm.cOf tm.vOf).cAt, .int .i64 0]) ∧ Below W.heap.size W w') := fun W hW => by
    have := Check_any (recN tm.cOf tm.vOf) _ W.heap.size W (Nat.le_refl _) (recN_V (headR_sz hh) hW (Array.getElem?_eq_some_iff.1 hW).1)
    rw [recN_e hh] at this; exact this
  clear h hh
  generalize tm.cOf = cc at HS HC ⊢
  generalize tm.vOf = vv at HS HC ⊢
  generalize (recN cc vv).cAt = at0 at HC
  unfold rc3 at HS HC
  go_enter Tryz.func57, Tryz.ntmps57
  go_wp2_with fail
  refine (HS.out _ rfl).mono ?_
  rintro e w1 ⟨rfl, r1, hb1⟩
  have HB1 : Hid (Below w.heap.size w w1 ∧ w1.heap[w.heap.size + 1]? = some (.cells #[.string cc, .int .i64 vv, .slice none 0 0] 59)) := ⟨hb1, r1⟩
  clear r1 hb1 HS
  go_wp2_with fail
  refine (HC.out w1 HB1.out.2).mono ?_
  rintro e w2 ⟨rfl, hb2⟩
  have r2 : w2.heap[w.heap.size + 1]? = some (.cells #[.string cc, .int .i64 vv, .slice none 0 0] 59) := (hb2.block _ (Array.getElem?_eq_some_iff.1 HB1.out.2).1).trans HB1.out.2
  have c0 : w2.cell? ⟨w.heap.size + 1, 0, none⟩ = some (.string cc) := by rw [cell_of_row _ _ 0 _ _ _ r2]; rfl
  have c1 : w2.cell? ⟨w.heap.size + 1, 1, none⟩ = some (.int .i64 vv) := by rw [cell_of_row _ _ 1 _ _ _ r2]; rfl
  have HB2 : Hid (Below w.heap.size w w2.drew) := (HB1.out.1.trans (hb2.mono HB1.out.1.size)).drew
  clear hb2 r2 HC
  go_wp2_with fail
  go_region
  generalize w2.drew = w3 at HB2 ⊢
  go_wp2_with fail
  go_ret3
  exact ⟨rfl, HB2.out⟩

set_option maxRecDepth 100000 in
set_option maxHeartbeats 2000000 in
theorem gVersionOf (h : LG w g id fn tm) (hh : Sp.headR tm.cOf tm.vOf = 0) : Calls Tryz.prog 32 #[.iface 36 (.pointer (some ⟨g, 0, none⟩))] w fun e w' => e = .returned (.tuple #[.string tm.cOf, .int .i64 tm.vOf, .bool true, .int .i64 0]) ∧ Below w.heap.size w w' := by
  have HS : Hid (∀ W, Calls Tryz.prog 24 #[.iface 36 (.pointer (some ⟨g, 0, none⟩))] W fun e w' => e = .returned (.int .i64 0) ∧ W = w') := fun W => holds_sm (gsm g) W
  have HA : Hid (∀ W, Calls Tryz.prog 56 #[.iface 36 (.pointer (some ⟨g, 0, none⟩))] W fun e w' => e = .returned (.tuple #[.iface 36 (.pointer (some ⟨g, 0, none⟩)), .bool true]) ∧ W = w') := fun W => as_Versioned Ab_ghost _ W
  have HV : Hid (Calls Tryz.prog 57 #[.iface 36 (.pointer (some ⟨g, 0, none⟩))] w fun e w' => e = .returned (.tuple #[.string tm.cOf, .int .i64 tm.vOf, .int .i64 0]) ∧ Below w.heap.size w w') := gversionOf h hh
  clear h hh
  go_enter Tryz.func32, Tryz.ntmps32
  go_wp2_with (first | (go_at_call 24; refine (HS.out _).mono ?_; rintro e w' ⟨rfl, rfl⟩) | (go_at_call 56; refine (HA.out _).mono ?_; rintro e w' ⟨rfl, rfl⟩))
  refine HV.out.mono ?_
  rintro e w1 ⟨rfl, hb⟩
  have HB : Hid (Below w.heap.size w w1) := hb
  clear hb HV
  go_wp2_with fail
  exact bodyPost_ret (v := .tuple #[.string tm.cOf, .int .i64 tm.vOf, .bool true, .int .i64 0]) (by simp [results, Tryz.results32, go_sem] <;> rfl) rfl ⟨rfl, HB.out⟩
end
end Go.Proofs.YtjlhmgopmdcopaaGreat

/- object.got and Ask of a ghost that is loaded, for a name that it has. -/
namespace Go.Proofs.YtjlhmgopmdcopaaGreat
open Go.RowKit

set_option maxRecDepth 100000 in
set_option maxHeartbeats 2000000 in
theorem got_1_gh (b : Nat) (id : Int) (fn : Value) (tm : Tm) (J : Nat) (nm : ByteArray) (t : Tm) (p : Nat) (w : World) (hT : LG w b id fn tm) (hJ : tm.fields.nth J = some (nm, t)) (c0 : w.cell? ⟨p, 0, none⟩ = some (.iface 36 (.pointer (some ⟨b, 0, none⟩)))) (c1 : w.cell? ⟨p + 1, 0, none⟩ = some (.string nm)) (c2 : w.cell? ⟨p + 2, 0, none⟩ = some .nilIface) (c3 : w.cell? ⟨p + 3, 0, none⟩ = some (.bool false)) (z2 : w.frozen? ⟨p + 2, 0, none⟩ = false) (z3 : w.frozen? ⟨p + 3, 0, none⟩ = false) :
    Calls Tryz.prog 101 #[.pointer (some ⟨p, 0, none⟩), .pointer (some ⟨p + 1, 0, none⟩), .pointer (some ⟨p + 2, 0, none⟩), .pointer (some ⟨p + 3, 0, none⟩)] w fun e w' => e = .returned (.tuple #[]) ∧ ∃ v w1, Below w.heap.size w w1 ∧ t.V w1 (Fr w w1) v ∧ w' = (w1.setCell ⟨p + 2, 0, none⟩ v).setCell ⟨p + 3, 0, none⟩ (.bool true) := by
  have HG : Hid (Calls Tryz.prog 20 #[.pointer (some ⟨b, 0, none⟩), .string nm] w fun e w' => ∃ v, e = .returned (.tuple #[v, .bool true]) ∧ Below w.heap.size w w' ∧ t.V w' (Fr w w') v) := hT.get hJ
  have hmm := mg_get b
  have HL : Hid (p + 3 < w.heap.size) := World.block_lt_of_cell? _ _ c3
  clear hT hJ
  go_enter Tryz.func101, Tryz.ntmps101
  go_wp2_with fail
  refine HG.out.mono ?_
  rintro e w1 ⟨v, rfl, hb1, hv⟩
  have HB1 : Hid (Below w.heap.size w w1) := hb1
  have hif := V_if hv
  have HV : Hid (t.V w1 (Fr w w1) v) := hv
  have d2 : w1.cell? ⟨p + 2, 0, none⟩ = some .nilIface := by rw [hb1.cell (p := ⟨p + 2, 0, none⟩) (by have := HL.out; show p + 2 < _; omega)]; exact c2
  have d3 : w1.cell? ⟨p + 3, 0, none⟩ = some (.bool false) := by rw [hb1.cell (p := ⟨p + 3, 0, none⟩) HL.out]; exact c3
  have y2 : w1.frozen? ⟨p + 2, 0, none⟩ = false := by rw [hb1.frozen (p := ⟨p + 2, 0, none⟩) (by have := HL.out; show p + 2 < _; omega)]; exact z2
  have y3 : w1.frozen? ⟨p + 3, 0, none⟩ = false := by rw [hb1.frozen (p := ⟨p + 3, 0, none⟩) HL.out]; exact z3
  have d3' : ∀ v, (w1.setCell ⟨p + 2, 0, none⟩ v).cell? ⟨p + 3, 0, none⟩ = some (.bool false) := fun v => by rw [World.cell?_setCell_other _ _ _ _ (by intro e; injection e with e1 _; omega)]; exact d3
  clear hb1 HG c0 c1 c2 c3 z2 z3 hv
  rcases hif with rfl | ⟨T, x, rfl⟩
  · go_wp2_with fail
    go_end0
    exact ⟨rfl, _, w1, HB1.out, HV.out, rfl⟩
  · go_wp2_with fail
    go_end0
    exact ⟨rfl, _, w1, HB1.out, HV.out, rfl⟩

theorem got_safe_gh (b : Nat) (id : Int) (fn : Value) (tm : Tm) (J : Nat) (nm : ByteArray) (t : Tm) (w W : World) (hT : LG w b id fn tm) (hJ : tm.fields.nth J = some (nm, t)) (hW : W = (((w.alloc (.cells #[.iface 36 (.pointer (some ⟨b, 0, none⟩))] 73)).alloc (.cells #[.string nm] 9)).alloc (.cells #[.nilIface] 20)).alloc (.cells #[.bool false] 4)) :
    Calls Tryz.prog 49 #[.func (.func 101) #[] #[.pointer (some ⟨w.heap.size, 0, none⟩), .pointer (some ⟨w.heap.size + 1, 0, none⟩), .pointer (some ⟨w.heap.size + 2, 0, none⟩), .pointer (some ⟨w.heap.size + 3, 0, none⟩)]] W fun e w' => e = .returned (.int .i64 0) ∧ ∃ v, w'.cell? ⟨w.heap.size + 2, 0, none⟩ = some v ∧ w'.cell? ⟨w.heap.size + 3, 0, none⟩ = some (.bool true) ∧ Below w.heap.size w w' ∧ t.V w' (Lo w'.heap.size) v := by
  have hs : W.heap.size = w.heap.size + 4 := by subst hW; simp only [World.size_alloc]
  have hb : Below w.heap.size w W := by subst hW; exact ((((Below.refl _ _).alloc (Nat.le_refl _) _).alloc (by simp only [World.size_alloc]; omega) _).alloc (by simp only [World.size_alloc]; omega) _).alloc (by simp only [World.size_alloc]; omega) _
  obtain ⟨g0, g1, g2, g3⟩ := al4 w (.cells #[.iface 36 (.pointer (some ⟨b, 0, none⟩))] 73) (.cells #[.string nm] 9) (.cells #[.nilIface] 20) (.cells #[.bool false] 4)
  rw [← hW] at g0 g1 g2 g3
  clear hW
  refine ((safely_ok2 _ _ W (fun w' => ∃ v S, w'.cell? ⟨w.heap.size + 2, 0, none⟩ = some v ∧ w'.cell? ⟨w.heap.size + 3, 0, none⟩ = some (.bool true) ∧ Below w.heap.size w w' ∧ t.V w' S v ∧ ∀ k, S k → w.heap.size + 6 ≤ k ∧ k < w'.heap.size) (fun W => by kernel_rfl) ?_ ?_)).mono ?_
  · intro X Y hXY ⟨v, S, h1, h2, h3, h4, h5⟩
    rw [hs] at hXY
    refine ⟨v, S, ?_, ?_, h3.trans ⟨hXY.os, hXY.tape, hXY.output, Nat.le_of_eq hXY.size.symm, fun j hj => hXY.block j (by omega) (by omega)⟩, t.V_same (fun k hk => hXY.block k (by have := h5 k hk; omega) (by have := h5 k hk; omega)) (fun _ h => h) v h4, fun k hk => by have := h5 k hk; rw [hXY.size]; exact this⟩
    · rw [World.cell?_of_block (w := X) (hXY.block (w.heap.size + 2) (by omega) (by omega))]; exact h1
    · rw [World.cell?_of_block (w := X) (hXY.block (w.heap.size + 3) (by omega) (by omega))]; exact h2
  · intro W1 hb1 hs1
    rw [hs] at hb1 hs1
    have k0 := (hb1.block w.heap.size (by omega)).trans g0
    have k1 := (hb1.block (w.heap.size + 1) (by omega)).trans g1
    have k2 := (hb1.block (w.heap.size + 2) (by omega)).trans g2
    have k3 := (hb1.block (w.heap.size + 3) (by omega)).trans g3
    have hwb : Below w.heap.size w W1 := hb.trans (hb1.mono (by omega))
    refine (got_1_gh b id fn tm J nm t w.heap.size W1 (hT.keep hwb) hJ (by rw [cell_of_row _ _ 0 _ _ _ k0]; rfl) (by rw [cell_of_row _ _ 0 _ _ _ k1]; rfl) (by rw [cell_of_row _ _ 0 _ _ _ k2]; rfl) (by rw [cell_of_row _ _ 0 _ _ _ k3]; rfl) (frozen_of_row _ _ 0 _ _ k2) (frozen_of_row _ _ 0 _ _ k3)).mono ?_
    rintro e w' ⟨rfl, v, w1, hb2, hv, rfl⟩
    have c2 : w1.cell? ⟨w.heap.size + 2, 0, none⟩ = some .nilIface := by rw [hb2.cell (p := ⟨w.heap.size + 2, 0, none⟩) (by show w.heap.size + 2 < _; omega), cell_of_row _ _ 0 _ _ _ k2]; rfl
    have c3 : w1.cell? ⟨w.heap.size + 3, 0, none⟩ = some (.bool false) := by rw [hb2.cell (p := ⟨w.heap.size + 3, 0, none⟩) (by show w.heap.size + 3 < _; omega), cell_of_row _ _ 0 _ _ _ k3]; rfl
    have hk : ∀ j (u v : Value), j ≠ w.heap.size + 2 → j ≠ w.heap.size + 3 → ((w1.setCell ⟨w.heap.size + 2, 0, none⟩ u).setCell ⟨w.heap.size + 3, 0, none⟩ v).heap[j]? = w1.heap[j]? := fun j u v h2 h3 => (Below.heap_setCell _ _ _ _ h3).trans (Below.heap_setCell _ _ _ _ h2)
    refine ⟨.inl ⟨rfl, rfl, rfl⟩, ?_, ?_, v, Fr W1 w1, ?_, ?_, ?_, ?_, ?_⟩
    · rw [hs]; exact (hk _ _ _ (by omega) (by omega)).trans (hb2.block _ (by omega))
    · rw [hs]; exact (hk _ _ _ (by omega) (by omega)).trans (hb2.block _ (by omega))
    · rw [World.cell?_setCell_other _ _ _ _ (by intro e; injection e with e1 _; omega)]; exact sc_eq' c2
    · exact sc_eq' (by rw [World.cell?_setCell_other _ _ _ _ (by intro e; injection e with e1 _; omega)]; exact c3)
    · exact ((hwb.trans (hb2.mono (by omega))).setCell (p := ⟨w.heap.size + 2, 0, none⟩) (by show _ ≤ w.heap.size + 2; omega) _).setCell (p := ⟨w.heap.size + 3, 0, none⟩) (by show _ ≤ w.heap.size + 3; omega) _
    · exact t.V_same (fun k hk2 => hk k _ _ (by have := hk2.1; omega) (by have := hk2.1; omega)) (fun _ h => h) v hv
    · intro k hk2
      exact ⟨by have := hk2.1; omega, by have := hk2.2; simpa [World.setCell] using this⟩
  · rintro e w' ⟨rfl, v, S, h1, h2, h3, h4, h5⟩
    exact ⟨rfl, v, h1, h2, h3, t.V_same (Same.refl _ _) (fun k hk => (h5 k hk).2) v h4⟩
set_option maxRecDepth 100000 in
set_option maxHeartbeats 2000000 in
theorem got_gh (b : Nat) (id : Int) (fn : Value) (tm : Tm) (J : Nat) (nm : ByteArray) (t : Tm) (w : World) (hT : LG w b id fn tm) (hJ : tm.fields.nth J = some (nm, t)) :
    Calls Tryz.prog 78 #[.iface 36 (.pointer (some ⟨b, 0, none⟩)), .string nm] w fun e w' => ∃ v, e = .returned (.tuple #[v, .bool true, .int .i64 0]) ∧ Below w.heap.size w w' ∧ t.V w' (Fr w w') v := by
  have hmf : ∀ (fn : Fn) (first cap : Array Value) (w : World), (Instr.makeFunc fn first cap).run Tryz.prog w = .ok (.func fn first cap) w := fun _ _ _ _ => rfl
  have HS : Hid (∀ W, W = _ → _) := fun W hW => got_safe_gh b id fn tm J nm t w W hT hJ hW
  have HC : Hid (∀ W v, t.V W (Lo W.heap.size) v → Calls Tryz.prog 64 #[v] W fun e w' => ∃ v', e = .returned (.tuple #[v', .int .i64 0]) ∧ Below W.heap.size W w' ∧ t.V w' (Fr W w') v') := fun W v hv => Copy_ok t v W.heap.size W (Nat.le_refl _) hv (tm.fields.nth_gd J nm t (by obtain ⟨_, he, _⟩ := hT; exact (dct_ok he).1) hJ)
  clear hT hJ
  go_enter Tryz.func78, Tryz.ntmps78
  go_wp2_with fail
  refine (HS.out _ rfl).mono ?_
  rintro e w1 ⟨rfl, v, c2, c3, hb1, hv⟩
  have HB1 : Hid (Below w.heap.size w w1 ∧ t.V w1 (Lo w1.heap.size) v) := ⟨hb1, hv⟩
  replace c2 : w1.cell? ⟨w.heap.size + 1 + 1, 0, none⟩ = some v := c2
  replace c3 : w1.cell? ⟨w.heap.size + 1 + 1 + 1, 0, none⟩ = some (.bool true) := c3
  clear hb1 hv HS
  go_wp2_with fail
  refine (HC.out _ _ HB1.out.2).mono ?_
  rintro e w2 ⟨v', rfl, hb2, hv2⟩
  have HR : Hid (Below w.heap.size w w2 ∧ t.V w2 (Fr w w2) v') := ⟨HB1.out.1.trans (hb2.mono HB1.out.1.size), t.V_same (Same.refl _ _) (fun k hk => ⟨Nat.le_trans HB1.out.1.size hk.1, hk.2⟩) v' hv2⟩
  clear hb2 hv2 c2 c3
  go_wp2_with fail
  go_ret3
  exact ⟨v', rfl, HR.out⟩

set_option maxRecDepth 100000 in
set_option maxHeartbeats 2000000 in
theorem Ask_gh (b : Nat) (id : Int) (fn : Value) (tm : Tm) (J : Nat) (nm : ByteArray) (t : Tm) (w : World) (hT : LG w b id fn tm) (hJ : tm.fields.nth J = some (nm, t)) (hn : Sp.isNm nm = true) :
    Calls Tryz.prog 58 #[.iface 36 (.pointer (some ⟨b, 0, none⟩)), .string nm] w fun e w' => ∃ v, e = .returned (.tuple #[v, .bool true, .int .i64 0]) ∧ Below w.heap.size w w' ∧ t.V w' (Fr w w') v := by
  have hsz : nm.size ≤ 32 := by simp [Sp.isNm] at hn; omega
  have HS : Hid (∀ W, Calls Tryz.prog 24 #[.iface 36 (.pointer (some ⟨b, 0, none⟩))] W fun e w' => e = .returned (.int .i64 0) ∧ W = w') := fun W => holds_sm (gsm b) W
  have HN : Hid (∀ W, Calls Tryz.prog 55 #[.string nm] W fun e w' => e = .returned (.bool true) ∧ W = w') := fun W => by have := isName_any nm W (by unfold maxLen; omega); rw [hn] at this; exact this
  have HL : Hid (Calls Tryz.prog 10 #[.iface 36 (.pointer (some ⟨b, 0, none⟩))] w fun e w' => e = .returned (.int .i64 0) ∧ Below w.heap.size w w') := oLoad_yes hT
  have HG : Hid (∀ W, LG W b id fn tm → Calls Tryz.prog 78 #[.iface 36 (.pointer (some ⟨b, 0, none⟩)), .string nm] W fun e w' => ∃ v, e = .returned (.tuple #[v, .bool true, .int .i64 0]) ∧ Below W.heap.size W w' ∧ t.V w' (Fr W w') v) := fun W h => got_gh b id fn tm J nm t W h hJ
  have HT : Hid (LG w b id fn tm) := hT
  clear hT hJ hn hsz
  go_enter Tryz.func58, Tryz.ntmps58
  go_wp2_with (first | (go_at_call 24; refine (HS.out _).mono ?_; rintro e w' ⟨rfl, rfl⟩) | (go_at_call 55; refine (HN.out _).mono ?_; rintro e w' ⟨rfl, rfl⟩))
  refine HL.out.mono ?_
  rintro e w1 ⟨rfl, hb1⟩
  have HB1 : Hid (Below w.heap.size w w1) := hb1
  clear hb1
  go_wp2_with fail
  refine (HG.out _ (HT.out.keep HB1.out)).mono ?_
  rintro e w2 ⟨v', rfl, hb2, hv2⟩
  have HR : Hid (Below w.heap.size w w2 ∧ t.V w2 (Fr w w2) v') := ⟨HB1.out.trans (hb2.mono HB1.out.size), t.V_same (Same.refl _ _) (fun k hk => ⟨Nat.le_trans HB1.out.size hk.1, hk.2⟩) v' hv2⟩
  clear hb2 hv2
  go_wp2_with fail
  go_ret3
  exact ⟨v', rfl, HR.out⟩

end Go.Proofs.YtjlhmgopmdcopaaGreat

/- object.fieldsOf of a ghost that is loaded. -/
namespace Go.Proofs.YtjlhmgopmdcopaaGreat
open Go.RowKit

/-- the fields' names lie in a row -/
def NR (w : World) (L : TmF) (an : Option Addr) : Prop := ∀ J nm t, L.nth J = some (nm, t) → ∃ nb o, an = some ⟨nb, o, none⟩ ∧ nb < w.heap.size ∧ w.cell? ⟨nb, o + J, none⟩ = some (.string nm)
theorem NR.keep {w w' : World} {L : TmF} {an : Option Addr} (h : NR w L an) (hb : Below w.heap.size w w') : NR w' L an := fun J nm t hJ => by
  obtain ⟨nb, o, h1, h2, h3⟩ := h J nm t hJ
  exact ⟨nb, o, h1, Nat.lt_of_lt_of_le h2 hb.size, by rw [hb.cell (p := ⟨nb, o + J, none⟩) h2]; exact h3⟩

def Ow (b : Nat) (w : World) (ob : Option Nat) : Nat → Prop := fun k => b ≤ k ∧ k < w.heap.size ∧ ob ≠ some k

/-- what the loop carries: behind j names the rest is l -/
structure FQ (L : TmF) (w wr : World) (j : Nat) (v : Value) (xs : List Value) (l : TmF) : Prop where
  len : l.len + j = L.len
  suf : ∀ i, l.nth i = L.nth (j + i)
  own : wr.ownsRow w.heap.size 55 2 v j xs
  pre : FPre wr (Ow w.heap.size wr v.ownBlock) L xs l
  bel : Below w.heap.size w wr

theorem FQ.lt {L : TmF} {w wr : World} {j : Nat} {v : Value} {xs : List Value} {l : TmF} (h : FQ L w wr j v xs l) : ∀ k, v.ownBlock = some k → w.heap.size ≤ k ∧ k < wr.heap.size := by
  intro k hk
  rcases h.own.2 with ⟨rfl, _⟩ | ⟨g, cap, cur, rfl, h1, h2, _⟩
  · cases hk
  · injection hk with hk
    have hk : g = k := hk
    subst hk
    exact ⟨h1, (Array.getElem?_eq_some_iff.1 h2).1⟩

theorem FQ.step {L : TmF} {w wr : World} {j : Nat} {v : Value} {xs : List Value} {n : ByteArray} {t : Tm} {l : TmF} (h : FQ L w wr j v xs (.cons n t l)) (hn : n.size ≤ maxLen) {w1 w3 : World} {o : Obj} {x : Value} {g' cap' : Nat}
    (hb : Below wr.heap.size wr w1) (hx : t.V w1 (Fr wr w1) x) (ho : w3.ownsRow w.heap.size 55 2 (.slice (some ⟨g', 0, none⟩) (j + 1) cap') (j + 1) (xs ++ [.string n, x])) (hg : (w1.alloc o).grownBy w3 v.ownBlock) (hor : v.ownBlock = some g' ∨ g' = (w1.alloc o).heap.size) :
    FQ L w w3 (j + 1) (.slice (some ⟨g', 0, none⟩) (j + 1) cap') (xs ++ [.string n, x]) l := by
  have hz1 := hb.size
  have hz3 := hg.size
  have hza : (w1.alloc o).heap.size = w1.heap.size + 1 := by simp
  have hlt := h.lt
  have h31 : ∀ k, k < w1.heap.size → v.ownBlock ≠ some k → w3.heap[k]? = w1.heap[k]? := fun k hk hne => by
    rw [hg.block k (by omega) (fun e => hne (by simpa using e.symm))]; exact Below.heap_alloc _ _ _ hk
  have hS : Same (Ow w.heap.size wr v.ownBlock) wr w3 := fun k hk => by rw [h31 k (by have := hk.2.1; omega) hk.2.2]; exact hb.block k hk.2.1
  have hfr : ∀ k, wr.heap.size ≤ k → v.ownBlock ≠ some k := fun k hk e => by have := (hlt k e).2; omega
  have hS1 : Same (Fr wr w1) w1 w3 := fun k hk => h31 k hk.2 (hfr k hk.1)
  have hg' : ∀ k, k < w1.heap.size → v.ownBlock ≠ some k → (Value.slice (some ⟨g', 0, none⟩) (j + 1) cap').ownBlock ≠ some k := fun k hk hne e => by
    have e : some g' = some k := e
    injection e with e
    rcases hor with e' | e'
    · exact hne (by rw [e', e])
    · omega
  refine ⟨?_, fun i => ?_, ho, ?_, ?_⟩
  · have := h.len; simp [TmF.len] at this; omega
  · have := h.suf (i + 1); simp only [TmF.nth] at this; rw [this]; congr 1; omega
  · refine FPre.snoc L xs n t l x (FPre.same hS (fun k hk => ⟨hk.1, by have := hk.2.1; omega, hg' k (by have := hk.2.1; omega) hk.2.2⟩) L xs _ h.pre) hn (t.V_same hS1 (fun k hk => ⟨?_, ?_, ?_⟩) x hx)
    · have := hk.1; have := h.bel.size; omega
    · have := hk.2; omega
    · exact hg' k hk.2 (hfr k hk.1)
  · have hb1 : Below w.heap.size w (w1.alloc o) := (h.bel.trans (hb.mono h.bel.size)).alloc (by have := h.bel.size; omega) _
    exact hb1.grown hg (by have := h.bel.size; omega) (fun k e => (hlt k e).1)

theorem FQ.done {L : TmF} {w wr : World} {j : Nat} {v : Value} {xs : List Value} (h : FQ L w wr j v xs .nil) : ∃ a cap, v = .slice a L.len cap ∧ L.LV wr (Fr w wr) a cap := by
  have hj : j = L.len := by have := h.len; simp [TmF.len] at this; omega
  subst hj
  have hlt := h.lt
  rcases h.own.2 with ⟨rfl, h0⟩ | ⟨g, cap, cur, rfl, h1, h2, _⟩
  · have hxs : xs = [] := by have := h.own.1; rw [h0] at this; simpa using this
    have hp := h.pre
    rw [hxs] at hp
    obtain rfl := (FPre_nil _ _).1 hp
    have ho := h.own
    exact ⟨none, 0, rfl, Ln.of ho (fun g o p e => by cases e), by simp only [TmF.V]⟩
  · refine ⟨_, cap, rfl, Ln.of h.own (fun g' o p e => by injection e with e; injection e with e; subst e; exact hlt _ rfl), ?_⟩
    refine FPre.done (S := Ow w.heap.size wr (some g)) (fun k hk => ⟨by have := hk.1; omega, hk.2.1⟩) g (hlt g rfl) L xs 0 h.pre ?_
    intro i x hi
    have := h.own.cells (g := g) rfl i x hi
    rw [Nat.zero_mul, Nat.zero_add]
    have e : (⟨g, 0, none⟩ : Addr).add i = ⟨g, i, none⟩ := by
      unfold Addr.add; split
      · rename_i h0; rw [h0]
      · simp
    rw [e] at this; exact this

set_option maxRecDepth 100000 in
set_option maxHeartbeats 2000000 in
theorem fieldsOf_gh (b : Nat) (id : Int) (fn : Value) (tm : Tm) (an : Option Addr) (cn : Nat) (w : World) (hT : LG w b id fn tm) (hN : NR w tm.fields an) :
    Calls Tryz.prog 33 #[.iface 36 (.pointer (some ⟨b, 0, none⟩)), .slice an tm.fields.len cn] w fun e w' => ∃ a cap, e = .returned (.tuple #[.slice a tm.fields.len cap, .int .i64 0]) ∧ Below w.heap.size w w' ∧ tm.fields.LV w' (Fr w w') a cap := by
  obtain ⟨i0, hi, hz0, hz1', hz2⟩ := info_parts Tryz.infoF
  have hok : (dctT tm.fields).all.e = 0 := by obtain ⟨_, h, _⟩ := hT; exact h
  obtain ⟨hgd, hnamed, hlen⟩ := dct_ok hok
  rw [TmF.names_len] at hlen
  have HA : Hid (∀ W J nm t, Below w.heap.size w W → tm.fields.nth J = some (nm, t) → Calls Tryz.prog 58 #[.iface 36 (.pointer (some ⟨b, 0, none⟩)), .string nm] W fun e w' => ∃ v, e = .returned (.tuple #[v, .bool true, .int .i64 0]) ∧ Below W.heap.size W w' ∧ t.V w' (Fr W w') v) := fun W J nm t hW hJ => Ask_gh b id fn tm J nm t W (hT.keep hW) hJ (named_nm _ _ hnamed nm (List.mem_of_getElem? (TmF.nth_name _ J nm t hJ).1))
  have HN : Hid (NR w tm.fields an) := hN
  have HM : Hid (∀ J nm t, tm.fields.nth J = some (nm, t) → nm.size ≤ maxLen) := fun J nm t hJ => by have := named_nm _ _ hnamed nm (List.mem_of_getElem? (TmF.nth_name _ J nm t hJ).1); simp [Sp.isNm] at this; unfold maxLen; omega
  have H0 : Hid (FQ tm.fields w w 0 (.slice none 0 0) [] tm.fields) :=
    ⟨rfl, fun i => by rw [Nat.zero_add], ⟨rfl, .inl ⟨rfl, rfl⟩⟩, (FPre_nil _ _).2 rfl, Below.refl _ _⟩
  clear hT hN hok hgd hnamed
  generalize tm.fields = L at *
  go_enter Tryz.func33, Tryz.ntmps33
  go_wp2_with fail
  go_loopw [6, 14] (fun v x wr => ∃ (j : Nat) (xs : List Value) (l : TmF), x = .int .i64 j ∧ j ≤ L.len ∧ Hid (FQ L w wr j v xs l)) (fun _ x _ => L.len - (intOf x).toNat)
  case atStart => exact ⟨0, [], L, rfl, by omega, H0⟩
  case round =>
    obtain ⟨j, xs, l, rfl, hj, HR⟩ := hrel
    cases l with
    | nil =>
      have hjl : L.len ≤ j := by have := HR.out.len; simp [TmF.len] at this; omega
      go_wp2_with fail
      go_ret2
      obtain ⟨a, cap, rfl, hl⟩ := HR.out.done
      exact ⟨a, cap, rfl, HR.out.bel, hl⟩
    | cons nm t l =>
      have hlt : j < L.len := by have := HR.out.len; simp [TmF.len] at this; omega
      have hJ : L.nth j = some (nm, t) := by have := HR.out.suf 0; simp only [TmF.nth, Nat.add_zero] at this; exact this.symm
      have hM := HM.out j nm t hJ
      obtain ⟨nb, o, rfl, hnb, hcn⟩ := HN.out.keep HR.out.bel j nm t hJ
      have HQ : Hid _ := fun W hW => HA.out W j nm t hW hJ
      have HB0 : Hid (Below w.heap.size w wr) := HR.out.bel
      have hszr := HB0.out.size
      have hji0 : (0 : Int) ≤ (j : Int) := Int.natCast_nonneg _
      have hji1 : (j : Int) < (L.len : Int) := by omega
      go_wp2_with fail
      refine (HQ.out wr HB0.out).mono ?_
      rintro e w1 ⟨x, rfl, hb1, hx⟩
      have hif := V_if hx
      have HX : Hid (t.V w1 (Fr wr w1) x) := hx
      have HB1 : Hid (Below wr.heap.size wr w1) := hb1
      clear hb1 hx
      rcases hif with rfl | ⟨T, y, rfl⟩
      · go_wp2_with (at_builtin; refine wpList_app _ rfl _ _ 57 rfl w.heap.size 55 i0 _ 2 32 Tryz.undD hi hz0 hz1' hz2 rfl (by decide) _ j xs rfl ((owns_below HB1.out HR.out.own).alloc _) ⟨w1.heap.size, 0, none⟩ 1 1 [.string nm, .nilIface] rfl rfl (cell_two_new _ _ _ _) (two_nil nm) (by decide) (by unfold maxLen; omega) (by omega) (by have := HB1.out.size; simp; omega) ?_; intro g' cap' w3 hown' hgrow hor; have HNx : Hid (FQ L w w3 (j + 1) (.slice (some ⟨g', 0, none⟩) (j + 1) cap') (xs ++ [.string nm, .nilIface]) l) := HR.out.step hM HB1.out HX.out hown' hgrow hor; clear hown' hgrow hor)
        go_roundw
        case rel => exact ⟨j + 1, _, l, by go_num, by omega, HNx⟩
        case measure => simp [intOf]; omega
      · go_wp2_with (at_builtin; refine wpList_app _ rfl _ _ 57 rfl w.heap.size 55 i0 _ 2 32 Tryz.undD hi hz0 hz1' hz2 rfl (by decide) _ j xs rfl ((owns_below HB1.out HR.out.own).alloc _) ⟨w1.heap.size, 0, none⟩ 1 1 [.string nm, .iface T y] rfl rfl (cell_two_new _ _ _ _) (two_iface nm T y) (by decide) (by unfold maxLen; omega) (by omega) (by have := HB1.out.size; simp; omega) ?_; intro g' cap' w3 hown' hgrow hor; have HNx : Hid (FQ L w w3 (j + 1) (.slice (some ⟨g', 0, none⟩) (j + 1) cap') (xs ++ [.string nm, .iface T y]) l) := HR.out.step hM HB1.out HX.out hown' hgrow hor; clear hown' hgrow hor)
        go_roundw
        case rel => exact ⟨j + 1, _, l, by go_num, by omega, HNx⟩
        case measure => simp [intOf]; omega
end Go.Proofs.YtjlhmgopmdcopaaGreat

