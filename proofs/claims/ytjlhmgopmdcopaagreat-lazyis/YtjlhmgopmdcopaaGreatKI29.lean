/- tenonmake.Record of any term; the fetch of LazyOnce. -/
import Derived.Test.YtjlhmgopmdcopaaGreatKI27
import Derived.Test.YtjlhmgopmdcopaaGreatKI9
import Derived.Test.YtjlhmgopmdcopaaGreatKI28
namespace Go.Proofs.YtjlhmgopmdcopaaGreat
open Go.RowKit

def nilT : Tm := .mk 11 false 0 0 ByteArray.empty ByteArray.empty 0 .nil .nil ByteArray.empty 0
/-- the term of what Record makes of a term -/
def recT (t : Tm) : Tm := if t.kind = 10 then t else nilT
theorem nilT_V (w : World) (B : Nat → Prop) : nilT.V w B (.iface 31 (.pointer none)) := by simp [nilT, Tm.V]
/-- what a type assertion to *Record gives of a term's value -/
theorem rec_ta {t : Tm} {w : World} {B : Nat → Prop} {v : Value} (hv : t.V w B v) : ∃ rv k, (∀ W, (Instr.typeAssert v 20 31 true).run Tryz.prog W = .ok (.tuple #[.pointer rv, .bool k]) W) ∧ (recT t).V w B (.iface 31 (.pointer rv)) := by
  cases t with
  | mk k b i f tx by' rf l fs c vr =>
    have hv0 := hv
    simp only [Tm.V] at hv
    obtain ⟨h1, h2, h3, h4, h5, h6, h7, h8, h9, h10, h11, h12⟩ := hv
    by_cases hk : k = 10
    · subst hk
      obtain ⟨g, a, cap, rfl, _⟩ := h10 rfl
      exact ⟨_, true, fun W => by kernel_rfl, by simpa [recT, Tm.kind] using hv0⟩
    · have hr : recT (.mk k b i f tx by' rf l fs c vr) = nilT := by simp [recT, Tm.kind, hk]
      rw [hr]
      rcases (by omega : k = 1 ∨ k = 2 ∨ k = 3 ∨ k = 4 ∨ k = 5 ∨ k = 6 ∨ k = 7 ∨ k = 8 ∨ k = 9 ∨ k = 11 ∨ (k < 1 ∨ 11 < k)) with hq | hq | hq | hq | hq | hq | hq | hq | hq | hq | hq
      · rw [h1 hq]; exact ⟨none, false, fun W => by kernel_rfl, nilT_V _ _⟩
      · rw [h2 hq]; exact ⟨none, false, fun W => by kernel_rfl, nilT_V _ _⟩
      · rw [h3 hq]; exact ⟨none, false, fun W => by kernel_rfl, nilT_V _ _⟩
      · rw [(h4 hq).1]; exact ⟨none, false, fun W => by kernel_rfl, nilT_V _ _⟩
      · rw [(h5 hq).1]; exact ⟨none, false, fun W => by kernel_rfl, nilT_V _ _⟩
      · obtain ⟨a, cap, rfl, _⟩ := h6 hq; exact ⟨none, false, fun W => by kernel_rfl, nilT_V _ _⟩
      · rw [h7 hq]; exact ⟨none, false, fun W => by kernel_rfl, nilT_V _ _⟩
      · obtain ⟨a, cap, rfl, _⟩ := h8 hq; exact ⟨none, false, fun W => by kernel_rfl, nilT_V _ _⟩
      · obtain ⟨a, cap, rfl, _⟩ := h9 hq; exact ⟨none, false, fun W => by kernel_rfl, nilT_V _ _⟩
      · rw [h11 hq]; exact ⟨none, true, fun W => by kernel_rfl, nilT_V _ _⟩
      · obtain ⟨T, x, rfl, hA⟩ := h12 hq
        refine ⟨none, false, fun W => ?_, nilT_V _ _⟩
        have := ta_rec T x W
        rw [if_neg hA.2.2.2.2.2.2.2.2] at this
        exact this

theorem tm_ldz {w : World} {q : Nat} {k1 : Int} {b1 : Bool} {i1 : Int} {f1 : Nat} {tx1 : ByteArray} {vb : Value} {rf1 : Int} {vl vf : Value} {c1 : ByteArray} {vr1 : Int} {fr : Nat × Nat} (h : w.heap[q]? = some (.cells (tcells k1 b1 i1 f1 tx1 vb rf1 vl vf c1 vr1) 29 fr)) : (loadVar 29 ⟨q, 0, none⟩).run Tryz.prog w = .ok (.agg (tcells k1 b1 i1 f1 tx1 vb rf1 vl vf c1 vr1)) w :=
  run_loadVar_row w q 29 29 _ fr _ h Tryz.underlying29 rfl (by kernel_rfl)

set_option maxRecDepth 100000 in
set_option maxHeartbeats 2000000 in
theorem mRec_any (t : Tm) (cs : Array Value) (B : Nat → Prop) (w : World) (hi : t.In w B cs) (hB : Sub B w) :
    Calls Tryz.prog 5 #[.agg cs] w fun e w' => ∃ rv, e = .returned (.pointer rv) ∧ Below w.heap.size w w' ∧ (recT t).V w' (Fr w w') (.iface 31 (.pointer rv)) := by
  have HBt : Hid (∀ W, Below w.heap.size w W → Calls Tryz.prog 22 #[.agg cs] W fun e w' => ∃ v, e = .returned v ∧ Below W.heap.size W w' ∧ t.V w' (Fr W w') v) := fun W hW =>
    built_any t.sz t (Nat.le_refl _) cs B W (t.In_same (fun k hk => hW.block k (hB k hk)) (fun _ h => h) cs hi) (fun k hk => Nat.lt_of_lt_of_le (hB k hk) hW.size)
  obtain ⟨b, i, f, tx, vb, rf, vl, vf, c, vr, rfl⟩ := Tm.In_box hi
  clear hi hB
  have HLD : Hid ((loadVar 29 ⟨w.heap.size, 0, none⟩).run Tryz.prog (w.alloc (.cells (tcells t.kind b i f tx vb rf vl vf c vr) 29)) = .ok (.agg (tcells t.kind b i f tx vb rf vl vf c vr)) (w.alloc (.cells (tcells t.kind b i f tx vb rf vl vf c vr) 29))) := tm_ldz (heap_alloc_last _ _)
  go_enter Tryz.func5, Tryz.ntmps5
  unfold tcells at HBt HLD ⊢
  go_wp2_with ((with_reducible refine ldr ?_ ?_ HLD.out ?_); rfl; rfl)
  refine (HBt.out _ ((Below.refl _ _).alloc (Nat.le_refl _) _)).mono ?_
  rintro e w1 ⟨v, rfl, hb1, hv⟩
  obtain ⟨rv, k, hta, hrv⟩ := rec_ta hv
  have HR : Hid (Below w.heap.size w w1 ∧ (recT t).V w1 (Fr w w1) (.iface 31 (.pointer rv))) := ⟨((Below.refl _ _).alloc (Nat.le_refl _) _).trans (hb1.mono (by simp)), (recT t).V_same (Same.refl _ _) (fun k hk => ⟨by have := hk.1; simp at this; omega, hk.2⟩) _ hrv⟩
  clear hb1 hv hrv HBt HLD
  go_wp2_with fail
  go_ret
  exact ⟨rv, rfl, HR.out⟩
end Go.Proofs.YtjlhmgopmdcopaaGreat

/- The fetch of LazyOnce; what holds between two asks. -/
namespace Go.Proofs.YtjlhmgopmdcopaaGreat
open Go.RowKit

/-- a box with a number -/
def Nb (w : World) (nb : Nat) (n : Nat) : Prop := w.heap[nb]? = some (.cells #[.int .i64 (n : Int)] 3)
theorem Nb.cell {w : World} {nb n : Nat} (h : Nb w nb n) : w.cell? ⟨nb, 0, none⟩ = some (.int .i64 (n : Int)) := by rw [cell_of_row _ _ 0 _ _ _ h]; rfl
theorem Nb.free {w : World} {nb n : Nat} (h : Nb w nb n) : w.frozen? ⟨nb, 0, none⟩ = false := frozen_of_row _ _ 0 _ _ h
theorem Nb.set {w : World} {nb n : Nat} (h : Nb w nb n) (m : Nat) : Nb (w.setCell ⟨nb, 0, none⟩ (.int .i64 (m : Int))) nb m := by
  unfold Nb at h ⊢
  rw [setCell_eq_setRow _ _ _ _ _ _ _ h]; exact setRow_heap _ _ _ _ _ _ h
theorem Nb.lt {w : World} {nb n : Nat} (h : Nb w nb n) : nb < w.heap.size := (Array.getElem?_eq_some_iff.1 h).1

/-- a term lies in a box tb, what it names in blocks below B -/
def Tb (w : World) (B tb : Nat) (t : Tm) : Prop := ∃ cs, w.heap[tb]? = some (.cells cs 29) ∧ t.In w (Lo B) cs ∧ B ≤ tb
theorem Tb.lt {w : World} {B tb : Nat} {t : Tm} (h : Tb w B tb t) : tb < w.heap.size := by obtain ⟨cs, h1, _⟩ := h; exact (Array.getElem?_eq_some_iff.1 h1).1
theorem Tb.keep {w w' : World} {B tb : Nat} {t : Tm} (h : Tb w B tb t) (h1 : w'.heap[tb]? = w.heap[tb]?) (hs : Same (Lo B) w w') : Tb w' B tb t := by
  obtain ⟨cs, h2, h3, h4⟩ := h
  exact ⟨cs, h1.trans h2, t.In_same hs (fun _ h => h) cs h3, h4⟩

/-- what holds between two asks: n fetches; whether it is loaded -/
structure OI (W0 : World) (g nb tb B : Nat) (t : Tm) (fn : Value) (n : Nat) (has : Bool) (w : World) : Prop where
  kx : Kx (fun j => j = nb ∨ j = g) W0 w
  nb : Nb w nb n
  tb : Tb w B tb t
  st : if has then GL w (fun j => W0.heap.size ≤ j ∧ j < w.heap.size) g 1 fn 0 (recT t) else Gh w g (gc 1 fn false 0 ⟨#[]⟩ 0 none)

section
variable {W0 : World} {g nb tb B : Nat} {t : Tm} {n : Nat} {w : World}
theorem OI.below {fn : Value} {has : Bool} {w' : World} (h : OI W0 g nb tb B t fn n has w) (hb : Below w.heap.size w w') : OI W0 g nb tb B t fn n has w' := by
  obtain ⟨cs, h1, h2, h3⟩ := h.tb
  have htl := (Array.getElem?_eq_some_iff.1 h1).1
  refine ⟨h.kx.trans (.of hb), (hb.block nb h.nb.lt).trans h.nb, h.tb.keep (hb.block tb htl) (Same.of_below hb (by omega)), ?_⟩
  have hst := h.st
  cases has
  · exact Gh.keep hst (hb.block g (Gh.lt hst))
  · obtain ⟨fb, a, b, c⟩ := hst
    exact ⟨fb, a, b.keep (hb.block g b.lt), c.keep (fun k hk => hb.block k hk.2) (fun k hk => ⟨hk.1, Nat.lt_of_lt_of_le hk.2 hb.size⟩)⟩

end
end Go.Proofs.YtjlhmgopmdcopaaGreat

/- tenonlaw12.lives: its fetch. -/
namespace Go.Proofs.YtjlhmgopmdcopaaGreat
open Go.RowKit

def bName : ByteArray := ⟨#[110, 97, 109, 101]⟩
def bAge : ByteArray := ⟨#[97, 103, 101]⟩
def bAnn : ByteArray := ⟨#[97, 110, 110]⟩
def bPerson : ByteArray := ⟨#[112, 101, 114, 115, 111, 110]⟩
def tAnn : Tm := .mk 5 false 0 0 bAnn ByteArray.empty 0 .nil .nil ByteArray.empty 0
def tPer : Tm := .mk 10 false 0 0 ByteArray.empty ByteArray.empty 0 .nil (.cons bName tAnn .nil) bPerson 1
theorem tPer_ok : tPer.all.e = 0 := by decide +kernel

theorem tPer_V {w : World} {B : Nat → Prop} {rb d : Nat} (hr : w.heap[rb]? = some (.cells #[.string bPerson, .int .i64 1, .slice (some ⟨d, 0, none⟩) 1 1] 59)) (hd : w.heap[d]? = some (.cells #[.string bName, .iface 9 (.string bAnn)] 55)) (hB : B rb ∧ B d) :
    tPer.V w B (.iface 31 (.pointer (some ⟨rb, 0, none⟩))) := by
  refine Tm.V_of10 (a := some ⟨d, 0, none⟩) (cap := 1) hB.1 (by rw [cell_of_row _ _ 0 _ _ _ hr]; rfl) (by rw [cell_of_row _ _ 1 _ _ _ hr]; rfl) (by rw [cell_of_row _ _ 2 _ _ _ hr]; rfl) (by decide) ⟨⟨_, hr⟩, Ln.row ⟨_, hd, rfl⟩ (by decide) hB.2, ?_⟩
  simp only [TmF.V]
  refine ⟨d, 0, .iface 9 (.string bAnn), rfl, hB.2, by rw [cell_of_row _ _ 0 _ _ _ hd]; rfl, by rw [cell_of_row _ _ 1 _ _ _ hd]; rfl, by decide, ?_, trivial⟩
  simp only [tAnn, Tm.V]
  simp
  decide

set_option maxRecDepth 100000 in
set_option maxHeartbeats 2000000 in
theorem lives1_any (nb n : Nat) (id : Int) (w : World) (hn : Nb w nb n) (hN : n < 100) :
    Calls Tryz.prog 18 #[.int .u64 id, .pointer (some ⟨nb, 0, none⟩)] w fun e w' => FE 0 0 0 tPer w e w' ∧ Kx (· = nb) w w' ∧ Nb w' nb (n + 1) := by
  have e0 := hn.cell
  have z0 := hn.free
  obtain ⟨X, hX⟩ : ∃ X, w.setCell ⟨nb, 0, none⟩ (.int .i64 ((n + 1 : Nat) : Int)) = X := ⟨_, rfl⟩
  have HX : Hid (Nb X nb (n + 1) ∧ Kx (· = nb) w X ∧ X.heap.size = w.heap.size) := by rw [← hX]; exact ⟨hn.set _, Kx.setg (Kx.refl _ _) _, by simp [World.setCell]⟩
  have hX' : w.setCell ⟨nb, 0, none⟩ (.int .i64 ((n : Int) + 1)) = X := hX
  have hw : IntKind.i64.wrap ((n : Int) + 1) = (n : Int) + 1 := by rw [IntKind.wrap_i64]; omega
  clear hX hn hN
  go_enter Tryz.func18, Tryz.ntmps18
  go_wp2_with fail
  go_ret2
  refine ⟨.inl ⟨rfl, rfl, _, rfl, fun _ => tPer_V (rb := X.heap.size + 1) (d := X.heap.size) ?_ ?_ ?_⟩, ?_, ?_⟩
  · exact al2_new _ _ _
  · exact al2_old _ _ _
  · have := HX.out.2.2
    exact ⟨⟨by omega, by simp⟩, ⟨by omega, by simp; omega⟩⟩
  · exact (HX.out.2.1.alloc _).alloc _
  · exact ((Below.heap_alloc _ _ _ (by have := HX.out.1.lt; simp; omega)).trans (Below.heap_alloc _ _ _ HX.out.1.lt)).trans HX.out.1

/-- what holds between two asks of a ghost whose fetch only counts -/
structure OJ (W0 : World) (g nb : Nat) (id : Int) (fn : Value) (tm : Tm) (n : Nat) (has : Bool) (w : World) : Prop where
  kx : Kx (fun j => j = nb ∨ j = g) W0 w
  nb : Nb w nb n
  st : if has then GL w (fun j => W0.heap.size ≤ j ∧ j < w.heap.size) g id fn 0 tm else Gh w g (gc id fn false 0 ⟨#[]⟩ 0 none)

section
variable {W0 : World} {g nb : Nat} {id : Int} {tm : Tm} {n : Nat} {w : World}
theorem OJ.below {fn : Value} {has : Bool} {w' : World} (h : OJ W0 g nb id fn tm n has w) (hb : Below w.heap.size w w') : OJ W0 g nb id fn tm n has w' := by
  refine ⟨h.kx.trans (.of hb), (hb.block nb h.nb.lt).trans h.nb, ?_⟩
  have hst := h.st
  cases has
  · exact Gh.keep hst (hb.block g (Gh.lt hst))
  · obtain ⟨fb, a, b, c⟩ := hst
    exact ⟨fb, a, b.keep (hb.block g b.lt), c.keep (fun k hk => hb.block k hk.2) (fun k hk => ⟨hk.1, Nat.lt_of_lt_of_le hk.2 hb.size⟩)⟩
theorem OJ.c7 {fn : Value} {has : Bool} (h : OJ W0 g nb id fn tm n has w) : w.cell? ⟨g, 7, none⟩ = some (.pointer none) := by
  have hst := h.st
  cases has
  · exact Gh.c7 hst
  · obtain ⟨fb, a, b, c⟩ := hst; exact b.c7
theorem OJ.load {F : Nat} {cap : Array Value} (hi : (id == 0) = false) (hgn : g ≠ nb) (ho : tm.all.e = 0) {has : Bool} (hcf : ∀ W, Sem.run Tryz.prog (callFunc F ((#[] : Array Value).push (.int .u64 id) ++ cap)) W = .ok (.enter F ((#[] : Array Value).push (.int .u64 id) ++ cap)) W)
    (hf : ∀ W, Nb W nb n → Kx (· = g) w W → Calls Tryz.prog F ((#[] : Array Value).push (.int .u64 id) ++ cap) W fun e w' => FE 0 0 0 tm W e w' ∧ Kx (· = nb) W w' ∧ Nb w' nb (n + 1)) (h : OJ W0 g nb id (.func (.func F) #[] cap) tm n has w) :
    Calls Tryz.prog 51 #[.pointer (some ⟨g, 0, none⟩)] w fun e w' => e = .returned (.int .i64 0) ∧ OJ W0 g nb id (.func (.func F) #[] cap) tm (if has then n else n + 1) true w' := by
  cases has
  · have hG : Gh w g (gc id (.func (.func F) #[] cap) false 0 ⟨#[]⟩ 0 none) := h.st
    have hsz := h.kx.size
    have hF : Fet F #[] cap g id 0 0 0 tm (· = nb) (fun X => Nb X nb (n + 1)) w := by
      refine ⟨hcf, fun j hj => by subst hj; exact ⟨h.nb.lt, fun e => hgn e.symm⟩, fun X Y _ hs hq => (hs nb hq.lt (fun e => hgn e.symm) (.inl h.nb.lt)).trans hq, fun W hW h5 => ?_⟩
      refine Calls.mono (R := fun e w' => FE 0 0 0 tm W e w' ∧ Kx (· = nb) W w' ∧ Nb w' nb (n + 1)) ?_ (fun e w' hh => ⟨hh.1.to hG.lt h5, hh.2⟩)
      exact hf W ((hW.block nb h.nb.lt (fun e => hgn e.symm)).trans h.nb) hW
    refine (Load_ok hi hG hF (by simp [whyOf, ho])).mono ?_
    rintro e w' ⟨rfl, k1, k2, k3⟩
    refine ⟨rfl, h.kx.trans k1, k2, ?_⟩
    obtain ⟨fb, a, b, c⟩ := k3
    exact ⟨fb, a, b, c.keep (Same.refl _ _) (fun k hk => ⟨Nat.le_trans hsz hk.1, hk.2⟩)⟩
  · obtain ⟨fb, a, b, c⟩ := h.st
    refine (Load_has b).mono ?_
    rintro e w' ⟨rfl, rfl⟩
    exact ⟨rfl, h⟩
theorem OJ.forget {fn : Value} {has : Bool} (hgn : g ≠ nb) (h : OJ W0 g nb id fn tm n has w) :
    Calls Tryz.prog 21 #[.pointer (some ⟨g, 0, none⟩)] w fun e w' => e = .returned (.int .i64 0) ∧ OJ W0 g nb id fn tm n false w' := by
  have fin : ∀ w', Gh w' g (gc id fn false 0 ⟨#[]⟩ 0 none) → Kx (· = g) w w' → OJ W0 g nb id fn tm n false w' := fun w' h1 h2 => ⟨h.kx.trans (h2.mono fun j hj => .inr hj), (h2.block nb h.nb.lt (fun e => hgn e.symm)).trans h.nb, h1⟩
  have hst := h.st
  cases has
  · exact (Forget_no (show Gh _ _ _ from hst)).mono fun e w' ⟨h1, h2, h3⟩ => ⟨h1, fin w' h2 h3⟩
  · obtain ⟨fb, a, b, c⟩ := hst
    exact (Forget_yes b).mono fun e w' ⟨h1, h2, h3⟩ => ⟨h1, fin w' h2 h3⟩
/-- Get of a loaded ghost -/
theorem OJ.th {fn : Value} (h : OJ W0 g nb id fn tm n true w) : ∃ fb, (dctT tm.fields).all.e = 0 ∧ Gh w g (gc id fn false 0 tm.cOf tm.vOf (some ⟨fb, 0, none⟩)) ∧ Th w fb id tm.fields := by
  obtain ⟨fb, a, b, c⟩ := h.st
  exact ⟨fb, a, b, c.th (fun k hk => hk.2)⟩
end
end Go.Proofs.YtjlhmgopmdcopaaGreat

/- tenonlaw12.lives returns true. -/
namespace Go.Proofs.YtjlhmgopmdcopaaGreat
open Go.RowKit

@[go_sem] theorem eql_ann (w : World) : (binOp .eql 20 (.iface 9 (.string ⟨#[97, 110, 110]⟩)) (.iface 9 (.string ⟨#[97, 110, 110]⟩))).run Tryz.prog w = .ok (.bool true) w := by kernel_rfl
@[go_sem] theorem eqg_ann (x y : Operand) (w : World) : (eqGuard .eql 20 x y (.iface 9 (.string ⟨#[97, 110, 110]⟩)) (.iface 9 (.string ⟨#[97, 110, 110]⟩))).run Tryz.prog w = .ok () w := by kernel_rfl

theorem bAge_no : bAge ∉ tPer.fields.names := by
  show bAge ∉ [bName]
  intro h
  exact absurd (congrArg ByteArray.size (List.mem_singleton.1 h)) (by decide)
/-- the ghost of lives -/
def LJ (W0 : World) (g nb : Nat) (n : Nat) (has : Bool) (w : World) : Prop := g ≠ nb ∧ n < 100 ∧ OJ W0 g nb 7 (.func (.func 18) #[] #[.pointer (some ⟨nb, 0, none⟩)]) tPer n has w

section
variable {W0 : World} {g nb n : Nat} {has : Bool} {w : World}
theorem LJ.asked (h : LJ W0 g nb n has w) (hn : n < 99) : Calls Tryz.prog 29 #[.pointer (some ⟨g, 0, none⟩)] w fun e w' => e = .returned (.tuple #[]) ∧ LJ W0 g nb (if has then n else n + 1) true w' := by
  have hcf : ∀ W, Sem.run Tryz.prog (callFunc 18 ((#[] : Array Value).push (.int .u64 7) ++ #[.pointer (some ⟨nb, 0, none⟩)])) W = .ok (.enter 18 ((#[] : Array Value).push (.int .u64 7) ++ #[.pointer (some ⟨nb, 0, none⟩)])) W := fun W => by kernel_rfl
  have hf : ∀ W, Nb W nb n → Kx (· = g) w W → Calls Tryz.prog 18 ((#[] : Array Value).push (.int .u64 7) ++ #[.pointer (some ⟨nb, 0, none⟩)]) W fun e w' => FE 0 0 0 tPer W e w' ∧ Kx (· = nb) W w' ∧ Nb w' nb (n + 1) := fun W hW _ => lives1_any nb n 7 W hW h.2.1
  have hl := OJ.load (by decide) h.1 tPer_ok hcf hf h.2.2
  refine asked_of (er := 0) (hl.mono ?_)
  rintro e w' ⟨rfl, hj⟩
  exact ⟨rfl, hj.c7, h.1, by split <;> omega, hj⟩
theorem LJ.getName (h : LJ W0 g nb n has w) (hn : n < 99) : Calls Tryz.prog 20 #[.pointer (some ⟨g, 0, none⟩), .string ⟨#[110, 97, 109, 101]⟩] w fun e w' => e = .returned (.tuple #[.iface 9 (.string ⟨#[97, 110, 110]⟩), .bool true]) ∧ LJ W0 g nb (if has then n else n + 1) true w' := by
  refine (gGet_of (R := fun v k w' => v = .iface 9 (.string ⟨#[97, 110, 110]⟩) ∧ k = true ∧ LJ W0 g nb (if has then n else n + 1) true w') (h.asked hn) ?_).mono ?_
  · intro w' hj
    obtain ⟨fb, he, hg, ht⟩ := hj.2.2.th
    obtain ⟨hgd, hnamed, hlen⟩ := dct_ok he
    rw [TmF.names_len] at hlen
    refine ⟨_, hg.c6, (Get_th fb 7 tPer.fields 0 bName tAnn w' ht (Sp.named_up _ _ hnamed).1 hgd hlen rfl).mono ?_⟩
    rintro e w2 ⟨v, rfl, hb, hv⟩
    simp only [tAnn, Tm.V] at hv
    exact ⟨v, true, rfl, (hv.2.2.2.2.1 trivial).1, rfl, hj.1, hj.2.1, hj.2.2.below hb⟩
  · rintro e w' ⟨v, k, rfl, rfl, rfl, hj⟩
    exact ⟨rfl, hj⟩
theorem LJ.getAge (h : LJ W0 g nb n has w) (hn : n < 99) : Calls Tryz.prog 20 #[.pointer (some ⟨g, 0, none⟩), .string ⟨#[97, 103, 101]⟩] w fun e w' => e = .returned (.tuple #[.nilIface, .bool false]) ∧ LJ W0 g nb (if has then n else n + 1) true w' := by
  refine (gGet_of (R := fun v k w' => v = .nilIface ∧ k = false ∧ LJ W0 g nb (if has then n else n + 1) true w') (h.asked hn) ?_).mono ?_
  · intro w' hj
    obtain ⟨fb, he, hg, ht⟩ := hj.2.2.th
    obtain ⟨hgd, hnamed, hlen⟩ := dct_ok he
    rw [TmF.names_len] at hlen
    refine ⟨_, hg.c6, (Get_no fb 7 tPer.fields bAge w' ht (Sp.named_up _ _ hnamed).1 hlen bAge_no).mono ?_⟩
    rintro e w2 ⟨rfl, hb⟩
    exact ⟨_, false, rfl, rfl, rfl, hj.1, hj.2.1, hj.2.2.below hb⟩
  · rintro e w' ⟨v, k, rfl, rfl, rfl, hj⟩
    exact ⟨rfl, hj⟩
theorem LJ.cls (h : LJ W0 g nb n has w) (hn : n < 99) : Calls Tryz.prog 11 #[.pointer (some ⟨g, 0, none⟩)] w fun e w' => e = .returned (.string ⟨#[112, 101, 114, 115, 111, 110]⟩) ∧ LJ W0 g nb (if has then n else n + 1) true w' :=
  Class_of (h.asked hn) fun w' hj => by obtain ⟨fb, he, hg, ht⟩ := hj.2.2.th; exact hg.c4
theorem LJ.ver (h : LJ W0 g nb n has w) (hn : n < 99) : Calls Tryz.prog 12 #[.pointer (some ⟨g, 0, none⟩)] w fun e w' => e = .returned (.int .i64 1) ∧ LJ W0 g nb (if has then n else n + 1) true w' :=
  Version_of (h.asked hn) fun w' hj => by obtain ⟨fb, he, hg, ht⟩ := hj.2.2.th; exact hg.c5
theorem LJ.loaded (h : LJ W0 g nb n has w) : Calls Tryz.prog 19 #[.pointer (some ⟨g, 0, none⟩)] w fun e w' => e = .returned (.bool has) ∧ w = w' := by
  cases has
  · exact Loaded_no h.2.2.st
  · obtain ⟨fb, he, hg, ht⟩ := h.2.2.th; exact Loaded_yes hg
theorem LJ.forget (h : LJ W0 g nb n has w) : Calls Tryz.prog 21 #[.pointer (some ⟨g, 0, none⟩)] w fun e w' => e = .returned (.int .i64 0) ∧ LJ W0 g nb n false w' :=
  (h.2.2.forget h.1).mono fun _ _ ⟨h1, h2⟩ => ⟨h1, h.1, h.2.1, h2⟩
end

set_option maxRecDepth 100000 in
set_option maxHeartbeats 4000000 in
theorem lives12_any (w : World) : Calls Tryz.prog 4 #[] w fun e w' => e = .returned (.bool true) ∧ Below w.heap.size w w' := by
  have hmf : ∀ (fn : Fn) (first cap : Array Value) (w : World), (Instr.makeFunc fn first cap).run Tryz.prog w = .ok (.func fn first cap) w := fun _ _ _ _ => rfl
  have HNw : Hid (∀ W, Calls Tryz.prog 7 #[.int .u64 7, .func (.func 18) #[] #[.pointer (some ⟨w.heap.size, 0, none⟩)]] W fun e w' => e = .returned (.tuple #[.pointer (some ⟨W.heap.size, 0, none⟩), .int .i64 0]) ∧ w' = W.alloc (.cells (gc 7 (.func (.func 18) #[] #[.pointer (some ⟨w.heap.size, 0, none⟩)]) false 0 ⟨#[]⟩ 0 none) 71)) := fun W => gNew_any 7 _ _ W (by decide)
  go_enter Tryz.func4, Tryz.ntmps4
  go_wp2_with fail
  refine (HNw.out _).mono ?_
  rintro e W0 ⟨rfl, hW0⟩
  have HJ : Hid (LJ W0 (w.heap.size + 1) w.heap.size 0 false W0 ∧ Below w.heap.size w W0) := by
    subst hW0
    refine ⟨⟨by omega, by omega, Kx.refl _ _, ?_, ?_⟩, ((Below.refl _ _).alloc (Nat.le_refl _) _).alloc (by simp) _⟩
    · exact al2_old _ _ _
    · exact al2_new _ _ _
  rw [show (w.alloc (.cells #[.int .i64 0] 3)).heap.size = w.heap.size + 1 from by simp]
  generalize hgg : w.heap.size + 1 = g at HJ ⊢
  have hq : ∀ W, (binOp .eql 36 (.pointer (some ⟨g, 0, none⟩)) (.pointer none)).run Tryz.prog W = .ok (.bool false) W := fun W => by kernel_rfl
  have hgq : ∀ x y W, (eqGuard .eql 36 x y (.pointer (some ⟨g, 0, none⟩)) (.pointer none)).run Tryz.prog W = .ok () W := fun x y W => by kernel_rfl
  have HG : Hid (w.heap.size + 1 = g) := hgg
  have c0 : W0.cell? ⟨w.heap.size, 0, none⟩ = some (.int .i64 0) := HJ.out.1.2.2.nb.cell
  clear hW0 hgg HNw
  go_wp2_with (go_at_call 19; refine HJ.out.1.loaded.mono ?_; rintro e w' ⟨rfl, rfl⟩)
  refine (HJ.out.1.getName (by omega)).mono ?_
  rintro e w1 ⟨rfl, hj1⟩
  have HJ1 : Hid (LJ W0 g w.heap.size 1 true w1) := hj1
  clear hj1 c0
  go_wp2_with fail
  refine (HJ1.out.getAge (by omega)).mono ?_
  rintro e w2 ⟨rfl, hj2⟩
  have HJ2 : Hid (LJ W0 g w.heap.size 1 true w2) := hj2
  have c2 : w2.cell? ⟨w.heap.size, 0, none⟩ = some (.int .i64 1) := hj2.2.2.nb.cell
  clear hj2
  go_wp2_with (go_at_call 19; refine HJ2.out.loaded.mono ?_; rintro e w' ⟨rfl, rfl⟩)
  refine HJ2.out.forget.mono ?_
  rintro e w3 ⟨rfl, hj3⟩
  have HJ3 : Hid (LJ W0 g w.heap.size 1 false w3) := hj3
  clear hj3 c2
  go_wp2_with fail
  refine (HJ3.out.cls (by omega)).mono ?_
  rintro e w4 ⟨rfl, hj4⟩
  have HJ4 : Hid (LJ W0 g w.heap.size 2 true w4) := hj4
  have c4 : w4.cell? ⟨w.heap.size, 0, none⟩ = some (.int .i64 2) := hj4.2.2.nb.cell
  clear hj4
  go_wp2_with fail
  refine (HJ4.out.ver (by omega)).mono ?_
  rintro e w5 ⟨rfl, hj5⟩
  have HJ5 : Hid (LJ W0 g w.heap.size 2 true w5) := hj5
  have c5 : w5.cell? ⟨w.heap.size, 0, none⟩ = some (.int .i64 2) := hj5.2.2.nb.cell
  clear hj5 c4
  go_wp2_with fail
  go_ret
  refine ⟨rfl, HJ.out.2.trans (HJ5.out.2.2.kx.below (fun j hj => ?_) HJ.out.2.size)⟩
  have := HG.out
  rcases hj with rfl | rfl
  · exact Nat.le_refl _
  · omega
end Go.Proofs.YtjlhmgopmdcopaaGreat

