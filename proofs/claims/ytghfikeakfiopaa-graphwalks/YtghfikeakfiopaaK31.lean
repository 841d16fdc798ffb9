/- graph.placesOf: where nodes stand. -/
import Derived.Test.YtghfikeakfiopaaK12
import Derived.Test.YtghfikeakfiopaaK15
import Derived.Deep.RegionWith
import Derived.Laws.MakeOwn
namespace Go.Proofs.Ytghfikeakfiopaa
open Go.RowKit Go.ChangeMaps

theorem pls_all {N : List Int} : ∀ {l : List Int}, (∀ x ∈ l, x ∈ N) → Sp.pls N l = some (l.map fun x => N.idxOf x)
  | [], _ => rfl
  | x :: l, h => by
    rw [Sp.pls, if_pos (h x (by simp)), pls_all (fun y hy => h y (by simp [hy]))]; rfl
theorem pls_none {N : List Int} : ∀ {l : List Int}, (∃ x ∈ l, x ∉ N) → Sp.pls N l = none
  | [], h => by obtain ⟨x, hx, _⟩ := h; simp at hx
  | y :: l, h => by
    rw [Sp.pls]
    split
    · rename_i hy
      obtain ⟨x, hx, hn⟩ := h
      rcases List.mem_cons.1 hx with rfl | hx
      · exact absurd hy hn
      · rw [pls_none ⟨x, hx, hn⟩]; rfl
    · rfl
def PlE (w : World) (N : List Int) (l : List Int) (e : Ending) (w' : World) : Prop :=
  Below w.heap.size w w' ∧ ((Sp.pls N l = none ∧ e = .returned (.tuple #[.slice none 0 0, .bool false])) ∨ ∃ ps gs c, Sp.pls N l = some ps ∧ e = .returned (.tuple #[.slice (adr gs) ps.length c, .bool true]) ∧ NdI w' gs c (ps.map fun j : Nat => (j : Int)) ∧ ∀ g, gs = some g → w.heap.size ≤ g)

set_option maxRecDepth 100000 in
set_option maxHeartbeats 4000000 in
theorem placesOf_any (gb mb xb n : Nat) (v0 : Value) (G : List (Int × Int)) (es : Array MapEntry) (ck : Nat) (N : List Int) (a : Option Addr) (cap : Nat) (l : List Int) (B : Nat) (w : World) (h : CnG w gb mb xb n v0 G es ck N) (hl0 : RefsAt w B a l) (hB : B ≤ w.heap.size) (hl : l.length * 8 ≤ 140737488355328) :
    Calls Try.prog 21 #[.pointer (some ⟨gb, 0, none⟩), .slice a l.length cap] w (PlE w N l) := by
  have HG : Hid (CnG w gb mb xb n v0 G es ck N) := h
  have HL : Hid (RefsAt w B a l) := hl0
  clear h hl0
  go_enter Try.func21, Try.ntmps21
  go_wp2
  go_loopw [13, 6] (fun v13 v6 wr => ∃ (i : Nat) (gs : Option Nat) (c : Nat), v13 = .int .i64 i ∧ v6 = .slice (adr gs) i c ∧ i ≤ l.length ∧ Hid (Below w.heap.size w wr ∧ (∀ x ∈ l.take i, x ∈ N) ∧ NdI wr gs c ((l.take i).map fun x => (N.idxOf x : Int)) ∧ ∀ g, gs = some g → w.heap.size ≤ g)) (fun v13 _ _ => l.length - (intOf v13).toNat)
  case atStart => exact ⟨0, none, 0, rfl, rfl, Nat.zero_le _, Below.refl _ _, by simp, ⟨fun _ => ⟨by simp, rfl⟩, fun g hg => by cases hg⟩, fun g hg => by cases hg⟩
  case round =>
    obtain ⟨i, gs, c, rfl, rfl, hi, HR⟩ := hrel
    by_cases hlt : i < l.length
    · obtain ⟨x, hx⟩ : ∃ x, l[i]? = some x := ⟨_, List.getElem?_eq_getElem hlt⟩
      obtain ⟨b, o, rfl, hb, hcx⟩ := (HL.out.keep (HR.out.1.mono hB)).row i (.int .u64 x) (by simp [rv, hx])
      have hbx := HL.out.bd x (List.mem_of_getElem? hx)
      have HS : Hid (CnG wr gb mb xb n v0 G es ck N) := HG.out.keep ⟨HR.out.1.os, HR.out.1.tape, HR.out.1.output, HR.out.1.size, fun j h1 _ => HR.out.1.block j h1⟩
      obtain ⟨hg1, _⟩ := HS.out.cell
      have hxm : x ∈ l := List.mem_of_getElem? hx
      rcases HS.out.look hbx.1 hbx.2 with ⟨L, hno⟩ | ⟨t, L, ht⟩
      · have hlk := L wr rfl
        have HX : Hid (Sp.pls N l = none) := pls_none ⟨x, hxm, hno⟩
        clear L hx hxm hno HS
        go_wp2
        go_ret2
        exact ⟨HR.out.1, .inl ⟨HX.out, rfl⟩⟩
      · have hlk := L wr rfl
        have hti := idx_of HS.out.nd ht
        have htk : l.take (i + 1) = l.take i ++ [x] := by rw [List.take_add_one, hx]; rfl
        have hll : ((l.take i).map fun x => (N.idxOf x : Int)).length = i := by simp; omega
        obtain ⟨g', c', w4, hap, ho4, hgr4, hor4⟩ := appI gs c ((l.take i).map fun x => (N.idxOf x : Int)) wr HR.out.2.2.1 (t : Int) (by rw [hll]; omega) 52
        rw [hll] at hap ho4
        have HF : Hid (Below w.heap.size w w4 ∧ (∀ x ∈ l.take (i + 1), x ∈ N) ∧ NdI w4 (some g') c' ((l.take (i + 1)).map fun x => (N.idxOf x : Int)) ∧ ∀ g, some g' = some g → w.heap.size ≤ g) := by
          have hsz := HR.out.1.size
          refine ⟨(HR.out.1.alloc hsz _).grown hgr4 (HR.out.1.alloc hsz _).size (fun k hk => HR.out.2.2.2 k hk), fun y hy => ?_, ⟨(fun h => by cases h), fun g hg => ?_⟩, fun g hg => ?_⟩
          · rw [htk, List.mem_append, List.mem_singleton] at hy
            rcases hy with hy | rfl
            · exact HR.out.2.1 y hy
            · exact List.mem_of_getElem? ht
          · injection hg with hg; subst hg
            rw [htk, List.map_append, List.length_append, hll]
            simpa [hti] using ho4
          · injection hg with hg; subst hg
            rcases hor4 with h | h
            · exact HR.out.2.2.2 g' h
            · omega
        clear ho4 hgr4 hor4 htk hll hti L hx hxm HS
        go_wp2_with (at_builtin; refine wpList_ranS _ rfl _ _ 52 52 rfl _ _ _ _ rfl rfl hap ?_)
        go_roundw
        case rel => exact ⟨i + 1, some g', c', by go_num, by rfl, by omega, HF.out⟩
        case measure => simp [intOf]; omega
    · obtain rfl : i = l.length := by omega
      have htk : l.take l.length = l := List.take_of_length_le (Nat.le_refl _)
      have HF : Hid (Below w.heap.size w wr ∧ Sp.pls N l = some (l.map fun x => N.idxOf x) ∧ NdI wr gs c ((l.map fun x => N.idxOf x).map fun j : Nat => (j : Int)) ∧ ∀ g, gs = some g → w.heap.size ≤ g) := by
        have h := HR.out
        rw [htk] at h
        exact ⟨h.1, pls_all h.2.1, by rw [List.map_map]; exact h.2.2.1, h.2.2.2⟩
      clear HR htk
      go_wp2
      go_ret2
      exact ⟨HF.out.1, .inr ⟨_, gs, c, HF.out.2.1, by rw [List.length_map]; rfl, HF.out.2.2.1, HF.out.2.2.2⟩⟩
end Go.Proofs.Ytghfikeakfiopaa

/- tenonref14.places: where nodes lie, as the reference tells it. -/
namespace Go.Proofs.Ytghfikeakfiopaa
open Go.RowKit Go.ChangeMaps

theorem RgN.keepR {w w' : World} {gb : Nat} {gs : Option Nat} {c : Nat} {N : List Int} (h : RgN w gb gs c N) (hg : gb < w.heap.size) (hb : Below w.heap.size w w') : RgN w' gb gs c N :=
  ⟨by rw [World.cell?_of_block (w := w) (hb.block gb hg)]; exact h.1, h.2.keep fun g hg => hb.block g (h.2.2 g hg).lt⟩

set_option maxRecDepth 100000 in
set_option maxHeartbeats 4000000 in
theorem places_any (gb : Nat) (gn : Option Nat) (cn : Nat) (N : List Int) (a : Option Addr) (cap : Nat) (l : List Int) (B : Nat) (w : World) (h : RgN w gb gn cn N) (hgb : gb < w.heap.size) (hp : N.Pairwise (· < ·)) (hn : N.length ≤ 4096) (hl0 : RefsAt w B a l) (hB : B ≤ w.heap.size) (hl : l.length * 8 ≤ 140737488355328) :
    Calls Try.prog 17 #[.pointer (some ⟨gb, 0, none⟩), .slice a l.length cap] w (PlE w N l) := by
  have HG : Hid (RgN w gb gn cn N) := h
  have HL : Hid (RefsAt w B a l) := hl0
  clear h hl0
  go_enter Try.func17, Try.ntmps17
  go_wp2
  go_loopw [7, 6] (fun v7 v6 wr => ∃ (i : Nat) (gs : Option Nat) (c : Nat), v7 = .int .i64 i ∧ v6 = .slice (adr gs) i c ∧ i ≤ l.length ∧ Hid (Below w.heap.size w wr ∧ (∀ x ∈ l.take i, x ∈ N) ∧ NdI wr gs c ((l.take i).map fun x => (N.idxOf x : Int)) ∧ ∀ g, gs = some g → w.heap.size ≤ g)) (fun v7 _ _ => l.length - (intOf v7).toNat)
  case atStart => exact ⟨0, none, 0, rfl, rfl, Nat.zero_le _, Below.refl _ _, by simp, ⟨fun _ => ⟨by simp, rfl⟩, fun g hg => by cases hg⟩, fun g hg => by cases hg⟩
  case round =>
    obtain ⟨i, gs, c, rfl, rfl, hi, HR⟩ := hrel
    by_cases hlt : i < l.length
    · obtain ⟨x, hx⟩ : ∃ x, l[i]? = some x := ⟨_, List.getElem?_eq_getElem hlt⟩
      obtain ⟨b, o, rfl, hb, hcx⟩ := (HL.out.keep (HR.out.1.mono hB)).row i (.int .u64 x) (by simp [rv, hx])
      have hbx := HL.out.bd x (List.mem_of_getElem? hx)
      have HS : Hid (RgN wr gb gn cn N) := HG.out.keepR hgb HR.out.1
      have hpc := place_any gb gn cn N x wr HS.out hp hn
      have hxm : x ∈ l := List.mem_of_getElem? hx
      by_cases hno : x ∉ N
      · have hz : Sp.plc N x = -1 := by unfold Sp.plc; rw [if_neg hno]
        rw [hz] at hpc
        have HX : Hid (Sp.pls N l = none) := pls_none ⟨x, hxm, hno⟩
        clear hz hx hxm hno HS
        go_wp2_with fail
        refine hpc.mono ?_
        rintro e w' ⟨rfl, rfl⟩
        go_wp2
        go_ret2
        exact ⟨HR.out.1, .inl ⟨HX.out, rfl⟩⟩
      · have hin : x ∈ N := Classical.byContradiction hno
        obtain ⟨t, hti⟩ : ∃ t, N.idxOf x = t := ⟨_, rfl⟩
        have hz : Sp.plc N x = (t : Int) := by unfold Sp.plc; rw [if_pos hin, hti]
        rw [hz] at hpc
        have htl : t < N.length := by rw [← hti]; exact List.idxOf_lt_length_of_mem hin
        have htk : l.take (i + 1) = l.take i ++ [x] := by rw [List.take_add_one, hx]; rfl
        have hll : ((l.take i).map fun x => (N.idxOf x : Int)).length = i := by simp; omega
        obtain ⟨g', c', w4, hap, ho4, hgr4, hor4⟩ := appI gs c ((l.take i).map fun x => (N.idxOf x : Int)) wr HR.out.2.2.1 (t : Int) (by rw [hll]; omega) 52
        rw [hll] at hap ho4
        have HF : Hid (Below w.heap.size w w4 ∧ (∀ x ∈ l.take (i + 1), x ∈ N) ∧ NdI w4 (some g') c' ((l.take (i + 1)).map fun x => (N.idxOf x : Int)) ∧ ∀ g, some g' = some g → w.heap.size ≤ g) := by
          have hsz := HR.out.1.size
          refine ⟨(HR.out.1.alloc hsz _).grown hgr4 (HR.out.1.alloc hsz _).size (fun k hk => HR.out.2.2.2 k hk), fun y hy => ?_, ⟨(fun h => by cases h), fun g hg => ?_⟩, fun g hg => ?_⟩
          · rw [htk, List.mem_append, List.mem_singleton] at hy
            rcases hy with hy | rfl
            · exact HR.out.2.1 y hy
            · exact hin
          · injection hg with hg; subst hg
            rw [htk, List.map_append, List.length_append, hll]
            simpa [hti] using ho4
          · injection hg with hg; subst hg
            rcases hor4 with h | h
            · exact HR.out.2.2.2 g' h
            · omega
        clear ho4 hgr4 hor4 htk hll hti hz hin hno hx hxm HS
        go_wp2_with fail
        refine hpc.mono ?_
        rintro e w' ⟨rfl, rfl⟩
        go_wp2_with (at_builtin; refine wpList_ranS _ rfl _ _ 52 52 rfl _ _ _ _ rfl rfl hap ?_)
        go_roundw
        case rel => exact ⟨i + 1, some g', c', by go_num, by rfl, by omega, HF.out⟩
        case measure => simp [intOf]; omega
    · obtain rfl : i = l.length := by omega
      have htk : l.take l.length = l := List.take_of_length_le (Nat.le_refl _)
      have HF : Hid (Below w.heap.size w wr ∧ Sp.pls N l = some (l.map fun x => N.idxOf x) ∧ NdI wr gs c ((l.map fun x => N.idxOf x).map fun j : Nat => (j : Int)) ∧ ∀ g, gs = some g → w.heap.size ≤ g) := by
        have h := HR.out
        rw [htk] at h
        exact ⟨h.1, pls_all h.2.1, by rw [List.map_map]; exact h.2.2.1, h.2.2.2⟩
      clear HR htk
      go_wp2
      go_ret2
      exact ⟨HF.out.1, .inr ⟨_, gs, c, HF.out.2.1, by rw [List.length_map]; rfl, HF.out.2.2.1, HF.out.2.2.2⟩⟩
end Go.Proofs.Ytghfikeakfiopaa

/- graph.walk: a walk begins. -/
namespace Go.Proofs.Ytghfikeakfiopaa
open Go.RowKit Go.ChangeMaps

@[go_sem] theorem run_store_fn (P : Program) (w : World) (a : Addr) (m : Mode) (f : Fn) (fs cs : Array Value) : (store a (.func f fs cs) m).run P w = stored P w a (.func f fs cs) m := run_store P w a _ m rfl
theorem Try.infoBo : (Try.prog.info? 4).map (fun i => (i.zero, i.size, i.bytes)) = some (some (.bool false), 1, 1) := by kernel_rfl
theorem Try.undBs : Try.prog.underlying 24 = some (.slice 4) := by kernel_rfl
set_option maxRecDepth 100000 in
set_option maxHeartbeats 4000000 in
theorem walk_new (gb mb xb n : Nat) (gs : Option Nat) (c : Nat) (G : List (Int × Int)) (es : Array MapEntry) (ck : Nat) (N : List Int) (Fe Fl : Nat) (ce cl : Array Value) (w : World) (h : CnG w gb mb xb n (.slice (adr gs) n c) G es ck N) (hn : n ≤ 4096) :
    Calls Try.prog 22 #[.pointer (some ⟨gb, 0, none⟩), .func (.func Fe) #[] ce, .func (.func Fl) #[] cl] w fun e w' => ∃ eb, e = .returned (.agg (wsC xb eb n Fe Fl ce cl)) ∧ w.heap.size ≤ eb ∧ OwnR w' 4 eb n n (bv (List.replicate n false)) ∧ Below w.heap.size w w' := by
  obtain ⟨i0, hi, hz0, hz1, hz2⟩ := info_parts Try.infoBo
  obtain ⟨Z, hM⟩ : ∃ Z, Z = madeCells (Value.bool false).cells (((n : Nat) : Int).toNat * i0.size) := ⟨_, rfl⟩
  have hMs : Z.size = n := by rw [hM, size_madeCells, hz1]; simp
  have hMt : ∀ t, t < n → Z[t]? = some (.bool false) := fun t ht => by rw [hM]; simp [madeCells, hz1, ht, Value.cells, Nat.mod_one]
  have hmake : ∀ W : World, (Instr.makeSlice 24 (.int .i64 (n : Int)) (.int .i64 (n : Int))).run Try.prog W = .ok (.slice (some ⟨W.heap.size, 0, none⟩) n n) (W.alloc (.cells Z 4)) := fun W => by
    have h := run_make (P := Try.prog) W 24 4 i0 (.bool false) Try.undBs hi hz0 .i64 .i64 (n : Int) (n : Int) (by omega) (by omega) (by rw [hz2]; omega) (by omega)
    rw [← hM] at h; simpa using h
  have HO : Hid (∀ W : World, OwnR (W.alloc (.cells Z 4)) 4 W.heap.size n n (bv (List.replicate n false))) := fun W => by
    refine ⟨by simp [bv], Z, heap_alloc_new _ _, Nat.le_refl _, by simp [maxLen]; omega, hMs, ?_⟩
    apply List.ext_getElem?
    intro t
    by_cases ht : t < n
    · rw [List.getElem?_take, if_pos ht]
      have := hMt t ht
      simp [bv, ht]
      simpa using this.symm
    · rw [List.getElem?_eq_none (by simp [bv]; omega), List.getElem?_eq_none (by simp; omega)]
  clear hM hMs hMt
  have hgl : gb < w.heap.size := (Array.getElem?_eq_some_iff.1 h.cells).1
  have hc0 : ∀ o, (w.alloc o).cell? ⟨gb, 0, none⟩ = some (.slice (adr gs) n c) := fun o => by rw [World.cell?_of_block (w := w) (Below.heap_alloc w o gb hgl)]; simp [World.cell?, h.cells]
  have hc2 : ∀ o, (w.alloc o).cell? ⟨gb, 2, none⟩ = some (.slice (some ⟨xb, 0, none⟩) n n) := fun o => by rw [World.cell?_of_block (w := w) (Below.heap_alloc w o gb hgl)]; simp [World.cell?, h.cells]
  have hd2 : ∀ o o', ((w.alloc o).alloc o').cell? ⟨gb, 2, none⟩ = some (.slice (some ⟨xb, 0, none⟩) n n) := fun o o' => by rw [World.cell?_of_block (w := w.alloc o) (Below.heap_alloc _ o' gb (by rw [al_size]; omega))]; exact hc2 o
  have hd0 : ∀ o o', ((w.alloc o).alloc o').cell? ⟨gb, 0, none⟩ = some (.slice (adr gs) n c) := fun o o' => by rw [World.cell?_of_block (w := w.alloc o) (Below.heap_alloc _ o' gb (by rw [al_size]; omega))]; exact hc0 o
  clear h hgl
  go_enter Try.func22, Try.ntmps22
  go_wp2_with fail
  go_region
  all_goals
    go_wp2_with fail
    refine bodyPost_ret (v := .agg (wsC xb (w.heap.size + 1) n Fe Fl ce cl)) (by simp [results, Try.results22, go_sem, wsC] <;> rfl) rfl ?_
    refine ⟨w.heap.size + 1, rfl, by omega, ?_, ?_⟩
    · have := HO.out (w.alloc (.cells (wsC xb (w.heap.size + 1) n Fe Fl ce cl) 64))
      rw [al_size] at this
      exact this.keep rfl
    · exact (((Below.refl _ _).alloc (Nat.le_refl _) _).alloc (by rw [al_size]; omega) _).drew
end Go.Proofs.Ytghfikeakfiopaa

