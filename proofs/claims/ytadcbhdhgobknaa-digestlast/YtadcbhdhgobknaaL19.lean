/- digest.Map's methods: copied, at, Get, Len. -/
import Derived.Test.YtadcbhdhgobknaaL18
import Derived.Test.YtadcbhdhgobknaaL17
namespace Go.Proofs.Ytadcbhdhgobknaa
open Go.RowKit

def tNl : Tm := .mk 1 false 0 0 ByteArray.empty ByteArray.empty 0 .nil .nil ByteArray.empty 0
theorem tNl_all : tNl.all.e = 0 := by decide +kernel
theorem tNl_V (w : World) (S : Nat → Prop) : tNl.V w S .nilIface := by simp [tNl, Tm.V]
theorem tNl_nil {w : World} {S : Nat → Prop} {v : Value} (h : tNl.V w S v) : v = .nilIface := by simpa [tNl, Tm.V] using h

set_option maxRecDepth 100000 in
set_option maxHeartbeats 1000000 in
theorem copied_any (t : Tm) (v : Value) (B : Nat) (w : World) (hB : B ≤ w.heap.size) (h : t.V w (Lo B) v) (he : t.all.e = 0) :
    Calls Try.prog 107 #[v] w fun e w' => ∃ v', e = .returned v' ∧ Below w.heap.size w w' ∧ t.V w' (Fr w w') v' := by
  have HC : Hid (Calls Try.prog 57 #[v] w fun e w' => ∃ v', e = .returned (.tuple #[v', .int .i64 0]) ∧ Below w.heap.size w w' ∧ t.V w' (Fr w w') v') := Copy_ok t v B w hB h he
  clear h
  go_enter Try.func107, Try.ntmps107
  go_wp2_with fail
  refine HC.out.mono ?_
  rintro e w1 ⟨v', rfl, hb, hv⟩
  go_wp2_with fail
  go_ret
  exact ⟨v', rfl, hb, hv⟩

/-- what is told of what is kept under a text -/
def AtE (G : List (ByteArray × Tm)) (s : ByteArray) (w : World) (e : Ending) (w' : World) : Prop :=
  Below w.heap.size w w' ∧ ((∃ t v, Sp.look G s = some t ∧ e = .returned (.tuple #[v, .bool true]) ∧ t.V w' (Fr w w') v) ∨ (Sp.look G s = none ∧ e = .returned (.tuple #[.nilIface, .bool false])))

set_option maxRecDepth 100000 in
set_option maxHeartbeats 1000000 in
theorem at_any (G : List (ByteArray × Tm)) (mb : Nat) (s : ByteArray) (hs : s.size ≤ maxLen) (w : World) (h : DM w mb G) :
    Calls Try.prog 58 #[.pointer (some ⟨mb, 0, none⟩), .string s] w (AtE G s w) := by
  obtain ⟨kv, h1, h2⟩ := h.lies
  have c0 : w.cell? ⟨mb, 0, none⟩ = some kv := by rw [cell_of_row _ _ 0 _ _ _ h1]; rfl
  rcases h2 with ⟨rfl, rfl⟩ | ⟨b, es, clock, rfl, hne, hm⟩
  · have hlk : (Instr.lookup 66 (.map none) (.string s) true).run Try.prog w = .ok (.tuple #[.nilIface, .bool false]) w := by
      have hf : (Instr.findKey 9 (.string s) []).run Try.prog w = .ok none w := by
        rcases strK.find w (keyS hs) [] (fun e he => by cases he) with ⟨h1, _⟩ | ⟨j, e, _, h2, _⟩
        · exact h1
        · simp at h2
      simp [Instr.lookup, run_underlying Try.undMp, strK.check w _ (keyS hs), hf, Result.andThen]
    have HC : Hid (Calls Try.prog 107 #[.nilIface] w fun e w' => ∃ v', e = .returned v' ∧ Below w.heap.size w w' ∧ tNl.V w' (Fr w w') v') := copied_any tNl .nilIface w.heap.size w (Nat.le_refl _) (tNl_V _ _) tNl_all
    clear h h1
    go_enter Try.func58, Try.ntmps58
    go_wp2_with fail
    all_goals
      refine HC.out.mono ?_
      rintro e w1 ⟨v', rfl, hb, hv⟩
      have e1 := tNl_nil hv
      subst e1
      have HB : Hid (Below w.heap.size w w1) := hb
      clear hb hv
      go_wp2_with fail
      go_ret2
      exact ⟨HB.out, .inr ⟨rfl, rfl⟩⟩
  · rcases hm.lookup hs with ⟨hlk, hn⟩ | ⟨t, v, hlk, ht, hv⟩
    · have HN : Hid (Sp.look G s = none) := hn
      have HC : Hid (Calls Try.prog 107 #[.nilIface] w fun e w' => ∃ v', e = .returned v' ∧ Below w.heap.size w w' ∧ tNl.V w' (Fr w w') v') := copied_any tNl .nilIface w.heap.size w (Nat.le_refl _) (tNl_V _ _) tNl_all
      clear h h1 hm hn hne
      go_enter Try.func58, Try.ntmps58
      go_wp2_with fail
      all_goals
        refine HC.out.mono ?_
        rintro e w1 ⟨v', rfl, hb, hv⟩
        have e1 := tNl_nil hv
        subst e1
        have HB : Hid (Below w.heap.size w w1) := hb
        clear hb hv
        go_wp2_with fail
        go_ret2
        exact ⟨HB.out, .inr ⟨HN.out, rfl⟩⟩
    · have HN : Hid (Sp.look G s = some t) := ht
      have hcan := look_can h.can ht
      have HC : Hid (Calls Try.prog 107 #[v] w fun e w' => ∃ v', e = .returned v' ∧ Below w.heap.size w w' ∧ t.V w' (Fr w w') v') := copied_any t v w.heap.size w (Nat.le_refl _) (t.V_same (Same.refl _ _) (fun k hk => hk.1) v hv) hcan.1
      clear h h1 hm ht hne hcan hv
      go_enter Try.func58, Try.ntmps58
      go_wp2_with fail
      all_goals
        refine HC.out.mono ?_
        rintro e w1 ⟨v', rfl, hb, hv⟩
        have HB : Hid (Below w.heap.size w w1 ∧ t.V w1 (Fr w w1) v') := ⟨hb, hv⟩
        clear hb hv
        go_wp2_with fail
        go_ret2
        exact ⟨HB.out.1, .inl ⟨t, v', HN.out, rfl, HB.out.2⟩⟩

set_option maxRecDepth 100000 in
set_option maxHeartbeats 1000000 in
theorem Len_any (G : List (ByteArray × Tm)) (mb : Nat) (w : World) (h : DM w mb G) :
    Calls Try.prog 36 #[.pointer (some ⟨mb, 0, none⟩)] w fun e w' => e = .returned (.int .i64 (G.length : Int)) ∧ Below w.heap.size w w' := by
  obtain ⟨kv, h1, h2⟩ := h.lies
  have c0 : w.cell? ⟨mb, 0, none⟩ = some kv := by rw [cell_of_row _ _ 0 _ _ _ h1]; rfl
  rcases h2 with ⟨rfl, rfl⟩ | ⟨b, es, clock, rfl, hne, hm⟩
  · clear h h1
    go_enter Try.func36, Try.ntmps36
    go_wp2_with fail
    all_goals
      go_ret
      exact ⟨rfl, Below.refl _ _⟩
  · have hl : es.size = G.length := by rw [← hm.len]; simp
    have hln : ∀ ty, (Builtin.len_ #[66] ty #[.map (some b)]).run Try.prog w = .ok (.int .i64 (G.length : Int)) w := fun ty => by
      simp [Builtin.len_, run_underlying Try.undMp, MapKept.run_getObj_map hm.blk, goInt, Result.andThen, hl]
    clear h h1 hm hne hl
    go_enter Try.func36, Try.ntmps36
    go_wp2_with fail
    all_goals
      go_ret
      exact ⟨rfl, Below.refl _ _⟩
end Go.Proofs.Ytadcbhdhgobknaa

/- digest.Map's Put. -/
namespace Go.Proofs.Ytadcbhdhgobknaa
open Go.RowKit

theorem DM.made {w : World} {mb : Nat} {r : Array Value} (h1 : w.heap[mb]? = some (.cells r 68 (0, 0))) (hr : r = #[.map none]) : ((w.alloc (.map #[] 0)).setCell ⟨mb, 0, none⟩ (.map (some w.heap.size))).heap[mb]? = some (.cells #[.map (some w.heap.size)] 68 (0, 0)) ∧ MapR ((w.alloc (.map #[] 0)).setCell ⟨mb, 0, none⟩ (.map (some w.heap.size))) (Ex ((w.alloc (.map #[] 0)).setCell ⟨mb, 0, none⟩ (.map (some w.heap.size))) w.heap.size mb) w.heap.size [] #[] 0 := by
  subst hr
  have hlt := heap_lt h1
  have h2 : (w.alloc (.map #[] 0)).heap[mb]? = some (.cells #[.map none] 68 (0, 0)) := by rw [Below.heap_alloc _ _ _ hlt]; exact h1
  refine ⟨heap_setCell_same _ mb 0 _ _ _ h2, ⟨?_, rfl, fun j x g hx _ => by simp at hx, by simp [Apart]⟩⟩
  rw [heap_setCell_other _ _ _ _ (by show w.heap.size ≠ mb; omega)]
  exact heap_alloc_new w _
/-- a value was stored under a text -/
theorem DM.stored {w : World} {mb b : Nat} {G : List (ByteArray × Tm)} {es : Array MapEntry} {clock : Nat} (hrow : w.heap[mb]? = some (.cells #[.map (some b)] 68 (0, 0))) (hmb : mb < b) (hm : MapR w (Ex w b mb) b G es clock) (hc : ∀ g ∈ G, g.2.all.e = 0 ∧ g.2.Bdd) {s : ByteArray} (hs : s.size ≤ maxLen) {t : Tm} {v : Value} (hv : t.V w (Ex w b mb) v) (ht : t.all.e = 0 ∧ t.Bdd) :
    ∃ w', (Instr.mapUpdate 66 (.map (some b)) (.string s) v).run Try.prog w = .ok () w' ∧ DM w' mb (Sp.put G s t) ∧ Below mb w w' := by
  obtain ⟨es', clock', hrun, hm'⟩ := hm.update (fun k hk => hk.2.1) hs hv
  refine ⟨_, hrun, ⟨fun g hg => ?_, _, by rw [setB_other (by omega)]; exact hrow, .inr ⟨b, es', clock', rfl, hmb, ?_⟩⟩, ?_⟩
  · rcases put_mem G s t g hg with rfl | hg
    · exact ht
    · exact hc g hg
  · refine ⟨hm'.blk, hm'.len, fun j x g hx hg => ?_, hm'.apart⟩
    obtain ⟨k1, k2, k3⟩ := hm'.ent j x g hx hg
    exact ⟨k1, k2, g.2.V_same (Same.refl _ _) (fun k hk => ⟨by rw [setB_size]; exact hk.1, hk.2⟩) _ k3⟩
  · exact ⟨rfl, rfl, rfl, by rw [setB_size]; exact Nat.le_refl _, fun k hk => setB_other (by omega)⟩
end Go.Proofs.Ytadcbhdhgobknaa

/- digest.Map's Get, Put and Delete, of a key whose text is known. -/
namespace Go.Proofs.Ytadcbhdhgobknaa
open Go.RowKit

/-- what digest.Key tells -/
def KeyE (s : ByteArray) (ke : Int) (w : World) (e : Ending) (w' : World) : Prop := e = .returned (.tuple #[.string s, .int .i64 ke]) ∧ Below w.heap.size w w'
/-- what Get tells -/
def GetE (G : List (ByteArray × Tm)) (s : ByteArray) (ke : Int) (w : World) (e : Ending) (w' : World) : Prop :=
  Below w.heap.size w w' ∧ ((∃ t v, ke = 0 ∧ Sp.look G s = some t ∧ e = .returned (.tuple #[v, .bool true]) ∧ t.V w' (Fr w w') v) ∨ ((ke ≠ 0 ∨ Sp.look G s = none) ∧ e = .returned (.tuple #[.nilIface, .bool false])))

set_option maxRecDepth 100000 in
set_option maxHeartbeats 1000000 in
theorem Get_any (G : List (ByteArray × Tm)) (mb : Nat) (kv : Value) (s : ByteArray) (ke : Int) (hs : s.size ≤ maxLen) (w : World) (h : DM w mb G) (hk : Calls Try.prog 29 #[kv] w (KeyE s ke w)) :
    Calls Try.prog 35 #[.pointer (some ⟨mb, 0, none⟩), kv] w (GetE G s ke w) := by
  have HK : Hid (Calls Try.prog 29 #[kv] w (KeyE s ke w)) := hk
  have HA : Hid (∀ W, Below w.heap.size w W → Calls Try.prog 58 #[.pointer (some ⟨mb, 0, none⟩), .string s] W (AtE G s W)) := fun W hW => at_any G mb s hs W (h.call hW)
  clear h hk
  by_cases he : ke = 0
  · subst he
    go_enter Try.func35, Try.ntmps35
    go_wp2_with fail
    refine HK.out.mono ?_
    rintro e w1 ⟨rfl, hb⟩
    have HB : Hid (Below w.heap.size w w1) := hb
    clear hb
    go_wp2_with fail
    refine (HA.out _ HB.out).mono ?_
    rintro e w2 ⟨hb2, ⟨t, v, ht, rfl, hv⟩ | ⟨hn, rfl⟩⟩
    · have HB2 : Hid (Below w1.heap.size w1 w2 ∧ t.V w2 (Fr w1 w2) v) := ⟨hb2, hv⟩
      have HT : Hid (Sp.look G s = some t) := ht
      clear hb2 hv ht
      go_wp2_with fail
      go_ret2
      exact ⟨below_to HB.out HB2.out.1, .inl ⟨t, v, rfl, HT.out, rfl, t.V_same (Same.refl _ _) (fun k hk => ⟨Nat.le_trans HB.out.size hk.1, hk.2⟩) v HB2.out.2⟩⟩
    · have HB2 : Hid (Below w1.heap.size w1 w2) := hb2
      have HT : Hid (Sp.look G s = none) := hn
      clear hb2 hn
      go_wp2_with fail
      go_ret2
      exact ⟨below_to HB.out HB2.out, .inr ⟨.inr HT.out, rfl⟩⟩
  · have he' := ne_bool he
    have HN : Hid (ke ≠ 0) := he
    clear he
    go_enter Try.func35, Try.ntmps35
    go_wp2_with fail
    refine HK.out.mono ?_
    rintro e w1 ⟨rfl, hb⟩
    have HB : Hid (Below w.heap.size w w1) := hb
    clear hb
    go_wp2_with fail
    go_ret2
    exact ⟨HB.out, .inr ⟨.inl HN.out, rfl⟩⟩
end Go.Proofs.Ytadcbhdhgobknaa

/- digest.Map's Delete. -/
namespace Go.Proofs.Ytadcbhdhgobknaa
open Go.RowKit

/-- what Delete leaves -/
def DelE (G : List (ByteArray × Tm)) (s : ByteArray) (ke : Int) (mb : Nat) (w : World) (e : Ending) (w' : World) : Prop :=
  Below mb w w' ∧ (∃ v b, e = .returned (.tuple #[v, .bool b])) ∧ ((ke = 0 ∧ DM w' mb (Sp.del G s)) ∨ (ke ≠ 0 ∧ DM w' mb G))

theorem DM.deleted {w : World} {mb b : Nat} {G : List (ByteArray × Tm)} {es : Array MapEntry} {clock : Nat} (hrow : w.heap[mb]? = some (.cells #[.map (some b)] 68 (0, 0))) (hmb : mb < b) (hm : MapR w (Ex w b mb) b G es clock) (hc : ∀ g ∈ G, g.2.all.e = 0 ∧ g.2.Bdd) {s : ByteArray} (hs : s.size ≤ maxLen) :
    ∃ w', (∀ ty, (Builtin.delete_ #[66, 9] ty #[.map (some b), .string s]).run Try.prog w = .ok (.tuple #[]) w') ∧ DM w' mb (Sp.del G s) ∧ Below mb w w' := by
  obtain ⟨es', hrun, hm'⟩ := hm.delete (fun k hk => hk.2.1) hs
  refine ⟨_, hrun, ⟨fun g hg => ?_, _, by rw [setB_other (by omega)]; exact hrow, .inr ⟨b, es', clock, rfl, hmb, ?_⟩⟩, ?_⟩
  · exact hc g ((apart_del G s hm.apart).2 g hg).2
  · refine ⟨hm'.blk, hm'.len, fun j x g hx hg => ?_, hm'.apart⟩
    obtain ⟨k1, k2, k3⟩ := hm'.ent j x g hx hg
    exact ⟨k1, k2, g.2.V_same (Same.refl _ _) (fun k hk => ⟨by rw [setB_size]; exact hk.1, hk.2⟩) _ k3⟩
  · exact ⟨rfl, rfl, rfl, by rw [setB_size]; exact Nat.le_refl _, fun k hk => setB_other (by omega)⟩

set_option maxRecDepth 100000 in
set_option maxHeartbeats 1000000 in
theorem Delete_any (G : List (ByteArray × Tm)) (mb : Nat) (kv : Value) (s : ByteArray) (ke : Int) (hs : s.size ≤ maxLen) (w : World) (h : DM w mb G) (hk : Calls Try.prog 29 #[kv] w (KeyE s ke w)) :
    Calls Try.prog 34 #[.pointer (some ⟨mb, 0, none⟩), kv] w (DelE G s ke mb w) := by
  have HK : Hid (Calls Try.prog 29 #[kv] w (KeyE s ke w)) := hk
  have HA : Hid (∀ W, Below w.heap.size w W → Calls Try.prog 58 #[.pointer (some ⟨mb, 0, none⟩), .string s] W (AtE G s W)) := fun W hW => at_any G mb s hs W (h.call hW)
  have HD : Hid (DM w mb G) := h
  clear h hk
  by_cases he : ke = 0
  · subst he
    go_enter Try.func34, Try.ntmps34
    go_wp2_with fail
    refine HK.out.mono ?_
    rintro e w1 ⟨rfl, hb⟩
    have HB : Hid (Below w.heap.size w w1) := hb
    clear hb
    go_wp2_with fail
    refine (HA.out _ HB.out).mono ?_
    rintro e w2 ⟨hb2, hat⟩
    have HB2 : Hid (Below w.heap.size w w2) := below_to HB.out hb2
    obtain ⟨v, b, rfl⟩ : ∃ v b, e = .returned (.tuple #[v, .bool b]) := by
      rcases hat with ⟨t, v, _, rfl, _⟩ | ⟨_, rfl⟩
      · exact ⟨_, _, rfl⟩
      · exact ⟨_, _, rfl⟩
    clear hb2 hat
    obtain ⟨hc, kv', h1, h2⟩ := HD.out.call HB2.out
    have c0 : w2.cell? ⟨mb, 0, none⟩ = some kv' := by rw [cell_of_row _ _ 0 _ _ _ h1]; rfl
    rcases h2 with ⟨rfl, rfl⟩ | ⟨mp, es, clock, rfl, hmb, hm⟩
    · have hdl : ∀ ty, (Builtin.delete_ #[66, 9] ty #[.map none, .string s]).run Try.prog w2 = .ok (.tuple #[]) w2 := fun ty => by
        simp [Builtin.delete_, run_underlying Try.undMp, strK.check w2 _ (keyS hs), Result.andThen]
      clear h1 hc
      go_wp2_with fail
      go_ret2
      exact ⟨HB2.out.mono (Nat.le_of_lt HD.out.lt), ⟨_, _, rfl⟩, .inl ⟨rfl, HD.out.call HB2.out⟩⟩
    · obtain ⟨w3, hdl, hd3, hb3⟩ := DM.deleted h1 hmb hm hc hs
      have H3 : Hid (DM w3 mb (Sp.del G s) ∧ Below mb w2 w3) := ⟨hd3, hb3⟩
      clear h1 hc hm hd3 hb3 hmb
      go_wp2_with fail
      go_ret2
      exact ⟨(HB2.out.mono (Nat.le_of_lt HD.out.lt)).trans H3.out.2, ⟨_, _, rfl⟩, .inl ⟨rfl, H3.out.1⟩⟩
  · have he' := ne_bool he
    have HN : Hid (ke ≠ 0) := he
    clear he
    go_enter Try.func34, Try.ntmps34
    go_wp2_with fail
    refine HK.out.mono ?_
    rintro e w1 ⟨rfl, hb⟩
    have HB : Hid (Below w.heap.size w w1) := hb
    clear hb
    go_wp2_with fail
    go_ret2
    exact ⟨HB.out.mono (Nat.le_of_lt HD.out.lt), ⟨_, _, rfl⟩, .inr ⟨HN.out, HD.out.call HB.out⟩⟩
end Go.Proofs.Ytadcbhdhgobknaa

