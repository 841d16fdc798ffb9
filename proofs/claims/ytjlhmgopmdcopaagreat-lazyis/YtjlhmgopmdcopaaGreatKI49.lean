/- A term that can be read as data lies in memory as a tree of terms. -/
import Derived.Test.YtjlhmgopmdcopaaGreatKI3
import Derived.ProofKit
import Derived.OpenShut
import Derived.SizedLaws
namespace Go.Proofs.YtjlhmgopmdcopaaGreat
open Go.ChangeShapes Go.WideShapes Go.ChangeAt Go.RowKit

theorem Tryz.cI : Tryz.prog.cellsOf 3 = 1 := by kernel_rfl
theorem Tryz.cB : Tryz.prog.cellsOf 4 = 1 := by kernel_rfl
theorem Tryz.cI64 : Tryz.prog.cellsOf 2 = 1 := by kernel_rfl
theorem Tryz.cF : Tryz.prog.cellsOf 22 = 1 := by kernel_rfl
theorem Tryz.cS : Tryz.prog.cellsOf 9 = 1 := by kernel_rfl
theorem Tryz.cBs : Tryz.prog.cellsOf 23 = 1 := by kernel_rfl
theorem Tryz.cRf : Tryz.prog.cellsOf 25 = 1 := by kernel_rfl
theorem Tryz.cTs : Tryz.prog.cellsOf 26 = 1 := by kernel_rfl
theorem Tryz.cEs : Tryz.prog.cellsOf 27 = 1 := by kernel_rfl
theorem Tryz.cT : Tryz.prog.cellsOf 29 = 11 := by kernel_rfl
theorem Tryz.cE : Tryz.prog.cellsOf 47 = 12 := by kernel_rfl
theorem Tryz.cU8 : Tryz.prog.cellsOf 5 = 1 := by kernel_rfl
theorem Tryz.bT : Tryz.prog.bytesOf 29 = 152 := by kernel_rfl
theorem Tryz.bE : Tryz.prog.bytesOf 47 = 168 := by kernel_rfl
theorem Tryz.bU8 : Tryz.prog.bytesOf 5 = 1 := by kernel_rfl

section
variable {H : Type} {enc : TypeId × Value → H} {W : World}

theorem add_none (b o n : Nat) : (⟨b, o, none⟩ : Addr).add n = ⟨b, o + n, none⟩ := by
  unfold Addr.add; split
  · rename_i h; rw [h]; rfl
  · rfl
theorem weights_all {P : Program} {e : TypeId} : ∀ {l : List (DataW H)} {d : DataW H}, d ∈ l → ∀ m ∈ d.weights P e, m ∈ DataW.weightsAll P e l
  | x :: l, d, hd, m, hm => by
    simp only [DataW.weightsAll, List.mem_append]
    rcases List.mem_cons.1 hd with rfl | hd
    · exact .inl hm
    · exact .inr (weights_all hd m hm)
theorem trod_float {P : Program} {base : Nat} {spare : Nat → Bool} {held : Bool} {fuel : Nat} {t : TypeId} {cs : List Value} {x : DataW H × List MemPlace} {k : FloatKind} (ht : P.underlying t = some (.float k)) (h : DataW.trod enc P W base spare held fuel t cs = some x) : ∃ n, cs = [.float k n] ∧ (Lit.float k n).wf = true := by
  cases fuel with
  | zero => simp [DataW.trod] at h
  | succ n =>
    unfold DataW.trod at h
    rw [ht] at h
    split at h <;> simp_all

/-- from 'for each place a term' to a list of terms -/
theorem TmL.build {S : Nat → Prop} {g o : Nat} : ∀ (k j : Nat), (∀ i, i < k → ∃ (t : Tm) (cs : Array Value), S g ∧ (∀ x, x < 11 → W.cell? ⟨g, o + (j + i) * 11 + x, none⟩ = cs[x]?) ∧ t.In W S cs) → ∃ l : TmL, l.len = k ∧ l.In W S (some ⟨g, o, none⟩) j
  | 0, _, _ => ⟨.nil, rfl, by simp [TmL.In]⟩
  | k + 1, j, h => by
    obtain ⟨t, cs, hg, hc, ht⟩ := h 0 (by omega)
    obtain ⟨l, hl, hin⟩ := TmL.build k (j + 1) (fun i hi => by
      have := h (i + 1) (by omega)
      rw [show j + 1 + i = j + (i + 1) by omega]; exact this)
    exact ⟨.cons t l, by simp [TmL.len, hl], by simp only [TmL.In]; exact ⟨g, o, cs, rfl, hg, hc, ht, hin⟩⟩
theorem TmF.build {S : Nat → Prop} {g o : Nat} : ∀ (k j : Nat), (∀ i, i < k → ∃ (n : ByteArray) (t : Tm) (cs : Array Value), S g ∧ W.cell? ⟨g, o + (j + i) * 12, none⟩ = some (.string n) ∧ n.size ≤ 140737488355328 ∧ (∀ x, x < 11 → W.cell? ⟨g, o + (j + i) * 12 + 1 + x, none⟩ = cs[x]?) ∧ t.In W S cs) → ∃ l : TmF, l.len = k ∧ l.In W S (some ⟨g, o, none⟩) j
  | 0, _, _ => ⟨.nil, rfl, by simp [TmF.In]⟩
  | k + 1, j, h => by
    obtain ⟨n, t, cs, hg, hn, hz, hc, ht⟩ := h 0 (by omega)
    obtain ⟨l, hl, hin⟩ := TmF.build k (j + 1) (fun i hi => by
      have := h (i + 1) (by omega)
      rw [show j + 1 + i = j + (i + 1) by omega]; exact this)
    exact ⟨.cons n t l, by simp [TmF.len, hl], by simp only [TmF.In]; exact ⟨g, o, cs, rfl, hg, hn, hz, hc, ht, hin⟩⟩

/-- what is read of one element of a slice -/
theorem elem_at {P : Program} {e : TypeId} {a : Addr} {i n : Nat} {r : List (DataW H × List MemPlace)} (hi : i < r.length) (h : (W.cells? 0 (a.add (i * P.cellsOf e)) (P.cellsOf e)).bind (DataW.trod enc P W 0 (fun _ => true) true n e) = r[i]?) :
    ∃ cs, W.cells? 0 (a.add (i * P.cellsOf e)) (P.cellsOf e) = some cs ∧ DataW.trod enc P W 0 (fun _ => true) true n e cs = some r[i] := by
  rw [List.getElem?_eq_getElem hi] at h
  exact Option.bind_eq_some_iff.1 h

/-- the reading of a term at fuel n gives its tree -/
def OpenC (enc : TypeId × Value → H) (W : World) (n : Nat) : Prop := ∀ (cs : List Value) (x : DataW H × List MemPlace), DataW.trod enc Tryz.prog W 0 (fun _ => true) true n 29 cs = some x → (∀ m ∈ x.1.weights Tryz.prog 29, m ≤ reachBytes) → ∃ t : Tm, t.In W (Lo W.heap.size) cs.toArray

theorem reach_le : reachBytes ≤ 140737488355328 := by decide

set_option maxRecDepth 100000 in
theorem open_list {n : Nat} (ih : ∀ m, m < n → OpenC enc W m) {v : Value} {x : DataW H × List MemPlace} (h : DataW.trod enc Tryz.prog W 0 (fun _ => true) true n 26 [v] = some x) (hw : ∀ m ∈ x.1.weights Tryz.prog 26, m ≤ reachBytes) :
    ∃ (l : TmL) (a : Option Addr) (cap : Nat), v = .slice a l.len cap ∧ l.len * 152 ≤ 140737488355328 ∧ l.In W (Lo W.heap.size) a 0 := by
  rcases DataW.trod_slice Tryz.underlying26 h with ⟨hcs, rfl⟩ | ⟨a, len, cap, elems, rest, n', rfl, hcs, rfl, _, hlc, hcm, hlen, hel, _, _⟩
  · simp at hcs; subst hcs; exact ⟨.nil, none, 0, rfl, by simp [TmL.len], by simp [TmL.In]⟩
  · simp at hcs; subst hcs
    have hwt : ∀ m ∈ ((elems.map (·.1)).length + (rest.map (·.1)).length) * Tryz.prog.bytesOf 29 :: (DataW.weightsAll Tryz.prog 29 (elems.map (·.1)) ++ DataW.weightsAll Tryz.prog 29 (rest.map (·.1))), m ≤ reachBytes := by
      intro m hm; exact hw m (by simpa only [DataW.weights, Tryz.underlying26] using hm)
    have hlen' : len * 152 ≤ 140737488355328 := by
      have := hwt _ (List.mem_cons_self ..)
      rw [Tryz.bT, List.length_map, List.length_map, hlen] at this
      have := reach_le
      omega
    by_cases h0 : len = 0
    · subst h0; exact ⟨.nil, some a, cap, rfl, by simp [TmL.len], by simp [TmL.In]⟩
    · obtain ⟨b, o, spot⟩ := a
      have hsp : spot = none := by
        obtain ⟨cs, hc, _⟩ := elem_at (i := 0) (by omega) (hel 0 (by omega))
        rw [Tryz.cT] at hc
        obtain ⟨_, hl11, hcell⟩ := World.cells?_some hc
        have h00 := hcell 0 (by omega)
        rw [List.getElem?_eq_getElem (by omega)] at h00
        simpa [Addr.add] using World.cell?_spot h00
      subst hsp
      obtain ⟨l, hl, hin⟩ := TmL.build (W := W) (S := Lo W.heap.size) (g := b) (o := o) len 0 (fun i hi => by
        obtain ⟨cs, hc, ht⟩ := elem_at (by omega) (hel i hi)
        obtain ⟨t, hin⟩ := ih n' (by omega) cs _ ht (fun m hm => hwt m (List.mem_cons_of_mem _ (List.mem_append_left _ (weights_all (List.mem_map.2 ⟨_, List.getElem_mem _, rfl⟩) m hm))))
        rw [Tryz.cT, add_none] at hc
        obtain ⟨_, hl11, hcell⟩ := World.cells?_some hc
        refine ⟨t, cs.toArray, ?_, ?_, hin⟩
        · have h00 := hcell 0 (by omega)
          rw [List.getElem?_eq_getElem (by omega), add_none] at h00
          exact World.block_lt_of_cell? _ _ h00
        · intro x hx
          have := hcell x hx
          rw [add_none] at this
          rw [Nat.zero_add, this]; simp)
      subst hl
      exact ⟨l, some ⟨b, o, none⟩, cap, rfl, hlen', hin⟩

set_option maxRecDepth 100000 in
theorem open_entries {n : Nat} (ih : ∀ m, m < n → OpenC enc W m) {v : Value} {x : DataW H × List MemPlace} (h : DataW.trod enc Tryz.prog W 0 (fun _ => true) true n 27 [v] = some x) (hw : ∀ m ∈ x.1.weights Tryz.prog 27, m ≤ reachBytes) :
    ∃ (l : TmF) (a : Option Addr) (cap : Nat), v = .slice a l.len cap ∧ l.len * 168 ≤ 140737488355328 ∧ l.In W (Lo W.heap.size) a 0 := by
  rcases DataW.trod_slice Tryz.underlying27 h with ⟨hcs, rfl⟩ | ⟨a, len, cap, elems, rest, n', rfl, hcs, rfl, _, hlc, hcm, hlen, hel, _, _⟩
  · simp at hcs; subst hcs; exact ⟨.nil, none, 0, rfl, by simp [TmF.len], by simp [TmF.In]⟩
  · simp at hcs; subst hcs
    have hwt : ∀ m ∈ ((elems.map (·.1)).length + (rest.map (·.1)).length) * Tryz.prog.bytesOf 47 :: (DataW.weightsAll Tryz.prog 47 (elems.map (·.1)) ++ DataW.weightsAll Tryz.prog 47 (rest.map (·.1))), m ≤ reachBytes := by
      intro m hm; exact hw m (by simpa only [DataW.weights, Tryz.underlying27] using hm)
    have hlen' : len * 168 ≤ 140737488355328 := by
      have := hwt _ (List.mem_cons_self ..)
      rw [Tryz.bE, List.length_map, List.length_map, hlen] at this
      have := reach_le
      omega
    by_cases h0 : len = 0
    · subst h0; exact ⟨.nil, some a, cap, rfl, by simp [TmF.len], by simp [TmF.In]⟩
    · obtain ⟨b, o, spot⟩ := a
      have hsp : spot = none := by
        obtain ⟨cs, hc, _⟩ := elem_at (i := 0) (by omega) (hel 0 (by omega))
        rw [Tryz.cE] at hc
        obtain ⟨_, hl11, hcell⟩ := World.cells?_some hc
        have h00 := hcell 0 (by omega)
        rw [List.getElem?_eq_getElem (by omega)] at h00
        simpa [Addr.add] using World.cell?_spot h00
      subst hsp
      obtain ⟨l, hl, hin⟩ := TmF.build (W := W) (S := Lo W.heap.size) (g := b) (o := o) len 0 (fun i hi => by
        obtain ⟨cs, hc, ht⟩ := elem_at (by omega) (hel i hi)
        rw [Tryz.cE, add_none] at hc
        obtain ⟨_, hl12, hcell⟩ := World.cells?_some hc
        have hie : i < elems.length := by omega
        have hwe : ∀ m ∈ (elems[i]).1.weights Tryz.prog 47, m ≤ reachBytes := fun m hm => hwt m (List.mem_cons_of_mem _ (List.mem_append_left _ (weights_all (List.mem_map.2 ⟨elems[i], List.getElem_mem hie, rfl⟩) m hm)))
        obtain ⟨xs, n2, rfl, hx, hlc2, hxs, hf⟩ := DataW.trod_struct Tryz.underlying47 ht
        match cs, hl12 with
        | [c0, c1, c2, c3, c4, c5, c6, c7, c8, c9, c10, c11], _ =>
          match xs, hxs with
          | [y0, y1], _ =>
            have f0 := hf 0 _ rfl
            have f1 := hf 1 _ rfl
            simp [Tryz.cS, Tryz.cT] at f0 f1
            obtain ⟨s, hs, hy0, _⟩ := DataW.trod_string Tryz.underlying9 f0
            simp at hs; subst hs
            rw [hx] at hwe
            have hwe' : ∀ m ∈ DataW.weightsEach Tryz.prog [9, 29] [y0.1, y1.1], m ≤ reachBytes := by
              intro m hm; exact hwe m (by simpa only [DataW.weights, Tryz.underlying47, List.map_cons, List.map_nil] using hm)
            obtain ⟨t, hin⟩ := ih n2 (by omega) _ _ f1 (fun m hm => hwe' m (DataW.weights_mem_each (j := 1) rfl rfl m hm))
            have hsz : s.size ≤ 140737488355328 := by
              have := hwe' s.size (DataW.weights_mem_each (j := 0) rfl rfl s.size (by rw [hy0]; simp [DataW.weights]))
              have := reach_le; omega
            refine ⟨s, t, _, ?_, ?_, hsz, ?_, hin⟩
            · have h00 := hcell 0 (by omega)
              rw [add_none] at h00
              exact World.block_lt_of_cell? _ _ h00
            · have h00 := hcell 0 (by omega)
              rw [add_none] at h00
              rw [Nat.zero_add]; exact h00
            · intro x hx'
              have := hcell (x + 1) (by omega)
              rw [add_none] at this
              rw [Nat.zero_add, show o + i * 12 + 1 + x = o + i * 12 + (x + 1) by omega, this]; simp)
      subst hl
      exact ⟨l, some ⟨b, o, none⟩, cap, rfl, hlen', hin⟩

theorem byte_of {len : Nat} (f : Nat → Int) (hf : ∀ i, i < len → 0 ≤ f i ∧ f i ≤ 255) : ∃ l : ByteArray, l.size = len ∧ ∀ i, i < len → Sp.byte l i = f i := by
  refine ⟨⟨((List.range len).map fun i => UInt8.ofNat (f i).toNat).toArray⟩, by simp [ByteArray.size], fun i hi => ?_⟩
  have h := hf i hi
  unfold Sp.byte
  rw [Array.getD, dif_pos (by simpa using hi)]
  simp
  omega

set_option maxRecDepth 100000 in
theorem open_bytesC {n : Nat} {v : Value} {x : DataW H × List MemPlace} (h : DataW.trod enc Tryz.prog W 0 (fun _ => true) true n 23 [v] = some x) (hw : ∀ m ∈ x.1.weights Tryz.prog 23, m ≤ reachBytes) :
    ∃ (l : ByteArray) (a : Option Addr) (cap : Nat), v = .slice a l.size cap ∧ l.size ≤ 140737488355328 ∧ BytesAt W (Lo W.heap.size) a l ∧ l.size ≤ cap := by
  rcases DataW.trod_slice Tryz.underlying23 h with ⟨hcs, rfl⟩ | ⟨a, len, cap, elems, rest, n', rfl, hcs, rfl, _, hlc, hcm, hlen, hel, _, _⟩
  · simp at hcs; subst hcs; exact ⟨ByteArray.empty, none, 0, rfl, by simp, fun j hj => by simp at hj, by simp⟩
  · simp at hcs; subst hcs
    have hlen' : len ≤ 140737488355328 := by
      have := hw (((elems.map (·.1)).length + (rest.map (·.1)).length) * Tryz.prog.bytesOf 5) (by simp only [DataW.weights, Tryz.underlying23]; exact List.mem_cons_self ..)
      rw [Tryz.bU8, List.length_map, List.length_map, hlen] at this
      have := reach_le
      omega
    have hread : ∀ i, i < len → ∃ x : Int, W.cell? (a.add i) = some (.int .u8 x) ∧ 0 ≤ x ∧ x ≤ 255 := by
      intro i hi
      obtain ⟨cs, hc, ht⟩ := elem_at (by omega) (hel i hi)
      obtain ⟨z, rfl, _, hz⟩ := DataW.trod_int Tryz.underlying5 ht
      rw [Tryz.cU8, Nat.mul_one] at hc
      obtain ⟨_, _, hcell⟩ := World.cells?_some hc
      have := hcell 0 (by omega)
      have hb := bounds_u8 hz
      exact ⟨z, by simpa [Addr.add] using this, hb.1, hb.2⟩
    obtain ⟨l, hl, hb⟩ := byte_of (len := len) (fun i => match W.cell? (a.add i) with | some (.int .u8 x) => x | _ => 0) (fun i hi => by
      obtain ⟨x, hx, h1, h2⟩ := hread i hi
      rw [hx]; exact ⟨h1, h2⟩)
    subst hl
    refine ⟨l, some a, cap, rfl, hlen', ?_, hlc⟩
    intro j hj
    obtain ⟨z, hz, _, _⟩ := hread j hj
    have hbj := hb j hj
    rw [hz] at hbj
    obtain ⟨b, o, spot⟩ := a
    have hsp : spot = none := by
      obtain ⟨z0, hz0, _, _⟩ := hread 0 (by omega)
      simpa [Addr.add] using World.cell?_spot hz0
    subst hsp
    rw [add_none] at hz
    exact ⟨b, o, rfl, World.block_lt_of_cell? _ _ hz, by rw [hbj]; exact hz⟩

theorem open_bytes {n : Nat} {v : Value} {x : DataW H × List MemPlace} (h : DataW.trod enc Tryz.prog W 0 (fun _ => true) true n 23 [v] = some x) (hw : ∀ m ∈ x.1.weights Tryz.prog 23, m ≤ reachBytes) :
    ∃ (l : ByteArray) (a : Option Addr) (cap : Nat), v = .slice a l.size cap ∧ l.size ≤ 140737488355328 ∧ BytesAt W (Lo W.heap.size) a l := by
  obtain ⟨l, a, cap, h1, h2, h3, _⟩ := open_bytesC h hw
  exact ⟨l, a, cap, h1, h2, h3⟩

theorem wf_f64 {n : Nat} (h : (Lit.float .f64 n).wf = true) : n < 18446744073709551616 := by
  simp [Lit.wf] at h; omega

set_option maxRecDepth 100000 in
theorem open_term (n : Nat) : OpenC enc W n := by
  induction n using Nat.strongRecOn with
  | ind n ih =>
    intro cs x h hw
    obtain ⟨xs, n2, rfl, rfl, hlc, hxs, hf⟩ := DataW.trod_struct Tryz.underlying29 h
    rw [Tryz.cT] at hlc
    match cs, hlc with
    | [c0, c1, c2, c3, c4, c5, c6, c7, c8, c9, c10], _ =>
      match xs, hxs with
      | [y0, y1, y2, y3, y4, y5, y6, y7, y8, y9, y10], _ =>
        have f0 := hf 0 _ rfl
        have f1 := hf 1 _ rfl
        have f2 := hf 2 _ rfl
        have f3 := hf 3 _ rfl
        have f4 := hf 4 _ rfl
        have f5 := hf 5 _ rfl
        have f6 := hf 6 _ rfl
        have f7 := hf 7 _ rfl
        have f8 := hf 8 _ rfl
        have f9 := hf 9 _ rfl
        have f10 := hf 10 _ rfl
        simp [Tryz.cI] at f0
        simp [Tryz.cB] at f1
        simp [Tryz.cI64] at f2
        simp [Tryz.cF] at f3
        simp [Tryz.cS] at f4
        simp [Tryz.cBs] at f5
        simp [Tryz.cRf] at f6
        simp [Tryz.cTs] at f7
        simp [Tryz.cEs] at f8
        simp [Tryz.cS] at f9
        simp [Tryz.cI] at f10
        clear hf
        have hwe : ∀ m ∈ DataW.weightsEach Tryz.prog [3, 4, 2, 22, 9, 23, 25, 26, 27, 9, 3] [y0.1, y1.1, y2.1, y3.1, y4.1, y5.1, y6.1, y7.1, y8.1, y9.1, y10.1], m ≤ reachBytes := by
          intro m hm; exact hw m (by simpa only [DataW.weights, Tryz.underlying29, List.map_cons, List.map_nil] using hm)
        obtain ⟨k, e0, _, w0⟩ := DataW.trod_int Tryz.underlying3 f0
        obtain ⟨b, e1, _⟩ := DataW.trod_bool Tryz.underlying4 f1
        obtain ⟨i, e2, _, w2⟩ := DataW.trod_int Tryz.underlying2 f2
        obtain ⟨f, e3, w3⟩ := trod_float Tryz.underlying22 f3
        obtain ⟨tx, e4, z4, _⟩ := DataW.trod_string Tryz.underlying9 f4
        obtain ⟨rf, e6, _, w6⟩ := DataW.trod_int Tryz.underlying25 f6
        obtain ⟨c, e9, z9, _⟩ := DataW.trod_string Tryz.underlying9 f9
        obtain ⟨vr, e10, _, w10⟩ := DataW.trod_int Tryz.underlying3 f10
        obtain ⟨lb, ab, cb, rfl, hlb, hb⟩ := open_bytes f5 (fun m hm => hwe m (DataW.weights_mem_each (j := 5) rfl rfl m hm))
        obtain ⟨l, al, cl, rfl, hll, hl⟩ := open_list (fun m hm => ih m (by omega)) f7 (fun m hm => hwe m (DataW.weights_mem_each (j := 7) rfl rfl m hm))
        obtain ⟨fs, af, cf, rfl, hlf, hfs⟩ := open_entries (fun m hm => ih m (by omega)) f8 (fun m hm => hwe m (DataW.weights_mem_each (j := 8) rfl rfl m hm))
        have htx : tx.size ≤ 140737488355328 := by
          have := hwe tx.size (DataW.weights_mem_each (j := 4) rfl rfl tx.size (by rw [z4]; simp [DataW.weights]))
          have := reach_le; omega
        have hc : c.size ≤ 140737488355328 := by
          have := hwe c.size (DataW.weights_mem_each (j := 9) rfl rfl c.size (by rw [z9]; simp [DataW.weights]))
          have := reach_le; omega
        simp at e0 e1 e2 e3 e4 e6 e9 e10
        subst e0 e1 e2 e3 e4 e6 e9 e10
        refine ⟨.mk k b i f tx lb rf l fs c vr, ?_⟩
        simp only [Tm.In]
        have a0 := bounds_i64 w0
        have a2 := bounds_i64 w2
        have a6 := bounds_u64 w6
        have a10 := bounds_i64 w10
        exact ⟨ab, cb, al, cl, af, cf, rfl, ⟨a0.1, a0.2, a2.1, a2.2, wf_f64 w3, a6.1, a6.2, a10.1, a10.2, htx, hc, hlb, hll, hlf⟩, hb, hl, hfs⟩
end
end Go.Proofs.YtjlhmgopmdcopaaGreat

