/- graph.spread. -/
import Derived.Test.YtikhpbidbcfedaaGreatKp15
import Derived.Test.YtikhpbidbcfedaaGreatKp14
import Derived.Test.YtikhpbidbcfedaaGreatKp12
namespace Go.Proofs.YtikhpbidbcfedaaGreat
open Go.RowKit Go.ChangeMaps

theorem met_pre {wo : Int} {s : Bf} {n p k i x : Nat} (h : s.ord[i]? = some x) : (s.met wo n p k).ord[i]? = some x := by
  unfold Bf.met; split
  · simp only [Bf.put]; rw [List.getElem?_append_left (List.getElem?_eq_some_iff.1 h).1]; exact h
  · exact h
theorem row_pre {wo : Int} {p : Nat} : ∀ (l : List Nat) (s : Bf) {i x : Nat}, s.ord[i]? = some x → (Bf.row wo p l s).ord[i]? = some x
  | [], s, i, x, h => h
  | n :: l, s, i, x, h => by rw [Bf.row]; exact row_pre l _ (met_pre h)
def SprE (w : World) (L : Nat) (s : Bf) (e : Ending) (w' : World) : Prop := ∃ gi gs c, e = .returned (.agg #[.slice (some ⟨gi, 0, none⟩) L L, .slice (adr gs) s.ord.length c]) ∧ OwnR w' 3 gi L L (iv (Sp.byl L s)) ∧ NdI w' gs c (s.ord.map fun j : Nat => (j : Int)) ∧ w.heap.size ≤ gi ∧ (∀ g, gs = some g → w.heap.size ≤ g ∧ g ≠ gi) ∧ Below w.heap.size w w'

set_option maxRecDepth 100000 in
set_option maxHeartbeats 8000000 in
theorem spread_any (gb : Nat) (N : List Int) (nx : Nat → List Nat) (gn : Option Nat) (cn lo xb : Nat) (bl : Nat → Option Nat) (cp : Nat → Nat) (a : Option Addr) (cap : Nat) (src : List Nat) (wo : Int) (w : World) (h : GR w gb N nx gn cn lo xb bl cp) (hs : InI w a src) (hsb : ∀ x ∈ src, x < N.length) (hb : ∀ i, ∀ x ∈ nx i, x < N.length) (hn : N.length ≤ 4096) (hl : src.length * 8 ≤ 140737488355328) (hnl : ∀ p, (nx p).length ≤ 4096) :
    Calls Tryz.prog 30 #[.pointer (some ⟨gb, 0, none⟩), .slice a src.length cap, .int .i64 wo] w (SprE w N.length (Bf.all nx wo N.length src)) := by
  have HG : Hid (GR w gb N nx gn cn lo xb bl cp ∧ InI w a src) := ⟨h, hs⟩
  have HB : Hid ((∀ x ∈ src, x < N.length) ∧ (∀ i, ∀ x ∈ nx i, x < N.length) ∧ ∀ p, (nx p).length ≤ 4096) := ⟨hsb, hb, hnl⟩
  have HN : Hid (∀ W : World, Below w.heap.size w W → Calls Tryz.prog 38 #[.pointer (some ⟨gb, 0, none⟩)] W fun e w' => ∃ gi, e = .returned (.slice (some ⟨gi, 0, none⟩) N.length N.length) ∧ OwnR w' 3 gi N.length N.length (iv (List.replicate N.length (-1))) ∧ W.heap.size ≤ gi ∧ Below W.heap.size W w') := fun W hW => nobodies_any gb N nx gn cn lo xb bl cp W (h.keep hW) hn
  clear h hs hsb hb hnl
  obtain ⟨L, hL⟩ : ∃ L, N.length = L := ⟨_, rfl⟩
  have HL : Hid (N.length = L) := hL
  rw [hL] at hn HN ⊢
  clear hL
  go_enter Tryz.func30, Tryz.ntmps30
  go_wp2_with fail
  obtain ⟨W2, hW2⟩ : ∃ W2, (w.alloc (.cells #[.int .i64 wo] 3)).alloc (.cells #[.slice none 0 0, .slice none 0 0] 65) = W2 := ⟨_, rfl⟩
  rw [hW2]
  have hz2 : W2.heap.size = w.heap.size + 2 := by rw [← hW2]; simp
  have hbw2 : Below w.heap.size w W2 := by rw [← hW2]; exact ((Below.refl _ _).alloc (Nat.le_refl _) _).alloc (by rw [al_size]; omega) _
  have hwb2 : W2.cell? ⟨w.heap.size, 0, none⟩ = some (.int .i64 wo) := by rw [← hW2, World.cell?_of_block (w := w.alloc (.cells #[.int .i64 wo] 3)) (Below.heap_alloc _ _ _ (by show w.heap.size < _; rw [al_size]; omega))]; simp
  have HRB : Hid (W2.heap[w.heap.size + 1]? = some (.cells #[.slice none 0 0, .slice none 0 0] 65 (0, 0))) := by
    show _ = _
    rw [← hW2]; have := heap_alloc_new (w.alloc (.cells #[.int .i64 wo] 3)) (.cells #[.slice none 0 0, .slice none 0 0] 65 (0, 0)); rw [al_size] at this; exact this
  refine (HN.out W2 hbw2).mono ?_
  rintro e w3 ⟨gi, rfl, ho3, hgi3, hb3⟩
  have hz3 := hb3.size
  have hgl3 := ho3.lt
  have H3 : Hid (∀ o : Obj, o = .cells #[.slice (some ⟨gi, 0, none⟩) L L, .slice none 0 0] 65 (0, 0) → ∀ W4 : World, W4.heap[w3.heap.size]? = some o → W4.heap.size = w3.heap.size + 1 → (∀ k, k < w3.heap.size → W4.heap[k]? = w3.heap[k]?) → W4.os = w3.os → W4.tape = w3.tape → W4.output = w3.output → SpI W2 L gi w3.heap.size w.heap.size wo (Bf.ini wo (src.take 0) Bf.no) none 0 W4) := fun o ho W4 h1 h2 h3 h4 h5 h6 => by
    refine ⟨⟨h4.trans hb3.os, h5.trans hb3.tape, h6.trans hb3.output, by omega, fun k hk => (h3 k (by omega)).trans (hb3.block k hk)⟩, by rw [h1, ho]; rfl, ?_, ?_, ⟨fun _ => ⟨rfl, rfl⟩, fun g hg => by cases hg⟩, ⟨hgi3, hz3, by omega, by omega, by omega⟩, (fun g hg => by cases hg), Bok.no _⟩
    · rw [World.cell?_of_block (w := W2) ((h3 w.heap.size (by omega)).trans (hb3.block w.heap.size (by omega)))]; exact hwb2
    · show OwnR _ _ _ _ _ (iv (Sp.byl L Bf.no))
      rw [byl_no]; exact ho3.keep (h3 gi hgl3)
  have HM : Hid (∀ (s : Bf) (gs : Option Nat) (c n p k : Nat) (wr : World), SpI W2 L gi w3.heap.size w.heap.size wo s gs c wr → n < L → Calls Tryz.prog 53 #[.int .i64 (n : Int), .int .i64 (p : Int), .pointer (some ⟨w.heap.size, 0, none⟩), .pointer (some ⟨w3.heap.size, 0, none⟩)] wr fun e w' => ∃ gs' c', e = .returned (.tuple #[]) ∧ SpI W2 L gi w3.heap.size w.heap.size wo (s.met wo n p k) gs' c' w') := fun s gs c n p k wr h hnl => meet_any W2 L gi w3.heap.size w.heap.size wo s gs c n p k wr h hnl hn
  have HZ : Hid (Below w.heap.size w W2 ∧ W2.heap.size = w.heap.size + 2) := ⟨hbw2, hz2⟩
  clear ho3 hgi3 hb3 hz3 hgl3 hwb2 hbw2 hz2 hW2
  go_wp2_with fail
  go_loopw [20] (fun v20 wr => ∃ (i : Nat) (gs : Option Nat) (c : Nat), v20 = .int .i64 i ∧ i ≤ src.length ∧ Hid (SpI W2 L gi w3.heap.size w.heap.size wo (Bf.ini wo (src.take i) Bf.no) gs c wr)) (fun v20 _ => src.length - (intOf v20).toNat)
  case atStart => exact ⟨0, none, 0, rfl, Nat.zero_le _, H3.out _ rfl _ (heap_alloc_new w3 _) (al_size _ _) (fun k hk => Below.heap_alloc _ _ _ hk) rfl rfl rfl⟩
  case round =>
    clear H3
    obtain ⟨i, gs, c, rfl, hi, HS⟩ := hrel
    by_cases hlt : i < src.length
    · have hltz : (i : Int) < (src.length : Int) := by omega
      obtain ⟨n, hx⟩ : ∃ n, src[i]? = some n := ⟨_, List.getElem?_eq_getElem hlt⟩
      obtain ⟨b, o, rfl, hcx⟩ := ((HG.out.2.keep HZ.out.1).keep HS.out.bel).at_ hx
      have hnL : n < L := by rw [← HL.out]; exact HB.out.1 n (List.mem_of_getElem? hx)
      have HN2 : Hid (Bf.ini wo (src.take (i + 1)) Bf.no = (Bf.ini wo (src.take i) Bf.no).met wo n n 0) := ini_snoc hx
      have HC := HM.out (Bf.ini wo (src.take i) Bf.no) gs c n n 0 wr HS.out hnL
      have HC2 : Hid (Calls Tryz.prog 53 #[.int .i64 (n : Int), .int .i64 (n : Int), .pointer (some ⟨w.heap.size, 0, none⟩), .pointer (some ⟨w3.heap.size, 0, none⟩)] wr fun e w' => ∃ gs' c', e = .returned (.tuple #[]) ∧ SpI W2 L gi w3.heap.size w.heap.size wo ((Bf.ini wo (src.take i) Bf.no).met wo n n 0) gs' c' w') := HC
      clear HC hx
      go_wp2_with fail
      refine HC2.out.mono ?_
      rintro e w4 ⟨gs', c', rfl, h4⟩
      rw [← HN2.out] at h4
      have HS4 : Hid (SpI W2 L gi w3.heap.size w.heap.size wo (Bf.ini wo (src.take (i + 1)) Bf.no) gs' c' w4) := h4
      clear h4
      go_wp2_with fail
      go_roundw
      case rel => exact ⟨i + 1, gs', c', by go_num, by omega, HS4.out⟩
      case measure => simp [intOf]; omega
    · obtain rfl : i = src.length := by omega
      have htk : src.take src.length = src := List.take_of_length_le (Nat.le_refl _)
      rw [htk] at HS
      clear htk hi hlt
      have HALL : Hid (Bf.all nx wo L src = Bf.rnd nx wo (Bf.ini wo src Bf.no) L) := rfl
      have HR0 : Hid (Bf.rnd nx wo (Bf.ini wo src Bf.no) 0 = Bf.ini wo src Bf.no) := rfl
      have HSC : Hid (∀ k, Bf.rnd nx wo (Bf.ini wo src Bf.no) (k + 1) = if k < (Bf.rnd nx wo (Bf.ini wo src Bf.no) k).ord.length then Bf.row wo ((Bf.rnd nx wo (Bf.ini wo src Bf.no) k).ord.getD k 0) (nx ((Bf.rnd nx wo (Bf.ini wo src Bf.no) k).ord.getD k 0)) (Bf.rnd nx wo (Bf.ini wo src Bf.no) k) else Bf.rnd nx wo (Bf.ini wo src Bf.no) k) := fun k => rfl
      have HEN : Hid (∀ k, (Bf.rnd nx wo (Bf.ini wo src Bf.no) k).ord.length ≤ k → k ≤ L → Bf.rnd nx wo (Bf.ini wo src Bf.no) L = Bf.rnd nx wo (Bf.ini wo src Bf.no) k) := fun k h1 h2 => rnd_end h1 h2
      rw [← HR0.out] at HS
      clear HR0
      generalize Bf.rnd nx wo (Bf.ini wo src Bf.no) = R at HS HALL HSC HEN
      go_wp2_with fail
      go_loopw [11] (fun v11 wr => ∃ (k : Nat) (gs : Option Nat) (c : Nat), v11 = .int .i64 k ∧ k ≤ (R k).ord.length ∧ Hid (SpI W2 L gi w3.heap.size w.heap.size wo (R k) gs c wr)) (fun v11 _ => L - (intOf v11).toNat)
      case atStart => exact ⟨0, gs, c, rfl, Nat.zero_le _, HS.out⟩
      case round =>
        clear HS
        obtain ⟨k, gs, c, rfl, hk, HS⟩ := hrel
        have hmL : (R k).ord.length ≤ L := HS.out.ok.len
        have hs1 : wr.cell? ⟨w3.heap.size, 1, none⟩ = some (.slice (adr gs) (R k).ord.length c) := by simp [World.cell?, HS.out.box]
        by_cases hkm : k < (R k).ord.length
        · have hkz : (k : Int) < ((R k).ord.length : Int) := by omega
          obtain ⟨p, hp⟩ : ∃ p, (R k).ord[k]? = some p := ⟨_, List.getElem?_eq_getElem hkm⟩
          have hpL : p < L := HS.out.ok.bd p (List.mem_of_getElem? hp)
          have hpz : (p : Int) < (L : Int) := by omega
          have HPK : Hid (R (k + 1) = Bf.row wo p (nx p) (R k)) := by
            show _ = _
            rw [HSC.out k, if_pos hkm]
            have : (R k).ord.getD k 0 = p := by rw [List.getD_eq_getElem?_getD, hp]; rfl
            rw [this]
          obtain ⟨go, rfl⟩ : ∃ g, gs = some g := by
            cases gs with
            | some g => exact ⟨g, rfl⟩
            | none => have := (HS.out.ord.1 rfl).1; rw [List.map_eq_nil_iff] at this; rw [this] at hkm; simp at hkm
          have hpc : wr.cell? ⟨go, k, none⟩ = some (.int .i64 (p : Nat)) := (HS.out.ord.2 go rfl).cell (by simp [iv, hp])
          have HPP : Hid (∀ (j : Nat), p ∈ (Bf.row wo p ((nx p).take j) (R k)).ord ∧ (Bf.row wo p ((nx p).take j) (R k)).ord[k]? = some p) := fun j => by
            have h1 := row_pre (wo := wo) (p := p) ((nx p).take j) (R k) hp
            exact ⟨List.mem_of_getElem? h1, h1⟩
          have HGk : Hid (GR wr gb N nx gn cn lo xb bl cp) := (HG.out.1.keep HZ.out.1).keep HS.out.bel
          have hc2 : wr.cell? ⟨gb, 2, none⟩ = some (.slice (some ⟨xb, 0, none⟩) L L) := by rw [← HL.out]; exact HGk.out.c2
          have hcr : wr.cell? ⟨xb, p, none⟩ = some (.slice (adr (bl p)) (nx p).length (cp p)) := (HGk.out.row (by rw [HL.out]; exact hpL)).1
          have hnl := HB.out.2.2 p
          have hads : adr (some go) = some ⟨go, 0, none⟩ := rfl
          clear hp
          go_wp2_with fail
          go_region
          go_wp2_with fail
          have HS0 : Hid (SpI W2 L gi w3.heap.size w.heap.size wo (Bf.row wo p ((nx p).take 0) (R k)) (some go) c wr.drew) := HS.out.keep (Below.refl _ _).drew
          have HKL : Hid (k < (R k).ord.length) := hkm
          have HML : Hid ((R k).ord.length ≤ (R (k + 1)).ord.length) := by rw [HPK.out]; exact row_len _ _
          have hkL : k < L := by omega
          clear hpc hc2 hcr HGk hkm hkz HS hads hs1 hmL hk
          go_loopw [48] (fun v48 wr2 => ∃ (j : Nat) (gs : Option Nat) (c : Nat), v48 = .int .i64 j ∧ j ≤ (nx p).length ∧ Hid (SpI W2 L gi w3.heap.size w.heap.size wo (Bf.row wo p ((nx p).take j) (R k)) gs c wr2)) (fun v48 _ => (nx p).length - (intOf v48).toNat)
          case atStart => exact ⟨0, some go, c, rfl, Nat.zero_le _, HS0.out⟩
          case round =>
            clear HS0
            obtain ⟨j, gs, c, rfl, hj, HS⟩ := hrel
            by_cases hlt : j < (nx p).length
            · have hltz : (j : Int) < ((nx p).length : Int) := by omega
              obtain ⟨n, hx⟩ : ∃ n, (nx p)[j]? = some n := ⟨_, List.getElem?_eq_getElem hlt⟩
              have HGk : Hid (GR wr gb N nx gn cn lo xb bl cp) := (HG.out.1.keep HZ.out.1).keep HS.out.bel
              obtain ⟨b, hbp, hcx⟩ := (HGk.out.row (by rw [HL.out]; exact hpL)).2 j n hx
              have had : adr (bl p) = some ⟨b, 0, none⟩ := by rw [hbp]; rfl
              have hnL : n < L := by rw [← HL.out]; exact HB.out.2.1 p n (List.mem_of_getElem? hx)
              have HN2 : Hid (∃ q, Bf.row wo p ((nx p).take (j + 1)) (R k) = (Bf.row wo p ((nx p).take j) (R k)).met wo n p q) := ⟨_, row_snoc hx⟩
              obtain ⟨hpm, hpk⟩ := HPP.out j
              obtain ⟨q, hq⟩ := HN2.out
              have HN3 : Hid (Bf.row wo p ((nx p).take (j + 1)) (R k) = (Bf.row wo p ((nx p).take j) (R k)).met wo n p q) := hq
              clear hx HGk hbp HN2 hq
              generalize Bf.row wo p ((nx p).take j) (R k) = s at *
              have hs1 : wr.cell? ⟨w3.heap.size, 1, none⟩ = some (.slice (adr gs) s.ord.length c) := by simp [World.cell?, HS.out.box]
              obtain ⟨go2, rfl⟩ : ∃ g, gs = some g := by
                cases gs with
                | some g => exact ⟨g, rfl⟩
                | none => have := (HS.out.ord.1 rfl).1; rw [List.map_eq_nil_iff] at this; rw [this] at hpm; simp at hpm
              have hads : adr (some go2) = some ⟨go2, 0, none⟩ := rfl
              have hpc : wr.cell? ⟨go2, k, none⟩ = some (.int .i64 (p : Nat)) := (HS.out.ord.2 go2 rfl).cell (by simp [iv, hpk])
              have hko : k < s.ord.length := (List.getElem?_eq_some_iff.1 hpk).1
              have hkoz : (k : Int) < (s.ord.length : Int) := by omega
              have HC2 : Hid (Calls Tryz.prog 53 #[.int .i64 (n : Int), .int .i64 (p : Int), .pointer (some ⟨w.heap.size, 0, none⟩), .pointer (some ⟨w3.heap.size, 0, none⟩)] wr fun e w' => ∃ gs' c', e = .returned (.tuple #[]) ∧ SpI W2 L gi w3.heap.size w.heap.size wo (s.met wo n p q) gs' c' w') := HM.out s (some go2) c n p q wr HS.out hnL
              clear hpm hpk
              go_wp2_with fail
              refine HC2.out.mono ?_
              rintro e w4 ⟨gs', c', rfl, h4⟩
              rw [← HN3.out] at h4
              have HS4 : Hid (SpI W2 L gi w3.heap.size w.heap.size wo (Bf.row wo p ((nx p).take (j + 1)) (R k)) gs' c' w4) := h4
              clear h4
              go_wp2_with fail
              rw [← had]
              go_roundw
              case rel => exact ⟨j + 1, gs', c', by go_num, by omega, HS4.out⟩
              case measure => simp [intOf]; omega
            · obtain rfl : j = (nx p).length := by omega
              have htk : (nx p).take (nx p).length = nx p := List.take_of_length_le (Nat.le_refl _)
              rw [htk, ← HPK.out] at HS
              clear htk
              go_wp2_with fail
              go_roundw
              case rel => exact ⟨k + 1, gs, c, by go_num, by have := HKL.out; have := HML.out; omega, HS.out⟩
              case measure => simp [intOf]; have := HKL.out; have := HML.out; have := HS.out.ok.len; omega
        · have HF : Hid (Bf.all nx wo L src = R k) := by
            show _ = _
            rw [HALL.out]; exact HEN.out k (by omega) (by omega)
          have hs0 : wr.cell? ⟨w3.heap.size, 0, none⟩ = some (.slice (some ⟨gi, 0, none⟩) L L) := by simp [World.cell?, HS.out.box]
          have hrb := (HS.out.bel.block (w.heap.size + 1) (by have := HZ.out.2; omega)).trans HRB.out
          have hr0 : wr.cell? ⟨w.heap.size + 1, 0, none⟩ = some (.slice none 0 0) := by simp [World.cell?, hrb]
          have hr1 : wr.cell? ⟨w.heap.size + 1, 1, none⟩ = some (.slice none 0 0) := by simp [World.cell?, hrb]
          have hrf : ∀ o, wr.frozen? ⟨w.heap.size + 1, o, none⟩ = false := fun o => by simp [World.frozen?, hrb]
          have HRB2 : Hid (wr.heap[w.heap.size + 1]? = some (.cells #[.slice none 0 0, .slice none 0 0] 65 (0, 0))) := hrb
          clear hrb
          go_wp2_with fail
          have hrb := HRB2.out
          have hbl := HS.out.bel
          have hz2 := HZ.out.2
          have hzr := hbl.size
          obtain ⟨l1, l2, l4, l5, l6⟩ := HS.out.lo
          have e2 : ∀ (x y : Value) (k : Nat), k ≠ w.heap.size + 1 → ((wr.setCell ⟨w.heap.size + 1, 0, none⟩ x).setCell ⟨w.heap.size + 1, 1, none⟩ y).heap[k]? = wr.heap[k]? := fun x y k hk => (Below.heap_setCell _ _ _ k hk).trans (Below.heap_setCell wr _ _ k hk)
          have hrb2 : ((wr.setCell ⟨w.heap.size + 1, 0, none⟩ (.slice (some ⟨gi, 0, none⟩) L L)).setCell ⟨w.heap.size + 1, 1, none⟩ (.slice (adr gs) (R k).ord.length c)).heap[w.heap.size + 1]? = some (.cells #[.slice (some ⟨gi, 0, none⟩) L L, .slice (adr gs) (R k).ord.length c] 65 (0, 0)) := by
            rw [Sort.setCell_eq, Sort.setCell_eq]
            show ((wr.heap.modify (w.heap.size + 1) _).modify (w.heap.size + 1) _)[w.heap.size + 1]? = _
            rw [Array.getElem?_modify, if_pos rfl, Array.getElem?_modify, if_pos rfl, hrb]; rfl
          have q0 : ((wr.setCell ⟨w.heap.size + 1, 0, none⟩ (.slice (some ⟨gi, 0, none⟩) L L)).setCell ⟨w.heap.size + 1, 1, none⟩ (.slice (adr gs) (R k).ord.length c)).cell? ⟨w.heap.size + 1, 0, none⟩ = some (.slice (some ⟨gi, 0, none⟩) L L) := by simp only [World.cell?, hrb2]; rfl
          have q1 : ((wr.setCell ⟨w.heap.size + 1, 0, none⟩ (.slice (some ⟨gi, 0, none⟩) L L)).setCell ⟨w.heap.size + 1, 1, none⟩ (.slice (adr gs) (R k).ord.length c)).cell? ⟨w.heap.size + 1, 1, none⟩ = some (.slice (adr gs) (R k).ord.length c) := by simp only [World.cell?, hrb2]; rfl
          refine bodyPost_ret (v := .agg #[.slice (some ⟨gi, 0, none⟩) L L, .slice (adr gs) (R k).ord.length c]) (by simp [results, Tryz.results30, go_sem, q0, q1] <;> rfl) rfl ?_
          rw [HF.out]
          have hbw := HZ.out.1.trans (hbl.mono (by omega))
          refine ⟨gi, gs, c, rfl, HS.out.byl.keep (e2 _ _ gi (by omega)), HS.out.ord.keep (fun g hg => e2 _ _ g (by have := (HS.out.lg g hg).1; omega)), by omega, fun g hg => ⟨by have := (HS.out.lg g hg).1; omega, (HS.out.lg g hg).2.1⟩, ?_⟩
          exact ⟨hbw.os, hbw.tape, hbw.output, by simpa [World.setCell] using hbw.size, fun k hk => (e2 _ _ k (by omega)).trans (hbw.block k hk)⟩
end Go.Proofs.YtikhpbidbcfedaaGreat

/- graph.rising, graph.Reach and tenonref14.Reach. -/
namespace Go.Proofs.YtikhpbidbcfedaaGreat
open Go.RowKit Go.ChangeMaps

theorem belT {w w1 w2 : World} (h : Below w.heap.size w w1) (k : Below w1.heap.size w1 w2) : Below w.heap.size w w2 := h.trans (k.mono h.size)
def Sp.upn (L : Nat) (l : List Nat) : List Nat := (List.range L).filter fun i => decide (i ∈ l)
theorem upn_mem {L : Nat} {l : List Nat} {x : Nat} : x ∈ Sp.upn L l ↔ x < L ∧ x ∈ l := by simp [Sp.upn]
theorem upn_srt {L : Nat} {l : List Nat} (hn : l.Nodup) (hb : ∀ x ∈ l, x < L) : Sp.srt (l.map fun j : Nat => (j : Int)) = (Sp.upn L l).map fun j : Nat => (j : Int) := by
  refine ext_ltI (srt_lt ?_) ?_ fun x => ?_
  · rw [List.nodup_iff_pairwise_ne, List.pairwise_map]; exact hn.imp (by intro a b h e; exact h (by omega))
  · rw [List.pairwise_map]; exact (List.Pairwise.filter _ List.pairwise_lt_range).imp (by intro a b h; omega)
  · rw [srt_mem, List.mem_map, List.mem_map]
    exact ⟨fun ⟨y, h1, h2⟩ => ⟨y, upn_mem.2 ⟨hb y h1, h1⟩, h2⟩, fun ⟨y, h1, h2⟩ => ⟨y, (upn_mem.1 h1).2, h2⟩⟩
theorem upn_len {L : Nat} {l : List Nat} (hn : l.Nodup) (hb : ∀ x ∈ l, x < L) : (Sp.upn L l).length = l.length := by
  have h := congrArg List.length (upn_srt hn hb)
  rw [srt_len, List.length_map, List.length_map] at h
  exact h.symm
theorem IRow.of {w : World} {a : Option Addr} {l : List Nat} {c : Nat} (h : InI w a l) (hn : l = [] → a = none ∧ c = 0 ∨ ∃ b o, a = some ⟨b, o, none⟩ ∧ b < w.heap.size) : IRow w.heap.size w (.slice a l.length c) (l.map fun j : Nat => (j : Int)) := by
  by_cases hl : l = []
  · subst hl
    rcases hn rfl with ⟨rfl, rfl⟩ | ⟨b, o, rfl, hb⟩
    · exact .inl ⟨rfl, rfl⟩
    · exact .inr ⟨b, o, c, by simp, hb, fun j z hj => by simp at hj⟩
  · obtain ⟨x, hx⟩ := List.exists_mem_of_ne_nil l hl
    obtain ⟨j, hj, e⟩ := List.mem_iff_getElem.1 hx
    obtain ⟨b, o, rfl, hb, _⟩ := h j (.int .i64 (x : Nat)) (by simp [iv, hj, e])
    refine .inr ⟨b, o, c, by simp, hb, fun k z hk => ?_⟩
    obtain ⟨b', o', e1, _, h2⟩ := h k (.int .i64 z) (by simp only [iv, List.getElem?_map] at *; rw [hk]; rfl)
    simp at e1; obtain ⟨rfl, rfl⟩ := e1; exact h2

set_option maxRecDepth 100000 in
set_option maxHeartbeats 4000000 in
theorem rising_any (gb : Nat) (N : List Int) (nx : Nat → List Nat) (gn : Option Nat) (cn lo xb : Nat) (bl : Nat → Option Nat) (cp : Nat → Nat) (gs : Option Nat) (c : Nat) (l : List Nat) (w : World) (h : GR w gb N nx gn cn lo xb bl cp) (hs : NdI w gs c (l.map fun j : Nat => (j : Int))) (hd : l.Nodup) (hsb : ∀ x ∈ l, x < N.length) (hl : l.length ≤ 4096) :
    Calls Tryz.prog 29 #[.pointer (some ⟨gb, 0, none⟩), .slice (adr gs) l.length c] w (RfE w (Sp.rfs N (Sp.upn N.length l))) := by
  have hIR : IRow w.heap.size w (.slice (adr gs) l.length c) (l.map fun j : Nat => (j : Int)) := by
    refine IRow.of hs.inI (fun hl => ?_)
    subst hl
    cases gs with
    | none => exact .inl ⟨rfl, (hs.1 rfl).2⟩
    | some g => exact .inr ⟨g, 0, rfl, (hs.2 g rfl).lt⟩
  have HV : Hid (Calls Tryz.prog 52 #[.slice (adr gs) l.length c] w fun e w' => e = .returned (.func (.func 71) #[] #[.pointer (some ⟨w.heap.size, 0, none⟩)]) ∧ w' = w.alloc (.cells #[.slice (adr gs) l.length c] 60)) := (callsIn_wide (n := 1)).1 (valI_in Fence.wide 1 trivial rfl (adr gs) l.length c w)
  have hb1 : Below w.heap.size w (w.alloc (.cells #[.slice (adr gs) l.length c] 60)) := (Below.refl _ _).alloc (Nat.le_refl _) _
  have HS : Hid (Calls Tryz.prog 51 #[.func (.func 71) #[] #[.pointer (some ⟨w.heap.size, 0, none⟩)]] (w.alloc (.cells #[.slice (adr gs) l.length c] 60)) fun e W' => ∃ gs2 c2, e = .returned (.slice (adr gs2) l.length c2) ∧ NdI W' gs2 c2 ((Sp.upn N.length l).map fun j : Nat => (j : Int)) ∧ Below w.heap.size w W') := by
    have hI2 : IRow (w.alloc (.cells #[.slice (adr gs) l.length c] 60)).heap.size (w.alloc (.cells #[.slice (adr gs) l.length c] 60)) (.slice (adr gs) l.length c) (l.map fun j : Nat => (j : Int)) := by
      rcases hIR.below hb1 with h | ⟨b, off, cap, e, h1, h2⟩
      · exact .inl h
      · exact .inr ⟨b, off, cap, e, by rw [al_size]; omega, h2⟩
    refine (sortedI_any w.heap.size (.slice (adr gs) l.length c) (l.map fun j : Nat => (j : Int)) (by rw [List.length_map]; omega) _ (Boxed.new w _ _).cell hI2).mono ?_
    rintro e W' ⟨gs2, c2, rfl, h1, _, h3⟩
    rw [upn_srt hd hsb] at h1
    exact ⟨gs2, c2, by rw [List.length_map], h1, hb1.trans (h3.mono (by rw [al_size]; omega))⟩
  have HG : Hid (GR w gb N nx gn cn lo xb bl cp) := h
  have HUL : Hid ((Sp.upn N.length l).length = l.length) := upn_len hd hsb
  have hl4 := hl
  clear hIR h hs hb1
  go_enter Tryz.func29, Tryz.ntmps29
  go_wp2_with (go_at_call 52; refine HV.out.mono ?_; rintro e w1 ⟨rfl, hw1⟩; rw [hw1]; clear hw1)
  refine HS.out.mono ?_
  rintro e w2 ⟨gs2, c2, rfl, hn2, hb2⟩
  have HR : Hid (Calls Tryz.prog 32 #[.pointer (some ⟨gb, 0, none⟩), .slice (adr gs2) l.length c2] w2 (RfE w2 (Sp.rfs N (Sp.upn N.length l)))) := by
    have := refs_any gb N nx gn cn lo xb bl cp (adr gs2) c2 (Sp.upn N.length l) w2 (HG.out.keep hb2) hn2.inI (fun x hx => (upn_mem.1 hx).1) (by rw [HUL.out]; omega)
    rwa [HUL.out] at this
  have HB2 : Hid (Below w.heap.size w w2) := hb2
  clear hn2 hb2 HS HV
  go_wp2_with fail
  refine HR.out.mono ?_
  rintro e w3 ⟨gs3, c3, rfl, h1, h2, h3⟩
  have HF : Hid (NdR w3 gs3 c3 (Sp.rfs N (Sp.upn N.length l)) ∧ (∀ g, gs3 = some g → w.heap.size ≤ g) ∧ Below w.heap.size w w3) := ⟨h1, fun g hg => Nat.le_trans HB2.out.size (h2 g hg), belT HB2.out h3⟩
  clear h1 h2 h3
  go_wp2_with fail
  go_ret
  exact ⟨gs3, c3, rfl, HF.out⟩

@[go_sem] theorem fld_sp1 (a a2 : Option Addr) (n c n2 c2 : Nat) (W : World) : (Instr.field 65 (.agg #[.slice a n c, .slice a2 n2 c2]) 1).run Tryz.prog W = .ok (.slice a2 n2 c2) W := by kernel_rfl
def ReE (w : World) (r : Option (List Int)) (er : Int) (e : Ending) (w' : World) : Prop := Below w.heap.size w w' ∧ ((r = none ∧ e = .returned (.tuple #[.slice none 0 0, .int .i64 er])) ∨ ∃ l gs c, r = some l ∧ e = .returned (.tuple #[.slice (adr gs) l.length c, .int .i64 0]) ∧ NdR w' gs c l ∧ ∀ g, gs = some g → w.heap.size ≤ g)
def Sp.reach (N : List Int) (nx : Nat → List Nat) (from_ : List Int) : Option (List Int) := (Sp.pls N from_).map fun ps => Sp.rfs N (Sp.upn N.length (Bf.all nx (-1) N.length ps).ord)
theorem pls_lt {N : List Int} : ∀ {l : List Int} {ps : List Nat}, Sp.pls N l = some ps → (∀ x ∈ ps, x < N.length) ∧ ps.length = l.length
  | [], ps, h => by simp [Sp.pls] at h; subst h; simp
  | x :: l, ps, h => by
    rw [Sp.pls] at h
    split at h
    · rename_i hx
      cases hp : Sp.pls N l with
      | none => rw [hp] at h; simp at h
      | some q =>
        rw [hp] at h; simp at h; subst h
        have ih := pls_lt hp
        refine ⟨fun y hy => ?_, by simp [ih.2]⟩
        rcases List.mem_cons.1 hy with rfl | hy
        · exact List.idxOf_lt_length_of_mem hx
        · exact ih.1 y hy
    · cases h
theorem all_ok {nx : Nat → List Nat} {wo : Int} {L : Nat} {src : List Nat} (hs : ∀ x ∈ src, x < L) (hb : ∀ i, ∀ x ∈ nx i, x < L) : Bok L (Bf.all nx wo L src) := Bok.rnd (Bok.ini (Bok.no L) hs) hb L

end Go.Proofs.YtikhpbidbcfedaaGreat

/- tenonref14.Turned: the graph whose edges go the other way. -/
namespace Go.Proofs.YtikhpbidbcfedaaGreat
open Go.RowKit Go.ChangeMaps

def Sp.bkn (nx : Nat → List Nat) (L j : Nat) : List Nat := (List.range L).filter fun i => decide (j ∈ nx i)
theorem bkn_mem {nx : Nat → List Nat} {L j x : Nat} : x ∈ Sp.bkn nx L j ↔ x < L ∧ j ∈ nx x := by simp [Sp.bkn]
theorem bkn_lt (nx : Nat → List Nat) (L j : Nat) : (Sp.bkn nx L j).Pairwise (· < ·) := List.Pairwise.filter _ List.pairwise_lt_range
theorem bkn_len (nx : Nat → List Nat) (L j : Nat) : (Sp.bkn nx L j).length ≤ L := by
  have := List.length_filter_le (fun i => decide (j ∈ nx i)) (List.range L); simpa [Sp.bkn] using this
def Sp.bks (nx : Nat → List Nat) (i k j : Nat) : List Nat := Sp.bkn nx i j ++ if j ∈ (nx i).take k then [i] else []
theorem bks_0 (nx : Nat → List Nat) (i j : Nat) : Sp.bks nx i 0 j = Sp.bkn nx i j := by simp [Sp.bks]
theorem bks_end (nx : Nat → List Nat) (i j : Nat) : Sp.bks nx i (nx i).length j = Sp.bkn nx (i + 1) j := by
  unfold Sp.bks Sp.bkn
  rw [List.take_of_length_le (Nat.le_refl _), List.range_succ, List.filter_append]
  by_cases h : j ∈ nx i <;> simp [h]
theorem bks_step {nx : Nat → List Nat} {i k j : Nat} (hlt : (nx i).Pairwise (· < ·)) (hj : (nx i)[k]? = some j) (t : Nat) : Sp.bks nx i (k + 1) t = if t = j then Sp.bks nx i k j ++ [i] else Sp.bks nx i k t := by
  have hk := (List.getElem?_eq_some_iff.1 hj).1
  have hnd : (nx i).Nodup := hlt.imp (by intro a b h; omega)
  have hno : j ∉ (nx i).take k := fun h => by
    obtain ⟨q, hq, e⟩ := List.mem_iff_getElem.1 h
    rw [List.length_take] at hq
    rw [List.getElem_take] at e
    have := nd_inj hnd (by omega) hk (e.trans (List.getElem?_eq_some_iff.1 hj).2.symm)
    omega
  unfold Sp.bks
  rw [List.take_add_one, hj]
  by_cases e : t = j
  · subst e; rw [if_pos rfl, if_neg hno, if_pos (by simp)]; simp
  · rw [if_neg e]
    congr 1
    have : (t ∈ (nx i).take k ++ (some j).toList) ↔ t ∈ (nx i).take k := by simp [e]
    simp only [this]
theorem mk_rowsT (n : Nat) (hn : n ≤ 4096) : ∃ M : Array Value, M.size = n ∧ (∀ t, t < n → M[t]? = some (.slice none 0 0)) ∧ ∀ W : World, (Instr.makeSlice 70 (.int .i64 (n : Int)) (.int .i64 (n : Int))).run Tryz.prog W = .ok (.slice (some ⟨W.heap.size, 0, none⟩) n n) (W.alloc (.cells M 60)) := by
  obtain ⟨i0, hi, hz0, hz1, hz2⟩ := info_parts Tryz.infoSl
  refine ⟨madeCells (Value.slice none 0 0).cells (((n : Nat) : Int).toNat * i0.size), by rw [size_madeCells, hz1]; simp, fun t ht => by simp [madeCells, hz1, ht, Value.cells, Nat.mod_one], fun W => ?_⟩
  have h := run_make (P := Tryz.prog) W 70 60 i0 (.slice none 0 0) Tryz.undSS hi hz0 .i64 .i64 (n : Int) (n : Int) (by omega) (by omega) (by rw [hz2]; omega) (by omega)
  simpa using h
end Go.Proofs.YtikhpbidbcfedaaGreat

