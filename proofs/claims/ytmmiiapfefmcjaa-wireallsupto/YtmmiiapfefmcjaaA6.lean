/- value.valueOf and value.dictOf: the value of a term that can be, in new memory. -/
import Derived.Test.YtmmiiapfefmcjaaA5
import Derived.Deep.RegionHeld3
import Derived.Test.YtmmiiapfefmcjaaA4
import Derived.Laws.Bits64
namespace Go.Proofs.Ytmmiiapfefmcjaa
open Go.RowKit

@[go_sem] theorem run_store_fl (P : Program) (w : World) (a : Addr) (m : Mode) (k : FloatKind) (n : Nat) : (store a (.float k n) m).run P w = stored P w a (.float k n) m := run_store P w a _ m rfl

theorem Tm.Ok.bounds {k : Int} {b : Bool} {i : Int} {f : Nat} {tx : ByteArray} {by' : ByteArray} {rf : Int} {l : TmL} {fs : TmF} {c : ByteArray} {v : Int} (h : Tm.Ok (.mk k b i f tx by' rf l fs c v)) :
    (k = 5 → tx.size ≤ 65536) ∧ (k = 6 → by'.size ≤ 65536) ∧ (k = 8 → l.len ≤ 4096) ∧ (k = 9 ∨ k = 10 → Sp.fieldsR fs.names = 0) ∧ (k = 10 → Sp.headR c v = 0) := by
  obtain ⟨n, p, d, h⟩ := h
  have ho : (Tm.mk k b i f tx by' rf l fs c v).own p n = 0 := by
    by_cases e : (Tm.mk k b i f tx by' rf l fs c v).own p n ≠ 0
    · rw [Tm.wk, if_pos e] at h; exact absurd h e
    · exact Decidable.not_not.1 e
  have he : Sp.ent k p n = 0 := Tm.own_ent _ _ _ ho
  simp only [Tm.own, he, ne_eq, not_true_eq_false, if_false] at ho
  refine ⟨fun e => ?_, fun e => ?_, fun e => ?_, fun e => ?_, fun e => ?_⟩
  · subst e; simp [Sp.len] at ho; omega
  · subst e; simp [Sp.len] at ho; omega
  · subst e; simp [Sp.len] at ho; omega
  · rcases e with rfl | rfl
    · simpa using ho
    · by_cases hh : Sp.headR c v = 0
      · simpa [hh] using ho
      · simp [hh] at ho
  · subst e
    by_cases hh : Sp.headR c v = 0
    · exact hh
    · simp [hh] at ho
theorem named_len : ∀ (l : List ByteArray) (a : ByteArray), Sp.named a l = true → ∀ n ∈ l, n.size ≤ 32
  | [], _, _, n, hn => by simp at hn
  | m :: l, a, h, n, hn => by
    simp only [Sp.named, Bool.and_eq_true] at h
    simp only [List.mem_cons] at hn
    rcases hn with rfl | hn
    · have := h.1.1; simp [Sp.isNm] at this; omega
    · exact named_len l m h.2 n hn
/-- names are short -/
def TmF.Nm (l : TmF) : Prop := ∀ n ∈ l.names, n.size ≤ 32
theorem TmF.nm {l : TmF} (h : Sp.fieldsR l.names = 0) : l.len ≤ 4096 ∧ l.Nm := by
  unfold Sp.fieldsR at h
  split at h
  · omega
  · rename_i h1
    rw [TmF.names_len] at h1
    split at h
    · rename_i h2; exact ⟨by omega, named_len _ _ h2⟩
    · omega
theorem TmF.Nm.head {n : ByteArray} {t : Tm} {l : TmF} (h : TmF.Nm (.cons n t l)) : n.size ≤ 32 ∧ l.Nm := ⟨h n (by simp [TmF.names]), fun m hm => h m (by simp [TmF.names, hm])⟩
theorem head_len {c : ByteArray} {v : Int} (h : Sp.headR c v = 0) : c.size ≤ 32 := by
  unfold Sp.headR at h
  split at h
  · omega
  · rename_i h1
    have : Sp.isNm c = true := by simpa using h1
    simp [Sp.isNm] at this; omega

def VOfC (N : Nat) : Prop := ∀ (t : Tm), t.sz ≤ N → ∀ (cs : Array Value) (B : Nat → Prop) (w : World), t.In w B cs → Sub B w → t.Ok →
  Calls Try.prog 33 #[.agg cs] w fun e w' => ∃ v, e = .returned v ∧ Below w.heap.size w w' ∧ t.V w' (Fr w w') v
theorem VOfC.at {N : Nat} (HC : VOfC N) {t : Tm} (hN : t.sz ≤ N) {cs : Array Value} {B : Nat → Prop} {w : World} (h : t.In w B cs) (hB : Sub B w) (ho : t.Ok) :
    ∀ W, Below w.heap.size w W → Calls Try.prog 33 #[.agg cs] W fun e w' => ∃ v, e = .returned v ∧ Below W.heap.size W w' ∧ t.V w' (Fr W w') v ∧ (v = .nilIface ∨ ∃ T x, v = .iface T x) := by
  intro W hW
  refine (HC t hN cs B W (t.In_same (hB.same hW) (fun _ h => h) cs h) (hB.later hW) ho).mono ?_
  rintro e w' ⟨v, rfl, hb, hv⟩
  exact ⟨v, rfl, hb, hv, t.V_shape v hv⟩

theorem Tm.In_tc' {w : World} {B : Nat → Prop} {t : Tm} {cs : Array Value} (h : t.In w B cs) : ∃ k b i f tx ab nb cb rf al nl cl af nf cf c vr, cs = tcells k b i f tx (.slice ab nb cb) rf (.slice al nl cl) (.slice af nf cf) c vr := by
  cases t; simp only [Tm.In] at h; obtain ⟨_, _, _, _, _, _, rfl, _⟩ := h; exact ⟨_, _, _, _, _, _, _, _, _, _, _, _, _, _, _, _, _, rfl⟩

end Go.Proofs.Ytmmiiapfefmcjaa

/- Numbers as bytes; wire.appendNumber. -/
namespace Go.Proofs.Ytmmiiapfefmcjaa
open Go.RowKit

namespace Sp
/-- a number's bytes, in their least form -/
def numB (n : Nat) : List Int := if n < 128 then [(n : Int)] else ((n % 128 + 128 : Nat) : Int) :: numB (n / 128)
termination_by n
decreasing_by omega
theorem numB_lt {n : Nat} (h : n < 128) : numB n = [(n : Int)] := by rw [numB, if_pos h]
theorem numB_ge {n : Nat} (h : ¬ n < 128) : numB n = ((n % 128 + 128 : Nat) : Int) :: numB (n / 128) := by rw [numB, if_neg h]
end Sp
/-- bytes as cells -/
def u8s (l : List Int) : List Value := l.map fun x => .int .u8 x
theorem u8s_app (a b : List Int) : u8s (a ++ b) = u8s a ++ u8s b := by simp [u8s]
/-- the slice of bytes at a holds xs, in a row made since base -/
def Outs (w : World) (base : Nat) (a : Option Addr) (cap : Nat) (xs : List Int) : Prop := w.ownsRow base 5 1 (.slice a xs.length cap) xs.length (u8s xs) ∧ base ≤ w.heap.size
/-- from w to w' nothing turned but the row of a (and what lies at base or above), and a' is that row or new -/
def Gr (base : Nat) (a a' : Option Addr) (w w' : World) : Prop := Below base w w' ∧ (∀ k, k < w.heap.size → a.map Addr.block ≠ some k → w'.heap[k]? = w.heap[k]?) ∧ (∀ k, a'.map Addr.block = some k → a.map Addr.block = some k ∨ w.heap.size ≤ k)
theorem Gr.refl (base : Nat) (a : Option Addr) (w : World) : Gr base a a w w := ⟨Below.refl _ _, fun _ _ _ => rfl, fun _ h => .inl h⟩
theorem Gr.trans {base : Nat} {a a1 a2 : Option Addr} {w w1 w2 : World} (h : Gr base a a1 w w1) (k : Gr base a1 a2 w1 w2) : Gr base a a2 w w2 := by
  have hz := h.1.size
  refine ⟨h.1.trans k.1, fun i hi hn => ?_, fun i hi => ?_⟩
  · rw [k.2.1 i (by omega) (fun e => by rcases h.2.2 i e with e' | e'; exact hn e'; omega)]
    exact h.2.1 i hi hn
  · rcases k.2.2 i hi with e | e
    · exact h.2.2 i e
    · exact .inr (by omega)
theorem own_map (a : Option Addr) (n cap : Nat) : (Value.slice a n cap).ownBlock = a.map Addr.block := by cases a <;> rfl
theorem Gr.grown {base g g' : Nat} {w w3 : World} (hg : w.grownBy w3 (some g)) (hor : g' = g ∨ g' = w.heap.size) (hb : base ≤ w.heap.size) (hbg : base ≤ g) : Gr base (some ⟨g, 0, none⟩) (some ⟨g', 0, none⟩) w w3 := by
  refine ⟨(Below.refl base w).grown hg hb (fun k e => by injection e with e; omega), fun k hk hn => hg.block k hk (fun e => hn e.symm), fun k hk => ?_⟩
  simp only [Option.map_some, Option.some.injEq] at hk ⊢
  omega
theorem Outs.step {w w3 : World} {base : Nat} {a : Option Addr} {cap : Nat} {xs ys : List Int} {g cap' n m : Nat} {o : Obj} (h : Outs w base a cap xs) (ho : w3.ownsRow base 5 1 (.slice (some ⟨g, 0, none⟩) n cap') n (u8s xs ++ u8s ys)) (hn : n = m) (hm : m = (xs ++ ys).length) (hg : (w.alloc o).grownBy w3 (Value.slice a xs.length cap).ownBlock) (hor : (Value.slice a xs.length cap).ownBlock = some g ∨ g = (w.alloc o).heap.size) : Outs w3 base (some ⟨g, 0, none⟩) cap' (xs ++ ys) ∧ Gr base a (some ⟨g, 0, none⟩) w w3 := by
  have hz := hg.size
  simp at hz
  have hb := h.2
  refine ⟨⟨by rw [u8s_app, ← hm, ← hn]; exact ho, by omega⟩, ?_⟩
  have hB : Below base w w3 := ((Below.refl base w).alloc hb o).grown hg (by simp; omega) (fun k e => (h.1.lt k e).1)
  rw [own_map] at hg hor
  refine ⟨hB, fun k hk hne => ?_, fun k hk => ?_⟩
  · rw [hg.block k (by simp; omega) (fun e => hne e.symm)]; exact Below.heap_alloc _ _ _ hk
  · simp only [Option.map_some, Option.some.injEq] at hk
    subst hk
    rcases hor with e | e
    · exact .inl e
    · simp at e; exact .inr (by omega)
end Go.Proofs.Ytmmiiapfefmcjaa

/- wire.bit, folded, appendBits. -/
namespace Go.Proofs.Ytmmiiapfefmcjaa
open Go.RowKit

namespace Sp
/-- the numbers below 0 laid between the others -/
def fold (i : Int) : Nat := if i < 0 then (-2 * i - 1).toNat else (2 * i).toNat
/-- the first k of the eight bytes of 64 bits, the highest first -/
def bitsTo (f : Nat) : Nat → List Int
  | 0 => []
  | k + 1 => bitsTo f k ++ [((f / 2 ^ (56 - 8 * k) % 256 : Nat) : Int)]
theorem bitsTo_len (f : Nat) : ∀ k, (bitsTo f k).length = k
  | 0 => rfl
  | k + 1 => by simp [bitsTo, bitsTo_len f k]
end Sp

theorem xor_ones (x : Int) (h0 : 0 ≤ x) (h1 : x ≤ 18446744073709551615) : bits .xor .u64 IntKind.u64.max x = 18446744073709551615 - x := by
  obtain ⟨n, rfl⟩ := Int.eq_ofNat_of_zero_le h0
  have key : (18446744073709551615 ^^^ n : Nat) = 18446744073709551615 - n := by
    have h : (BitVec.allOnes 64 ^^^ BitVec.ofNat 64 n).toNat = (~~~ BitVec.ofNat 64 n).toNat := by rw [BitVec.allOnes_xor]
    rw [BitVec.toNat_xor, BitVec.toNat_not, BitVec.toNat_allOnes, BitVec.toNat_ofNat, Nat.mod_eq_of_lt (by omega)] at h
    simpa using h
  have := bits_xor_u64_nat 18446744073709551615 n (by decide) (by omega)
  rw [key] at this
  show bits .xor .u64 ((18446744073709551615 : Nat) : Int) _ = _
  rw [this]
  omega

end Go.Proofs.Ytmmiiapfefmcjaa

/- The reader's unfolded, bits and text; making a value of bytes that were looked at: the kinds without parts. -/
namespace Go.Proofs.Ytmmiiapfefmcjaa
open Go.RowKit

theorem frombits_run (n : Nat) (w : World) : (callFunc 87 #[.int .u64 (n : Int)]).run Try.prog w = .ok (.value (.float .f64 n)) w := by
  rw [run_callFunc_extern Try.func87 (by kernel_rfl) (by kernel_rfl) (by kernel_rfl) (e := Extern.MathFloatBits.float64frombits) (by kernel_rfl)]
  rfl

set_option maxRecDepth 100000 in
set_option maxHeartbeats 400000 in
theorem unfolded_any (n : Nat) (w : World) (h : n < 18446744073709551616) : Calls Try.prog 85 #[.int .u64 (n : Int)] w fun e w' => e = .returned (.int .i64 (Sp.unfold' n)) ∧ w = w' := by
  have hand : bits .and .u64 (n : Int) 1 = ((n % 2 : Nat) : Int) := by
    have := bits_and_u64_nat n 1 h (by decide)
    rw [Nat.and_one_is_mod] at this
    exact this
  by_cases hn : n % 2 = 1
  · have hb : ((bits .and .u64 (n : Int) 1) == 1) = true := by rw [hand, hn]; rfl
    clear hand
    go_enter Try.func85, Try.ntmps85
    go_wp2_with fail
    go_ret
    refine ⟨?_, rfl⟩
    have e : wrap64 (bits .xor .u64 IntKind.u64.max ((n : Int) / 2)) = Sp.unfold' n := by
      rw [xor_ones _ (by omega) (by omega)]
      unfold Sp.unfold'
      rw [if_pos hn]
      simp only [wrap64]
      omega
    exact ret_int e
  · have hb : ((bits .and .u64 (n : Int) 1) == 1) = false := by rw [hand, show n % 2 = 0 by omega]; rfl
    clear hand
    go_enter Try.func85, Try.ntmps85
    go_wp2_with fail
    go_ret
    refine ⟨?_, rfl⟩
    have e : (n : Int) / 2 = Sp.unfold' n := by
      unfold Sp.unfold'
      rw [if_neg hn]
      omega
    exact ret_int e

theorem By.part {xs : List Int} (h : By xs) (a n : Nat) : By ((xs.drop a).take n) := fun x hx => h x (List.mem_of_mem_drop (List.mem_of_mem_take hx))
theorem part_len {xs : List Int} {a n : Nat} (h : a + n ≤ xs.length) : ((xs.drop a).take n).length = n := by rw [List.length_take, List.length_drop]; omega

set_option maxRecDepth 100000 in
set_option maxHeartbeats 1000000 in
theorem rtext_ok (n a2 : Nat) (b : Nat) (a : Option Addr) (xs : List Int) (cap at' p : Nat) (w : World) (h : Rdr w b a xs cap at' p) (hby : By xs) (hr : Sp.rn xs at' 10 0 0 = .ok n a2) (hl : a2 + n ≤ xs.length) :
    Calls Try.prog 89 #[.pointer (some ⟨b, 0, none⟩)] w fun e w' => ∃ a' cap', e = .returned (.slice a' n cap') ∧ RdB w' (Lo b) a' ((xs.drop a2).take n) ∧ Rdr w' b a xs cap (a2 + n) p ∧ But b w w' := by
  have HN : Hid (Calls Try.prog 86 #[.pointer (some ⟨b, 0, none⟩)] w fun e w' => e = .returned (.int .u64 (n : Int)) ∧ Rdr w' b a xs cap a2 p ∧ But b w w') := rnumber_ok n a2 b a xs cap at' p w h hby hr
  have HL : Hid (a2 + n ≤ xs.length) := hl
  have hln := h.ln
  have hwn : IntKind.i64.wrap (n : Int) = (n : Int) := Go.wrap_small _ (by omega) (by omega)
  clear h hr hby hl
  go_enter Try.func89, Try.ntmps89
  go_wp2_with fail
  refine HN.out.mono ?_
  rintro e w1 ⟨rfl, hr1, hb1⟩
  have HR1 : Hid (Rdr w1 b a xs cap a2 p ∧ But b w w1) := ⟨hr1, hb1⟩
  clear hr1 hb1 HN
  go_wp2_with fail
  refine (take_ok n b a xs cap a2 p w1 HR1.out.1 HL.out).mono ?_
  rintro e w2 ⟨a7, cap7, rfl, hrd2, hr2, hb2⟩
  have HR2 : Hid (RdB w2 (Lo b) a7 ((xs.drop a2).take n) ∧ Rdr w2 b a xs cap (a2 + n) p ∧ But b w1 w2) := ⟨hrd2, hr2, hb2⟩
  clear hrd2 hr2 hb2
  go_wp2_with fail
  go_ret
  exact ⟨a7, cap7, rfl, HR2.out.1, HR2.out.2.1, HR1.out.2.trans HR2.out.2.2⟩

/-- eight bytes as one number, as far as they came -/
def Sp.cat (l : List Int) : Nat := l.foldl (fun n x => n * 256 + x.toNat) 0
theorem cat_snoc (l : List Int) (x : Int) : Sp.cat (l ++ [x]) = Sp.cat l * 256 + x.toNat := by simp [Sp.cat]
theorem cat_go : ∀ (l : List Int) (acc m : Nat), By l → acc < m → l.foldl (fun n x => n * 256 + x.toNat) acc < m * 256 ^ l.length
  | [], acc, m, _, h => by simpa using h
  | x :: l, acc, m, hb, h => by
    have h2 := hb x (by simp)
    have := cat_go l (acc * 256 + x.toNat) (m * 256) (fun y hy => hb y (by simp [hy])) (by omega)
    simp only [List.foldl_cons, List.length_cons]
    rw [Nat.pow_succ, Nat.mul_comm (256 ^ _) 256, ← Nat.mul_assoc]
    exact this
theorem cat_lt (l : List Int) (h : By l) : Sp.cat l < 256 ^ l.length := by
  have := cat_go l 0 1 h (by omega)
  simpa [Sp.cat] using this
theorem or_byte (n x : Nat) (hn : n < 72057594037927936) (hx : x < 256) : bits .or .u64 ((n * 256 : Nat) : Int) (x : Int) = ((n * 256 + x : Nat) : Int) := by
  rw [bits_or_u64_nat (n * 256) x (by omega) (by omega)]
  congr 1
  have := Nat.shiftLeft_add_eq_or_of_lt (i := 8) (b := x) (by omega) n
  rw [Nat.shiftLeft_eq] at this
  exact this.symm
theorem take_succ_get {l : List Int} {k : Nat} {u : Int} (h : l[k]? = some u) : l.take (k + 1) = l.take k ++ [u] := by
  rw [List.take_add_one, h]; rfl

set_option maxRecDepth 100000 in
set_option maxHeartbeats 1000000 in
theorem rbits_ok (b : Nat) (a : Option Addr) (xs : List Int) (cap at' p : Nat) (w : World) (h : Rdr w b a xs cap at' p) (hby : By xs) (hl : at' + 8 ≤ xs.length) :
    Calls Try.prog 88 #[.pointer (some ⟨b, 0, none⟩)] w fun e w' => e = .returned (.int .u64 (Sp.cat ((xs.drop at').take 8) : Nat)) ∧ Rdr w' b a xs cap (at' + 8) p ∧ But b w w' := by
  have HT : Hid (Calls Try.prog 112 #[.pointer (some ⟨b, 0, none⟩), .int .i64 8] w fun e w' => ∃ a' cap', e = .returned (.slice a' 8 cap') ∧ RdB w' (Lo b) a' ((xs.drop at').take 8) ∧ Rdr w' b a xs cap (at' + 8) p ∧ But b w w') := take_ok 8 b a xs cap at' p w h hl
  obtain ⟨l, hll⟩ : ∃ l, l = (xs.drop at').take 8 := ⟨_, rfl⟩
  have HB : Hid (By l ∧ l.length = 8) := by show _ ∧ _; rw [hll]; exact ⟨hby.part _ _, part_len hl⟩
  rw [← hll] at HT ⊢
  clear h hby hl hll
  go_enter Try.func88, Try.ntmps88
  go_wp2_with fail
  refine HT.out.mono ?_
  rintro e w1 ⟨a7, cap7, rfl, hrd, hr1, hb1⟩
  have HR1 : Hid (RdB w1 (Lo b) a7 l ∧ Rdr w1 b a xs cap (at' + 8) p ∧ But b w w1) := ⟨hrd, hr1, hb1⟩
  clear hrd hr1 hb1 HT
  go_wp2_with fail
  go_loopw [3, 9] (fun u x wr => ∃ (k n : Nat), u = .int .u64 (n : Int) ∧ x = .int .i64 (k : Int) ∧ k ≤ 8 ∧ Hid (n = Sp.cat (l.take k) ∧ wr = w1)) (fun _ x _ => 8 - (intOf x).toNat)
  case atStart => exact ⟨0, 0, rfl, rfl, by omega, rfl, rfl⟩
  case round =>
    obtain ⟨k, n, rfl, rfl, hk, HI⟩ := hrel
    obtain ⟨hn, rfl⟩ := HI.out
    clear HI
    by_cases hk8 : k = 8
    · have h1 : ¬ ((k : Int) < 8) := by omega
      have HN : Hid (n = Sp.cat l) := by show _ = _; rw [hn, List.take_of_length_le (by rw [HB.out.2]; omega)]
      clear hn
      go_wp2_with fail
      go_ret
      exact ⟨by rw [HN.out]; rfl, HR1.out.2⟩
    · have h1 : (k : Int) < 8 := by omega
      have hkl : k < l.length := by rw [HB.out.2]; omega
      have hu := List.getElem?_eq_getElem hkl
      have hbu := HB.out.1.get hu
      have hlt := cat_lt (l.take k) (fun y hy => HB.out.1 y (List.mem_of_mem_take hy))
      rw [List.length_take, Nat.min_eq_left (by omega), ← hn] at hlt
      have hlt7 : n < 72057594037927936 := Nat.lt_of_lt_of_le hlt (Nat.pow_le_pow_right (n := 256) (by decide) (show k ≤ 7 by omega))
      have HNX : Hid (n * 256 + (l[k]).toNat = Sp.cat (l.take (k + 1))) := by show _ = _; rw [take_succ_get hu, cat_snoc, hn]
      obtain ⟨g, o, rfl, _, hc⟩ := HR1.out.1 k _ hu
      have hor := or_byte n (l[k]).toNat hlt7 (by omega)
      generalize l[k] = u at *
      have HOR : Hid (bits BinOp.or IntKind.u64 ((n : Int) * 256) u = ((n * 256 + u.toNat : Nat) : Int)) := by
        show _ = _
        have : ((u.toNat : Nat) : Int) = u := by omega
        rw [this] at hor
        exact_mod_cast hor
      clear hlt hn hor hu
      go_wp2_with fail
      go_roundw
      case rel => exact ⟨k + 1, n * 256 + u.toNat, by rw [HOR.out], by go_num, by omega, HNX.out, trivial⟩
      case measure => simp [intOf]; omega
end Go.Proofs.Ytmmiiapfefmcjaa

/- Making a value of bytes that were looked at: the kinds without parts. -/
namespace Go.Proofs.Ytmmiiapfefmcjaa
open Go.RowKit

theorem byte_txt {l : List Int} {j : Nat} (hj : j < l.length) (hb : By l) : Sp.byte (Sp.txt l) j = l[j] := by
  have h := hb.get (List.getElem?_eq_getElem hj)
  simp [Sp.byte, Sp.txt, strOfNums, Array.getD, hj]
  omega
theorem bytesAt_rd {w : World} {B : Nat → Prop} {a : Option Addr} {l : List Int} (h : RdB w B a l) (hb : By l) : BytesAt w B a (Sp.txt l) := fun j hj => by
  have hj' : j < l.length := by rw [txt_size] at hj; exact hj
  obtain ⟨g, o, e, hg, hc⟩ := h j l[j] (List.getElem?_eq_getElem hj')
  exact ⟨g, o, e, hg, by rw [hc, byte_txt hj' hb]⟩
section
variable (b : Nat) (a : Option Addr) (xs : List Int) (cap at' p : Nat) (w : World) (h : Rdr w b a xs cap at' p)
include h
set_option maxRecDepth 100000 in
set_option maxHeartbeats 2000000 in
theorem made_1 (hx : xs[at']? = some 1) : Calls Try.prog 48 #[.pointer (some ⟨b, 0, none⟩)] w fun e w' => e = .returned (.nilIface) ∧ Rdr w' b a xs cap (at' + 1) p ∧ But b w w' := by
  have HB : Hid (Calls Try.prog 84 #[.pointer (some ⟨b, 0, none⟩)] w fun e w' => e = .returned (.int .u8 1) ∧ Rdr w' b a xs cap (at' + 1) p ∧ But b w w') := rbyte_ok 1 b a xs cap at' p w h hx
  clear h hx
  go_enter Try.func48, Try.ntmps48
  go_wp2_with fail
  refine HB.out.mono ?_
  rintro e w1 ⟨rfl, hr1, hb1⟩
  have HR1 : Hid (Rdr w1 b a xs cap (at' + 1) p ∧ But b w w1) := ⟨hr1, hb1⟩
  clear hr1 hb1 HB
  go_wp2_with fail
  go_ret
  exact ⟨rfl, HR1.out⟩
set_option maxRecDepth 100000 in
set_option maxHeartbeats 2000000 in
theorem made_2 (hx : xs[at']? = some 2) (c : Int) (hc : xs[at' + 1]? = some c) : Calls Try.prog 48 #[.pointer (some ⟨b, 0, none⟩)] w fun e w' => e = .returned (.iface 4 (.bool (c == 1))) ∧ Rdr w' b a xs cap (at' + 2) p ∧ But b w w' := by
  have HX : Hid (xs[at' + 1]? = some c) := hc
  have HB : Hid (Calls Try.prog 84 #[.pointer (some ⟨b, 0, none⟩)] w fun e w' => e = .returned (.int .u8 2) ∧ Rdr w' b a xs cap (at' + 1) p ∧ But b w w') := rbyte_ok 2 b a xs cap at' p w h hx
  clear h hx hc
  go_enter Try.func48, Try.ntmps48
  go_wp2_with fail
  refine HB.out.mono ?_
  rintro e w1 ⟨rfl, hr1, hb1⟩
  have HR1 : Hid (Rdr w1 b a xs cap (at' + 1) p ∧ But b w w1) := ⟨hr1, hb1⟩
  clear hr1 hb1 HB
  go_wp2_with fail
  refine (rbyte_ok c b a xs cap (at' + 1) p w1 HR1.out.1 HX.out).mono ?_
  rintro e w2 ⟨rfl, hr2, hb2⟩
  have HR2 : Hid (Rdr w2 b a xs cap (at' + 2) p ∧ But b w1 w2) := ⟨hr2, hb2⟩
  clear hr2 hb2
  go_wp2_with fail
  go_ret
  exact ⟨rfl, HR2.out.1, HR1.out.2.trans HR2.out.2⟩
set_option maxRecDepth 100000 in
set_option maxHeartbeats 2000000 in
theorem made_3 (hx : xs[at']? = some 3) (hby : By xs) (n a2 : Nat) (hn : Sp.rn xs (at' + 1) 10 0 0 = .ok n a2) (hl : n < 18446744073709551616) : Calls Try.prog 48 #[.pointer (some ⟨b, 0, none⟩)] w fun e w' => e = .returned ((.iface 2 (.int .i64 (Sp.unfold' n)))) ∧ Rdr w' b a xs cap a2 p ∧ But b w w' := by
  have HX : Hid (By xs ∧ Sp.rn xs (at' + 1) 10 0 0 = .ok n a2 ∧ n < 18446744073709551616) := ⟨hby, hn, hl⟩
  have HB : Hid (Calls Try.prog 84 #[.pointer (some ⟨b, 0, none⟩)] w fun e w' => e = .returned (.int .u8 3) ∧ Rdr w' b a xs cap (at' + 1) p ∧ But b w w') := rbyte_ok 3 b a xs cap at' p w h hx
  clear h hx hby hn hl
  go_enter Try.func48, Try.ntmps48
  go_wp2_with fail
  refine HB.out.mono ?_
  rintro e w1 ⟨rfl, hr1, hb1⟩
  have HR1 : Hid (Rdr w1 b a xs cap (at' + 1) p ∧ But b w w1) := ⟨hr1, hb1⟩
  clear hr1 hb1 HB
  go_wp2_with fail
  refine (rnumber_ok n a2 b a xs cap (at' + 1) p w1 HR1.out.1 HX.out.1 HX.out.2.1).mono ?_
  rintro e w2 ⟨rfl, hr2, hb2⟩
  have HR2 : Hid (Rdr w2 b a xs cap a2 p ∧ But b w1 w2) := ⟨hr2, hb2⟩
  clear hr2 hb2
  go_wp2_with fail
  refine (unfolded_any n w2 HX.out.2.2).mono ?_
  rintro e w3 ⟨rfl, rfl⟩
  go_wp2_with fail
  go_ret
  exact ⟨rfl, HR2.out.1, HR1.out.2.trans HR2.out.2⟩
set_option maxRecDepth 100000 in
set_option maxHeartbeats 2000000 in
theorem made_7 (hx : xs[at']? = some 7) (hby : By xs) (n a2 : Nat) (hn : Sp.rn xs (at' + 1) 10 0 0 = .ok n a2) : Calls Try.prog 48 #[.pointer (some ⟨b, 0, none⟩)] w fun e w' => e = .returned ((.iface 25 (.int .u64 (n : Int)))) ∧ Rdr w' b a xs cap a2 p ∧ But b w w' := by
  have HX : Hid (By xs ∧ Sp.rn xs (at' + 1) 10 0 0 = .ok n a2) := ⟨hby, hn⟩
  have HB : Hid (Calls Try.prog 84 #[.pointer (some ⟨b, 0, none⟩)] w fun e w' => e = .returned (.int .u8 7) ∧ Rdr w' b a xs cap (at' + 1) p ∧ But b w w') := rbyte_ok 7 b a xs cap at' p w h hx
  clear h hx hby hn
  go_enter Try.func48, Try.ntmps48
  go_wp2_with fail
  refine HB.out.mono ?_
  rintro e w1 ⟨rfl, hr1, hb1⟩
  have HR1 : Hid (Rdr w1 b a xs cap (at' + 1) p ∧ But b w w1) := ⟨hr1, hb1⟩
  clear hr1 hb1 HB
  go_wp2_with fail
  refine (rnumber_ok n a2 b a xs cap (at' + 1) p w1 HR1.out.1 HX.out.1 HX.out.2).mono ?_
  rintro e w2 ⟨rfl, hr2, hb2⟩
  have HR2 : Hid (Rdr w2 b a xs cap a2 p ∧ But b w1 w2) := ⟨hr2, hb2⟩
  clear hr2 hb2
  go_wp2_with fail
  go_ret
  exact ⟨rfl, HR2.out.1, HR1.out.2.trans HR2.out.2⟩
set_option maxRecDepth 100000 in
set_option maxHeartbeats 2000000 in
theorem made_4 (hx : xs[at']? = some 4) (hby : By xs) (hl : at' + 1 + 8 ≤ xs.length) : Calls Try.prog 48 #[.pointer (some ⟨b, 0, none⟩)] w fun e w' => e = .returned ((.iface 22 (.float .f64 (Sp.cat ((xs.drop (at' + 1)).take 8))))) ∧ Rdr w' b a xs cap (at' + 1 + 8) p ∧ But b w w' := by
  have HX : Hid (By xs ∧ at' + 1 + 8 ≤ xs.length) := ⟨hby, hl⟩
  have HB : Hid (Calls Try.prog 84 #[.pointer (some ⟨b, 0, none⟩)] w fun e w' => e = .returned (.int .u8 4) ∧ Rdr w' b a xs cap (at' + 1) p ∧ But b w w') := rbyte_ok 4 b a xs cap at' p w h hx
  clear h hx hby hl
  go_enter Try.func48, Try.ntmps48
  go_wp2_with fail
  refine HB.out.mono ?_
  rintro e w1 ⟨rfl, hr1, hb1⟩
  have HR1 : Hid (Rdr w1 b a xs cap (at' + 1) p ∧ But b w w1) := ⟨hr1, hb1⟩
  clear hr1 hb1 HB
  go_wp2_with fail
  refine (rbits_ok b a xs cap (at' + 1) p w1 HR1.out.1 HX.out.1 HX.out.2).mono ?_
  rintro e w2 ⟨rfl, hr2, hb2⟩
  have HR2 : Hid (Rdr w2 b a xs cap (at' + 1 + 8) p ∧ But b w1 w2) := ⟨hr2, hb2⟩
  clear hr2 hb2
  have hfb := frombits_run (Sp.cat ((xs.drop (at' + 1)).take 8)) w2
  go_wp2_with fail
  go_ret
  exact ⟨rfl, HR2.out.1, HR1.out.2.trans HR2.out.2⟩
set_option maxRecDepth 100000 in
set_option maxHeartbeats 2000000 in
theorem made_5 (hx : xs[at']? = some 5) (hby : By xs) (n a2 : Nat) (hn : Sp.rn xs (at' + 1) 10 0 0 = .ok n a2) (hl : a2 + n ≤ xs.length) : Calls Try.prog 48 #[.pointer (some ⟨b, 0, none⟩)] w fun e w' => e = .returned ((.iface 9 (.string (Sp.txt ((xs.drop a2).take n))))) ∧ Rdr w' b a xs cap (a2 + n) p ∧ But b w w' := by
  have HX : Hid (By xs ∧ Sp.rn xs (at' + 1) 10 0 0 = .ok n a2 ∧ a2 + n ≤ xs.length) := ⟨hby, hn, hl⟩
  have HB : Hid (Calls Try.prog 84 #[.pointer (some ⟨b, 0, none⟩)] w fun e w' => e = .returned (.int .u8 5) ∧ Rdr w' b a xs cap (at' + 1) p ∧ But b w w') := rbyte_ok 5 b a xs cap at' p w h hx
  clear h hx hby hn hl
  go_enter Try.func48, Try.ntmps48
  go_wp2_with fail
  refine HB.out.mono ?_
  rintro e w1 ⟨rfl, hr1, hb1⟩
  have HR1 : Hid (Rdr w1 b a xs cap (at' + 1) p ∧ But b w w1) := ⟨hr1, hb1⟩
  clear hr1 hb1 HB
  go_wp2_with fail
  refine (rtext_ok n a2 b a xs cap (at' + 1) p w1 HR1.out.1 HX.out.1 HX.out.2.1 HX.out.2.2).mono ?_
  rintro e w2 ⟨a7, cap7, rfl, hrd2, hr2, hb2⟩
  have HR2 : Hid (RdB w2 (Lo b) a7 ((xs.drop a2).take n) ∧ Rdr w2 b a xs cap (a2 + n) p ∧ But b w1 w2) := ⟨hrd2, hr2, hb2⟩
  clear hrd2 hr2 hb2
  have hcv : (convert 23 9 (.slice a7 n cap7)).run Try.prog w2 = .ok (.string (Sp.txt ((xs.drop a2).take n))) w2 := by
    have := conv_rd _ a7 cap7 (Lo b) w2 HR2.out.1
    rw [part_len HX.out.2.2] at this; exact this
  go_wp2_with fail
  go_ret
  exact ⟨rfl, HR2.out.2.1, HR1.out.2.trans HR2.out.2.2⟩
set_option maxRecDepth 100000 in
set_option maxHeartbeats 2000000 in
theorem made_6 (hx : xs[at']? = some 6) (hby : By xs) (n a2 : Nat) (hn : Sp.rn xs (at' + 1) 10 0 0 = .ok n a2) (hl : a2 + n ≤ xs.length) (hm : n ≤ 65536) : Calls Try.prog 48 #[.pointer (some ⟨b, 0, none⟩)] w fun e w' => ∃ a' cap', e = .returned ((.iface 23 (.slice a' (Sp.txt ((xs.drop a2).take n)).size cap'))) ∧ Rdr w' b a xs cap (a2 + n) p ∧ But b w w' ∧ BytesLV w' (Fr w w') a' (Sp.txt ((xs.drop a2).take n)) cap' := by
  have HX : Hid (By xs ∧ Sp.rn xs (at' + 1) 10 0 0 = .ok n a2 ∧ a2 + n ≤ xs.length) := ⟨hby, hn, hl⟩
  have HB : Hid (Calls Try.prog 84 #[.pointer (some ⟨b, 0, none⟩)] w fun e w' => e = .returned (.int .u8 6) ∧ Rdr w' b a xs cap (at' + 1) p ∧ But b w w') := rbyte_ok 6 b a xs cap at' p w h hx
  clear h hx hby hn hl
  go_enter Try.func48, Try.ntmps48
  go_wp2_with fail
  refine HB.out.mono ?_
  rintro e w1 ⟨rfl, hr1, hb1⟩
  have HR1 : Hid (Rdr w1 b a xs cap (at' + 1) p ∧ But b w w1) := ⟨hr1, hb1⟩
  clear hr1 hb1 HB
  go_wp2_with fail
  refine (rtext_ok n a2 b a xs cap (at' + 1) p w1 HR1.out.1 HX.out.1 HX.out.2.1 HX.out.2.2).mono ?_
  rintro e w2 ⟨a7, cap7, rfl, hrd2, hr2, hb2⟩
  have HR2 : Hid (RdB w2 (Lo b) a7 ((xs.drop a2).take n) ∧ Rdr w2 b a xs cap (a2 + n) p ∧ But b w1 w2) := ⟨hrd2, hr2, hb2⟩
  clear hrd2 hr2 hb2
  have hsz : (Sp.txt ((xs.drop a2).take n)).size = n := by rw [txt_size, part_len HX.out.2.2]
  have HCL : Hid (Calls Try.prog 57 #[.slice a7 n cap7] w2 fun e w' => ∃ a' cap', e = .returned (.slice a' n cap') ∧ Below w2.heap.size w2 w' ∧ BytesLV w' (Fr w2 w') a' (Sp.txt ((xs.drop a2).take n)) cap') := by
    have := bClone_any (Sp.txt ((xs.drop a2).take n)) a7 cap7 (Lo b) w2 (fun k hk => Nat.lt_trans hk HR2.out.2.1.lt) (bytesAt_rd HR2.out.1 (HX.out.1.part _ _)) (by rw [hsz]; omega)
    rw [hsz] at this
    exact this
  have HSZ : Hid ((Sp.txt ((xs.drop a2).take n)).size = n) := hsz
  clear hsz
  go_wp2_with fail
  refine HCL.out.mono ?_
  rintro e w3 ⟨a8, cap8, rfl, hb3, hlv⟩
  have HR3 : Hid (Below w2.heap.size w2 w3 ∧ BytesLV w3 (Fr w2 w3) a8 (Sp.txt ((xs.drop a2).take n)) cap8) := ⟨hb3, hlv⟩
  clear hb3 hlv HCL
  go_wp2_with fail
  go_ret
  have hB := HR1.out.2.trans HR2.out.2.2
  exact ⟨a8, cap8, by rw [HSZ.out]; rfl, HR2.out.2.1.call HR3.out.1, hB.call HR3.out.1, HR3.out.2.same (Same.refl _ _) (fun k hk => ⟨Nat.le_trans hB.size hk.1, hk.2⟩)⟩
end
end Go.Proofs.Ytmmiiapfefmcjaa

