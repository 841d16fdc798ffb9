/- wire.bit, folded, appendBits. -/
import Derived.Test.YtadcbhdhgobknaaL24
import Derived.Laws.Bits64
import Derived.Test.YtadcbhdhgobknaaL3
import Derived.Deep.AppendSrc
import Derived.Deep.DeepAppendWide
import Derived.Test.YtadcbhdhgobknaaL5
namespace Go.Proofs.Ytadcbhdhgobknaa
open Go.RowKit

namespace Sp
/-- the numbers below 0 laid between the others -/
def fold (i : Int) : Nat := if i < 0 then (-2 * i - 1).toNat else (2 * i).toNat
/-- the first k of the eight bytes of 64 bits, the highest first -/
def bitsTo (f : Nat) : Nat → List Int
  | 0 => []
  | k + 1 => bitsTo f k ++ [((f / 2 ^ (56 - 8 * k) % 256 : Nat) : Int)]
theorem bitsTo_len (f : Nat) : ∀ k, (bitsTo f k).length = k
  | 0 => rfl
  | k + 1 => by simp [bitsTo, bitsTo_len f k]
end Sp

set_option maxRecDepth 100000 in
set_option maxHeartbeats 400000 in
theorem bit_any (b : Bool) (w : World) : Calls Try.prog 129 #[.bool b] w fun e w' => e = .returned (.int .u8 (if b then 1 else 0)) ∧ w = w' := by
  cases b <;>
  · go_enter Try.func129, Try.ntmps129
    go_wp2_with fail
    go_ret
    exact ⟨rfl, rfl⟩

theorem xor_ones (x : Int) (h0 : 0 ≤ x) (h1 : x ≤ 18446744073709551615) : bits .xor .u64 IntKind.u64.max x = 18446744073709551615 - x := by
  obtain ⟨n, rfl⟩ := Int.eq_ofNat_of_zero_le h0
  have key : (18446744073709551615 ^^^ n : Nat) = 18446744073709551615 - n := by
    have h : (BitVec.allOnes 64 ^^^ BitVec.ofNat 64 n).toNat = (~~~ BitVec.ofNat 64 n).toNat := by rw [BitVec.allOnes_xor]
    rw [BitVec.toNat_xor, BitVec.toNat_not, BitVec.toNat_allOnes, BitVec.toNat_ofNat, Nat.mod_eq_of_lt (by omega)] at h
    simpa using h
  have := bits_xor_u64_nat 18446744073709551615 n (by decide) (by omega)
  rw [key] at this
  show bits .xor .u64 ((18446744073709551615 : Nat) : Int) _ = _
  rw [this]
  omega

set_option maxRecDepth 100000 in
set_option maxHeartbeats 400000 in
theorem folded_any (i : Int) (w : World) (h0 : -9223372036854775808 ≤ i) (h1 : i ≤ 9223372036854775807) : Calls Try.prog 131 #[.int .i64 i] w fun e w' => e = .returned (.int .u64 (Sp.fold i)) ∧ w = w' := by
  by_cases hi : i < 0
  · go_enter Try.func131, Try.ntmps131
    go_wp2_with fail
    go_ret
    refine ⟨?_, rfl⟩
    have e : bits .xor .u64 IntKind.u64.max (IntKind.u64.wrap (IntKind.u64.wrap i * 2)) = (Sp.fold i : Int) := by
      rw [xor_ones _ (by rw [IntKind.wrap_u64]; omega) (by rw [IntKind.wrap_u64]; omega)]
      unfold Sp.fold
      rw [if_pos hi]
      simp only [IntKind.wrap_u64]
      omega
    show Ending.returned (Value.int .u64 _) = _
    rw [e]
  · go_enter Try.func131, Try.ntmps131
    go_wp2_with fail
    go_ret
    refine ⟨?_, rfl⟩
    have e : i * 2 = (Sp.fold i : Int) := by unfold Sp.fold; rw [if_neg (by omega)]; omega
    show Ending.returned (Value.int .u64 (i * 2)) = _
    rw [e]

set_option maxRecDepth 100000 in
set_option maxHeartbeats 1000000 in
theorem appBits_any (f : Nat) (base : Nat) (a : Option Addr) (cap : Nat) (xs : List Int) (w : World) (h : Outs w base a cap xs) (hlen : xs.length + 8 ≤ 140737488355328) :
    Calls Try.prog 132 #[.slice a xs.length cap, .int .u64 f] w fun e w' => ∃ a' cap', e = .returned (.slice a' (xs.length + 8) cap') ∧ Outs w' base a' cap' (xs ++ Sp.bitsTo f 8) ∧ Gr base a a' w w' := by
  obtain ⟨i0, hi, hz0, hz1, hz2⟩ := info_parts Try.infoB
  have H0 : Hid (Outs w base a cap (xs ++ Sp.bitsTo f 0) ∧ Gr base a a w w) := ⟨by rw [Sp.bitsTo, List.append_nil]; exact h, Gr.refl _ _ _⟩
  clear h
  go_enter Try.func132, Try.ntmps132
  go_wp2_with fail
  go_loopw [0, 5] (fun u x wr => ∃ (k : Nat) (a' : Option Addr) (cap' : Nat), u = .slice a' (xs.length + k) cap' ∧ x = .int .i64 (56 - 8 * (k : Int)) ∧ k ≤ 8 ∧ Hid (Outs wr base a' cap' (xs ++ Sp.bitsTo f k) ∧ Gr base a a' w wr)) (fun _ x _ => (intOf x + 8).toNat)
  case atStart => exact ⟨0, a, cap, rfl, rfl, by omega, H0.out⟩
  case round =>
    obtain ⟨k, a', cap', rfl, rfl, hk, HO⟩ := hrel
    have hown := HO.out.1.1
    have HOW : Hid (wr.ownsRow base 5 1 (.slice a' (xs.length + k) cap') (xs.length + k) (u8s (xs ++ Sp.bitsTo f k))) := by rw [List.length_append, Sp.bitsTo_len] at hown; exact hown
    clear hown
    by_cases hk8 : k = 8
    · subst hk8
      go_wp2_with fail
      go_ret
      exact ⟨a', cap', rfl, HO.out.1, HO.out.2⟩
    · have hi1 : (0 : Int) ≤ 56 - 8 * (k : Int) := by omega
      have hi2 : 8 * (k : Int) ≤ 56 := by omega
      go_wp2_with (at_builtin; refine wpList_app _ rfl _ _ 23 rfl base 5 i0 (.int .u8 0) 1 1 Try.undB hi hz0 hz1 hz2 rfl (by decide) _ _ _ rfl (HOW.out.alloc _) ⟨wr.heap.size, 0, none⟩ 1 1 [.int .u8 ((f : Int) / 2 ^ (56 - 8 * k) % 256)] rfl rfl (cell_one_new _ _ _) (fun u hu => by simp at hu; subst hu; rfl) (by decide) (by unfold maxLen; omega) (by omega) (by have := HO.out.1.2; simp; omega) ?_; intro g' cap2 w3 hown' hgrow hor')
      have eb : (f : Int) / 2 ^ (56 - 8 * k) % 256 = ((f / 2 ^ (56 - 8 * k) % 256 : Nat) : Int) := by simp
      rw [eb] at hown'
      obtain ⟨h1, h2⟩ := HO.out.1.step (ys := [((f / 2 ^ (56 - 8 * k) % 256 : Nat) : Int)]) hown' rfl (by simp [Sp.bitsTo_len]; omega) (by rw [List.length_append, Sp.bitsTo_len]; exact hgrow) (by rw [List.length_append, Sp.bitsTo_len]; exact hor')
      go_roundw
      case rel => exact ⟨k + 1, some ⟨g', 0, none⟩, cap2, rfl, by simp; omega, by omega, by rw [Sp.bitsTo, ← List.append_assoc]; exact h1, HO.out.2.trans h2⟩
      case measure => simp [intOf]; omega
end Go.Proofs.Ytadcbhdhgobknaa

/- 'append' of whatever source onto a row that the call itself made. -/
namespace Go.Proofs.Ytadcbhdhgobknaa
open Go.RowKit

theorem run_app_src {P : Program} (w : World) (base : Nat) (t tx ty e : TypeId) (i : TypeInfo) (z : Value) (size bytes : Nat) (ht : P.underlying t = some (.slice e)) (hi : P.info? e = some i) (hz : i.zero = some z)
    (hsize : i.size = size) (hby : i.bytes = bytes) (hzs : z.cells.size = size) (g n cap : Nat) (xs : List Value) (hown : w.ownsRow base e size (.slice (some ⟨g, 0, none⟩) n cap) n xs)
    (x : Value) (m : Nat) (news : List Value) (hs : Src P size tx x m news w) (h63 : n + m ≤ maxLen) (hbytes : ((n + m) + (n + m) / 4 + 192) * bytes ≤ 281474976710656) (hbase : base ≤ w.heap.size) :
    ∃ g' cap' w', (Builtin.append_ #[t, tx] ty #[.slice (some ⟨g, 0, none⟩) n cap, x]).run P w = .ok (.slice (some ⟨g', 0, none⟩) (n + m) cap') w' ∧ w'.ownsRow base e size (.slice (some ⟨g', 0, none⟩) (n + m) cap') (n + m) (xs ++ news) ∧ w.grownBy w' (some g) ∧ (g' = g ∨ g' = w.heap.size) := by
  subst hsize
  subst hby
  have hlen : (xs ++ news).length = (n + m) * i.size := by rw [List.length_append, hown.1, hs.newsLen, Nat.add_mul]
  rcases hown.2 with ⟨e1, _⟩ | ⟨g1, cap1, cur, e1, hbg, hg, hnc, hcm, hcs, htake⟩
  · simp at e1
  simp only [Value.slice.injEq, Option.some.injEq, Addr.mk.injEq, and_true, true_and] at e1
  obtain ⟨rfl, rfl⟩ := e1
  by_cases hroom : n + m ≤ cap
  · have hfit : n * i.size + news.length ≤ cur.size := by rw [hs.newsLen, hcs, ← Nat.add_mul]; exact Nat.mul_le_mul_right _ hroom
    have hst := run_storeCells_at P g (n * i.size) e news 0 cur w hg (by simpa using hfit) hs.one
    simp only [Nat.add_zero] at hst
    have hr : (Builtin.append_ #[t, tx] ty #[.slice (some ⟨g, 0, none⟩) n cap, x]).run P w = .ok (.slice (some ⟨g, 0, none⟩) (n + m) cap) (w.setRow g (cur.toList.take (n * i.size) ++ news ++ cur.toList.drop (n * i.size + news.length)).toArray) := by
      rcases hs.kind with ⟨e', hk⟩ | hk <;> simp [Builtin.append_, run_underlying ht, run_underlying hk, sizeOf, typeInfo, hi, hs.len, hroom, hs.cells, Addr.add_lit, hst]
    refine ⟨g, cap, _, hr, ⟨hlen, .inr ⟨g, cap, _, rfl, hbg, setRow_heap w g cur _ e _ hg, hroom, hcm, ?_, ?_⟩⟩, ⟨rfl, rfl, rfl, by simp, fun k _ hk => setRow_other w g k _ (fun e => hk (by rw [e]))⟩, .inl rfl⟩
    · simp only [List.size_toArray, List.length_append, List.length_take, List.length_drop, Array.length_toList]
      omega
    · rw [htake, ← hlen]
      exact List.take_left
  · have holds : ∀ j u, xs[j]? = some u → w.cell? ((⟨g, 0, none⟩ : Addr).add j) = some u := hown.cells (g := g) rfl
    have hold : (Builtin.firstCells i.size n (.slice (some ⟨g, 0, none⟩) n cap)).run P w.drew = .ok xs.toArray w.drew := run_firstCells_some w.drew i.size n ⟨g, 0, none⟩ n cap xs hown.1 (by simpa using holds)
    have hr := run_append_grow_src (P := P) w t tx ty e i z ht hi hz (some ⟨g, 0, none⟩) n cap xs hold x m news hs (by omega) (by simp only [maxLen] at h63; omega) (growslice_fits_wide (by omega) hbytes)
    have hge := grownCap_ge w (n + m) cap e
    have hcm' : grownCap w (n + m) cap e ≤ maxLen := grownCap_le_maxLen w (n + m) cap e h63
    refine ⟨w.heap.size, _, _, hr, ⟨hlen, .inr ⟨w.heap.size, _, _, rfl, hbase, heap_alloc_new w.drew _, hge, hcm', ?_, ?_⟩⟩, ⟨rfl, rfl, rfl, by simp, fun k hk _ => heap_alloc_old w.drew _ hk⟩, .inr rfl⟩
    · simp only [Array.size_append, List.size_toArray, size_zeroCells, hzs, hlen, ← Nat.add_mul]
      congr 1
      omega
    · simp only [Array.toList_append]
      rw [← hlen]
      exact List.take_left
theorem wpList_app_src {P : Program} (w : World) {ops : Array Oper} {rest : List Oper} {o : Oper} {a : Act} {Q : Exit → Act → World → Prop} (hgd : o.guard = none) (s x : Operand) (t tx : TypeId)
    (ho : o.op = .call { callee := .builtin .append, args := #[s, x], argTypes := #[t, tx] })
    (base : Nat) (e : TypeId) (i : TypeInfo) (z : Value) (size bytes : Nat) (ht : P.underlying t = some (.slice e)) (hi : P.info? e = some i) (hz : i.zero = some z)
    (hsize : i.size = size) (hby : i.bytes = bytes) (hzs : z.cells.size = size) (g n cap : Nat) (xs : List Value) (hs : a.eval s = .slice (some ⟨g, 0, none⟩) n cap) (hown : w.ownsRow base e size (.slice (some ⟨g, 0, none⟩) n cap) n xs)
    (v : Value) (m : Nat) (news : List Value) (hx : a.eval x = v) (hsrc : Src P size tx v m news w) (h63 : n + m ≤ maxLen) (hbytes : ((n + m) + (n + m) / 4 + 192) * bytes ≤ 281474976710656) (hbase : base ≤ w.heap.size)
    (h : ∀ g' cap' w', w'.ownsRow base e size (.slice (some ⟨g', 0, none⟩) (n + m) cap') (n + m) (xs ++ news) → w.grownBy w' (some g) → (g' = g ∨ g' = w.heap.size) → wpList P ops Q rest (a.put o.dst (.slice (some ⟨g', 0, none⟩) (n + m) cap')) w') : wpList P ops Q (o :: rest) a w := by
  refine wpList_plain hgd fun K hK => ?_
  obtain ⟨g', cap', w', hr, h2, h3, h4⟩ := run_app_src (P := P) w base t tx o.type e i z size bytes ht hi hz hsize hby hzs g n cap xs hown v m news hsrc h63 hbytes hbase
  unfold Oper.wp execOp
  simp only [ho, resolve, invoke, builtin, Sem.run_bind, Sem.run_pure, Result.andThen_ok, List.map_toArray, List.map_cons, List.map_nil, hs, hx, hr]
  exact hK _ _ (h g' cap' w' h2 h3 h4)
end Go.Proofs.Ytadcbhdhgobknaa

/- wire.appendText, of a text and of bytes. -/
namespace Go.Proofs.Ytadcbhdhgobknaa
open Go.RowKit

namespace Sp
/-- the bytes of a text -/
def bts (s : ByteArray) : List Int := (List.range s.size).map (byte s)
theorem bts_len (s : ByteArray) : (bts s).length = s.size := by simp [bts]
/-- a text's bytes ahead of which their number stands -/
def txtB (s : ByteArray) : List Int := numB s.size ++ bts s
end Sp
theorem byteCells_bts (s : ByteArray) : byteCells s = u8s (Sp.bts s) := by
  apply List.ext_getElem
  · rw [byteCells_length]; simp [u8s, Sp.bts_len]
  · intro k h1 h2
    have hk : k < s.size := by rw [byteCells_length] at h1; exact h1
    simp [byteCells, u8s, Sp.bts, Sp.byte, Array.getD, hk]
theorem bcells_bts (s : ByteArray) : bcells s = u8s (Sp.bts s) := by simp [bcells, u8s, Sp.bts]
theorem Outs.some {w : World} {base : Nat} {a : Option Addr} {cap : Nat} {xs : List Int} (h : Outs w base a cap xs) (hp : 0 < xs.length) : ∃ g, a = some ⟨g, 0, none⟩ := by
  rcases h.1.2 with ⟨_, e⟩ | ⟨g, c, cur, e, _⟩
  · omega
  · injection e with e; exact ⟨g, e⟩

set_option maxRecDepth 100000 in
set_option maxHeartbeats 1000000 in
theorem appText_any (s : ByteArray) (base : Nat) (a : Option Addr) (cap : Nat) (xs : List Int) (w : World) (h : Outs w base a cap xs) (hlen : xs.length + (Sp.txtB s).length ≤ 140737488355328) :
    Calls Try.prog 133 #[.slice a xs.length cap, .string s] w fun e w' => ∃ a' cap', e = .returned (.slice a' (xs.length + (Sp.txtB s).length) cap') ∧ Outs w' base a' cap' (xs ++ Sp.txtB s) ∧ Gr base a a' w w' := by
  obtain ⟨i0, hi, hz0, hz1, hz2⟩ := info_parts Try.infoB
  have hl : (Sp.txtB s).length = (Sp.numB s.size).length + s.size := by simp [Sp.txtB, Sp.bts_len]
  have hs : s.size ≤ 140737488355328 := by omega
  have HN : Hid (Calls Try.prog 130 #[.slice a xs.length cap, .int .u64 (s.size : Int)] w fun e w' => ∃ a' cap', e = .returned (.slice a' (xs.length + (Sp.numB s.size).length) cap') ∧ Outs w' base a' cap' (xs ++ Sp.numB s.size) ∧ Gr base a a' w w') := appNum_any s.size base a cap xs w (by omega) h (by omega)
  clear h
  have hp := Sp.numB_pos s.size
  go_enter Try.func133, Try.ntmps133
  go_wp2_with fail
  refine HN.out.mono ?_
  rintro e w1 ⟨a1, cap1, rfl, ho1, hb1⟩
  obtain ⟨g1, rfl⟩ := ho1.some (by rw [List.length_append]; omega)
  have HO : Hid (Outs w1 base (some ⟨g1, 0, none⟩) cap1 (xs ++ Sp.numB s.size) ∧ Gr base a (some ⟨g1, 0, none⟩) w w1) := ⟨ho1, hb1⟩
  have how := ho1.1
  rw [List.length_append] at how
  have HOW : Hid (w1.ownsRow base 5 1 (.slice (some ⟨g1, 0, none⟩) (xs.length + (Sp.numB s.size).length) cap1) (xs.length + (Sp.numB s.size).length) (u8s (xs ++ Sp.numB s.size))) := how
  clear ho1 hb1 how HN
  go_wp2_with (at_builtin; refine wpList_app_src _ rfl _ _ 23 9 rfl base 5 i0 (.int .u8 0) 1 1 Try.undB hi hz0 hz1 hz2 rfl _ _ _ _ rfl HOW.out _ _ _ rfl (Src.ofString _ Try.underlying9 s) (by unfold maxLen; omega) (by omega) HO.out.1.2 ?_; intro g' cap2 w3 hown' hgrow hor)
  go_wp2_with fail
  go_ret
  rw [byteCells_bts] at hown'
  have hz := hgrow.size
  have hb := Gr.grown (base := base) hgrow hor HO.out.1.2 (HOW.out.lt g1 rfl).1
  refine ⟨some ⟨g', 0, none⟩, cap2, by rw [hl, Nat.add_assoc]; rfl, ⟨?_, by have := HO.out.1.2; omega⟩, HO.out.2.trans hb⟩
  rw [show (xs ++ Sp.txtB s).length = xs.length + (Sp.numB s.size).length + s.size by rw [List.length_append, hl]; omega, Sp.txtB, ← List.append_assoc, u8s_app]
  exact hown'

set_option maxRecDepth 100000 in
set_option maxHeartbeats 1000000 in
theorem appBytes_any (s : ByteArray) (ab : Option Addr) (cb : Nat) (base : Nat) (a : Option Addr) (cap : Nat) (xs : List Int) (w : World) (hb : BytesAt w (Lo base) ab s) (h : Outs w base a cap xs) (hlen : xs.length + (Sp.txtB s).length ≤ 140737488355328) :
    Calls Try.prog 134 #[.slice a xs.length cap, .slice ab s.size cb] w fun e w' => ∃ a' cap', e = .returned (.slice a' (xs.length + (Sp.txtB s).length) cap') ∧ Outs w' base a' cap' (xs ++ Sp.txtB s) ∧ Gr base a a' w w' := by
  obtain ⟨i0, hi, hz0, hz1, hz2⟩ := info_parts Try.infoB
  have hl : (Sp.txtB s).length = (Sp.numB s.size).length + s.size := by simp [Sp.txtB, Sp.bts_len]
  have hs : s.size ≤ 140737488355328 := by omega
  have HN : Hid (Calls Try.prog 130 #[.slice a xs.length cap, .int .u64 (s.size : Int)] w fun e w' => ∃ a' cap', e = .returned (.slice a' (xs.length + (Sp.numB s.size).length) cap') ∧ Outs w' base a' cap' (xs ++ Sp.numB s.size) ∧ Gr base a a' w w') := appNum_any s.size base a cap xs w (by omega) h (by omega)
  have HS : Hid (∀ W, Below base w W → Src Try.prog 1 23 (.slice ab s.size cb) s.size (u8s (Sp.bts s)) W) := fun W hW => by
    rw [← bcells_bts]
    by_cases h0 : s.size = 0
    · cases ab with
      | none => rw [show bcells s = [] by simp [bcells, h0], h0]; exact Src.ofNil _ Try.undB cb
      | some p => exact Src.ofSlice _ Try.undB p s.size cb _ (by simp [bcells]) (fun j u hu => by rw [show bcells s = [] by simp [bcells, h0]] at hu; simp at hu) (bcells_one s)
    · obtain ⟨g, o, rfl, hg, _⟩ := hb 0 (by omega)
      refine Src.ofSlice _ Try.undB ⟨g, o, none⟩ s.size cb _ (by simp [bcells]) (fun j u hu => ?_) (bcells_one s)
      obtain ⟨hj, rfl⟩ := bcells_at s j u hu
      obtain ⟨g', o', e, hg', hc⟩ := hb j hj
      simp only [Option.some.injEq, Addr.mk.injEq, and_true] at e
      obtain ⟨rfl, rfl⟩ := e
      rw [addr_add, hW.cell (p := ⟨g, o + j, none⟩) hg']; exact hc
  clear h hb
  have hp := Sp.numB_pos s.size
  go_enter Try.func134, Try.ntmps134
  go_wp2_with fail
  refine HN.out.mono ?_
  rintro e w1 ⟨a1, cap1, rfl, ho1, hb1⟩
  obtain ⟨g1, rfl⟩ := ho1.some (by rw [List.length_append]; omega)
  have HO : Hid (Outs w1 base (some ⟨g1, 0, none⟩) cap1 (xs ++ Sp.numB s.size) ∧ Gr base a (some ⟨g1, 0, none⟩) w w1) := ⟨ho1, hb1⟩
  have how := ho1.1
  rw [List.length_append] at how
  have HOW : Hid (w1.ownsRow base 5 1 (.slice (some ⟨g1, 0, none⟩) (xs.length + (Sp.numB s.size).length) cap1) (xs.length + (Sp.numB s.size).length) (u8s (xs ++ Sp.numB s.size))) := how
  clear ho1 hb1 how HN
  go_wp2_with (at_builtin; refine wpList_app_src _ rfl _ _ 23 23 rfl base 5 i0 (.int .u8 0) 1 1 Try.undB hi hz0 hz1 hz2 rfl _ _ _ _ rfl HOW.out _ _ _ rfl (HS.out _ HO.out.2.1) (by unfold maxLen; omega) (by omega) HO.out.1.2 ?_; intro g' cap2 w3 hown' hgrow hor)
  go_wp2_with fail
  go_ret
  have hz := hgrow.size
  have hb := Gr.grown (base := base) hgrow hor HO.out.1.2 (HOW.out.lt g1 rfl).1
  refine ⟨some ⟨g', 0, none⟩, cap2, by rw [hl, Nat.add_assoc]; rfl, ⟨?_, by have := HO.out.1.2; omega⟩, HO.out.2.trans hb⟩
  rw [show (xs ++ Sp.txtB s).length = xs.length + (Sp.numB s.size).length + s.size by rw [List.length_append, hl]; omega, Sp.txtB, ← List.append_assoc, u8s_app]
  exact hown'
end Go.Proofs.Ytadcbhdhgobknaa

