/- The reader's count, version, bool, kind where nothing is wrong. -/
import Derived.Test.YtmmiiapfefmcjaaJ6
import Derived.Test.YtmmiiapfefmcjaaJ3
import Derived.Lib.BytesEntry
import Derived.Test.YtmmiiapfefmcjaaJ1
import Derived.Lib.Bytealg
namespace Go.Proofs.Ytmmiiapfefmcjaa
open Go.RowKit

set_option maxRecDepth 100000 in
set_option maxHeartbeats 1000000 in
theorem count_ok (n at2 : Nat) (start : Int) (most : Nat) (b : Nat) (a : Option Addr) (xs : List Int) (cap at' p : Nat) (w : World) (h : Rdr w b a xs cap at' p) (hby : By xs) (hr : Sp.rn xs at' 10 0 0 = .ok n at2) (hn : n ≤ most) (hm : most ≤ 65536) :
    Calls Try.prog 113 #[.pointer (some ⟨b, 0, none⟩), .int .i64 start, .int .i64 (most : Int)] w fun e w' => e = .returned (.int .i64 (n : Int)) ∧ Rdr w' b a xs cap at2 p ∧ But b w w' := by
  have HN : Hid (Calls Try.prog 86 #[.pointer (some ⟨b, 0, none⟩)] w fun e w' => e = .returned (.int .u64 (n : Int)) ∧ Rdr w' b a xs cap at2 p ∧ But b w w') := rnumber_ok n at2 b a xs cap at' p w h hby hr
  have h1 : ¬ ((most : Int) < (n : Int)) := by omega
  clear h hr hby
  go_enter Try.func113, Try.ntmps113
  go_wp2_with fail
  refine HN.out.mono ?_
  rintro e w1 ⟨rfl, hr1, hb1⟩
  have HR1 : Hid (Rdr w1 b a xs cap at2 p ∧ But b w w1) := ⟨hr1, hb1⟩
  clear hr1 hb1
  go_wp2_with fail
  go_ret
  exact ⟨rfl, HR1.out⟩

set_option maxRecDepth 100000 in
set_option maxHeartbeats 1000000 in
theorem version_ok (n at2 : Nat) (start : Int) (b : Nat) (a : Option Addr) (xs : List Int) (cap at' p : Nat) (w : World) (h : Rdr w b a xs cap at' p) (hby : By xs) (hr : Sp.rn xs at' 10 0 0 = .ok n at2) (hn : 1 ≤ n ∧ n ≤ 1000) :
    Calls Try.prog 116 #[.pointer (some ⟨b, 0, none⟩), .int .i64 start] w fun e w' => e = .returned (.tuple #[]) ∧ Rdr w' b a xs cap at2 p ∧ But b w w' := by
  have HN : Hid (Calls Try.prog 86 #[.pointer (some ⟨b, 0, none⟩)] w fun e w' => e = .returned (.int .u64 (n : Int)) ∧ Rdr w' b a xs cap at2 p ∧ But b w w') := rnumber_ok n at2 b a xs cap at' p w h hby hr
  have h1 : ¬ ((n : Int) < 1) := by omega
  have h2 : ¬ ((1000 : Int) < (n : Int)) := by omega
  clear h hr hby
  go_enter Try.func116, Try.ntmps116
  go_wp2_with fail
  refine HN.out.mono ?_
  rintro e w1 ⟨rfl, hr1, hb1⟩
  have HR1 : Hid (Rdr w1 b a xs cap at2 p ∧ But b w w1) := ⟨hr1, hb1⟩
  clear hr1 hb1
  go_wp2_with fail
  go_end0
  exact ⟨rfl, HR1.out⟩

set_option maxRecDepth 100000 in
set_option maxHeartbeats 1000000 in
theorem rbool_ok (x : Int) (b : Nat) (a : Option Addr) (xs : List Int) (cap at' p : Nat) (w : World) (h : Rdr w b a xs cap at' p) (hx : xs[at']? = some x) (h1 : x ≤ 1) :
    Calls Try.prog 111 #[.pointer (some ⟨b, 0, none⟩)] w fun e w' => e = .returned (.tuple #[]) ∧ Rdr w' b a xs cap (at' + 1) p ∧ But b w w' := by
  have HN : Hid (Calls Try.prog 84 #[.pointer (some ⟨b, 0, none⟩)] w fun e w' => e = .returned (.int .u8 x) ∧ Rdr w' b a xs cap (at' + 1) p ∧ But b w w') := rbyte_ok x b a xs cap at' p w h hx
  have h2 : ¬ ((1 : Int) < x) := by omega
  obtain ⟨c0, c1, c2, f1, f2, rd, cp, ln, le, np⟩ := h
  clear hx rd
  go_enter Try.func111, Try.ntmps111
  go_wp2_with fail
  refine HN.out.mono ?_
  rintro e w1 ⟨rfl, hr1, hb1⟩
  have HR1 : Hid (Rdr w1 b a xs cap (at' + 1) p ∧ But b w w1) := ⟨hr1, hb1⟩
  clear hr1 hb1
  go_wp2_with fail
  go_end0
  exact ⟨rfl, HR1.out⟩

set_option maxRecDepth 100000 in
set_option maxHeartbeats 1000000 in
theorem kind_ok (x : Int) (depth : Int) (b : Nat) (a : Option Addr) (xs : List Int) (cap at' p : Nat) (w : World) (h : Rdr w b a xs cap at' p) (hx : xs[at']? = some x) (hp : p < 16384) (hd : depth ≤ 64) :
    Calls Try.prog 110 #[.pointer (some ⟨b, 0, none⟩), .int .i64 depth] w fun e w' => e = .returned (.int .u8 x) ∧ Rdr w' b a xs cap (at' + 1) (p + 1) ∧ But b w w' := by
  have hl : at' < xs.length := (List.getElem?_eq_some_iff.1 hx).1
  have HE : Hid (Calls Try.prog 126 #[.pointer (some ⟨b, 0, none⟩), .int .i64 1] w fun e w' => e = .returned (.tuple #[]) ∧ Rdr w' b a xs cap at' p ∧ Below w.heap.size w w') := endRule_ok 1 b a xs cap at' p w h (by omega)
  have HX : Hid (xs[at']? = some x) := hx
  have hlt := h.lt
  have hp1 : ¬ ((16384 : Int) ≤ (p : Int)) := by omega
  have hd1 : ¬ ((64 : Int) < depth) := by omega
  clear h hx
  go_enter Try.func110, Try.ntmps110
  go_wp2_with fail
  refine HE.out.mono ?_
  rintro e w1 ⟨rfl, hr1, hb1⟩
  have HS : Hid (Rdr (w1.setCell ⟨b, 2, none⟩ (.int .i64 ((p : Int) + 1))) b a xs cap at' (p + 1) ∧ But b w (w1.setCell ⟨b, 2, none⟩ (.int .i64 ((p : Int) + 1)))) := by
    have := hr1.setP (p + 1) (by omega)
    rw [show (((p + 1 : Nat) : Int)) = (p : Int) + 1 by omega] at this
    exact ⟨this.1, (But.of hlt hb1).trans this.2⟩
  obtain ⟨c0, c1, c2, f1, f2, rd, cp, ln, le, np⟩ := hr1
  clear hb1 HE rd
  go_wp2_with fail
  refine (rbyte_ok x b a xs cap at' (p + 1) _ HS.out.1 HX.out).mono ?_
  rintro e w2 ⟨rfl, hr2, hb2⟩
  have HR2 : Hid (Rdr w2 b a xs cap (at' + 1) (p + 1) ∧ But b w w2) := ⟨hr2, HS.out.2.trans hb2⟩
  clear hr2 hb2
  go_wp2_with fail
  go_ret
  exact ⟨rfl, HR2.out⟩
end Go.Proofs.Ytmmiiapfefmcjaa

/- 'append' onto a slice that the call itself made: what it owns grows, nothing else turns, and the row is the old one or the newest block. -/
namespace Go.Proofs.Ytmmiiapfefmcjaa
open Go.RowKit

theorem run_app {P : Program} (w : World) (base : Nat) (t ty e : TypeId) (i : TypeInfo) (z : Value) (size bytes : Nat) (ht : P.underlying t = some (.slice e)) (hi : P.info? e = some i) (hz : i.zero = some z)
    (hsize : i.size = size) (hby : i.bytes = bytes) (hzs : z.cells.size = size) (hsz : 0 < size)
    (v : Value) (n : Nat) (xs : List Value) (hown : w.ownsRow base e size v n xs)
    (a : Addr) (m c : Nat) (news : List Value) (hl : news.length = m * size) (hnews : ∀ j u, news[j]? = some u → w.cell? (a.add j) = some u) (h1 : ∀ u ∈ news, u.oneCell' = true) (hm : 0 < m)
    (h63 : n + m ≤ maxLen) (hbytes : (n + m) * bytes ≤ 140737488355328) (hbase : base ≤ w.heap.size) :
    ∃ g cap w', (Builtin.append_ #[t, t] ty #[v, .slice (some a) m c]).run P w = .ok (.slice (some ⟨g, 0, none⟩) (n + m) cap) w' ∧ w'.ownsRow base e size (.slice (some ⟨g, 0, none⟩) (n + m) cap) (n + m) (xs ++ news) ∧ w.grownBy w' v.ownBlock ∧
      (v.ownBlock = some g ∨ g = w.heap.size) := by
  obtain ⟨v', w', hr, h2, h3, h4⟩ := run_append_own (P := P) w base t ty e i z size bytes ht hi hz hsize hby hzs hsz v n xs hown a m c news hl hnews h1 h63 hbytes hbase
  have hsmall : n + m ≤ 9223372036854775807 := by simp only [maxLen] at h63; omega
  have key : ∃ g cap, v' = .slice (some ⟨g, 0, none⟩) (n + m) cap ∧ (v.ownBlock = some g ∨ g = w.heap.size) := by
    subst hsize
    subst hby
    rcases hown.2 with ⟨rfl, rfl⟩ | ⟨g, cap, cur, rfl, hbg, hg, hnc, hcm, hcs, htake⟩
    · have hr' := run_append_nil (P := P) w t ty e i z ht hi hz a m c news hl hnews hm (by omega) (by have hb := hbytes; simp only [Nat.zero_add] at hb; omega)
      rw [hr] at hr'
      injection hr' with hv _
      exact ⟨w.heap.size, _, by rw [hv, Nat.zero_add], .inr rfl⟩
    · by_cases hroom : n + m ≤ cap
      · have hfit : n * i.size + news.length ≤ cur.size := by rw [hl, hcs, ← Nat.add_mul]; exact Nat.mul_le_mul_right _ hroom
        have hr' := run_append_room (P := P) w t ty e i ht hi g n cap cur hg a m c news hl hnews h1 hroom hfit
        rw [hr] at hr'
        injection hr' with hv _
        exact ⟨g, cap, hv, .inl rfl⟩
      · have holds : ∀ j u, xs[j]? = some u → w.cell? ((⟨g, 0, none⟩ : Addr).add j) = some u := hown.cells (g := g) rfl
        have hr' := run_append_grow (P := P) w t ty e i z ht hi hz ⟨g, 0, none⟩ n cap xs hown.1 holds a m c news hl hnews (by omega) (by omega) (growslice_fits (by omega) hbytes)
        rw [hr] at hr'
        injection hr' with hv _
        exact ⟨w.heap.size, _, hv, .inr rfl⟩
  obtain ⟨g, cap, rfl, ho⟩ := key
  exact ⟨g, cap, w', hr, h2, h3, ho⟩

theorem wpList_app {P : Program} (w : World) {ops : Array Oper} {rest : List Oper} {o : Oper} {a : Act} {Q : Exit → Act → World → Prop} (hgd : o.guard = none) (s x : Operand) (t : TypeId)
    (ho : o.op = .call { callee := .builtin .append, args := #[s, x], argTypes := #[t, t] })
    (base : Nat) (e : TypeId) (i : TypeInfo) (z : Value) (size bytes : Nat) (ht : P.underlying t = some (.slice e)) (hi : P.info? e = some i) (hz : i.zero = some z)
    (hsize : i.size = size) (hby : i.bytes = bytes) (hzs : z.cells.size = size) (hsz : 0 < size)
    (v : Value) (n : Nat) (xs : List Value) (hs : a.eval s = v) (hown : w.ownsRow base e size v n xs)
    (ad : Addr) (m c : Nat) (news : List Value) (hx : a.eval x = .slice (some ad) m c) (hl : news.length = m * size) (hnews : ∀ j u, news[j]? = some u → w.cell? (ad.add j) = some u) (h1 : ∀ u ∈ news, u.oneCell' = true) (hm : 0 < m)
    (h63 : n + m ≤ maxLen) (hbytes : (n + m) * bytes ≤ 140737488355328) (hbase : base ≤ w.heap.size)
    (h : ∀ g cap w', w'.ownsRow base e size (.slice (some ⟨g, 0, none⟩) (n + m) cap) (n + m) (xs ++ news) → w.grownBy w' v.ownBlock → (v.ownBlock = some g ∨ g = w.heap.size) → wpList P ops Q rest (a.put o.dst (.slice (some ⟨g, 0, none⟩) (n + m) cap)) w') : wpList P ops Q (o :: rest) a w := by
  refine wpList_plain hgd fun K hK => ?_
  obtain ⟨g, cap, w', hr, h2, h3, h4⟩ := run_app (P := P) w base t o.type e i z size bytes ht hi hz hsize hby hzs hsz v n xs hown ad m c news hl hnews h1 hm h63 hbytes hbase
  unfold Oper.wp execOp
  simp only [ho, resolve, invoke, builtin, Sem.run_bind, Sem.run_pure, Result.andThen_ok, List.map_toArray, List.map_cons, List.map_nil, hs, hx, hr]
  exact hK _ _ (h g cap w' h2 h3 h4)

/-- an append whose run is known -/
theorem wpList_ran {P : Program} (w : World) {ops : Array Oper} {rest : List Oper} {o : Oper} {a : Act} {Q : Exit → Act → World → Prop} (hgd : o.guard = none) (s x : Operand) (t : TypeId)
    (ho : o.op = .call { callee := .builtin .append, args := #[s, x], argTypes := #[t, t] }) (v y v' : Value) (w' : World) (hs : a.eval s = v) (hx : a.eval x = y)
    (hr : (Builtin.append_ #[t, t] o.type #[v, y]).run P w = .ok v' w') (h : wpList P ops Q rest (a.put o.dst v') w') : wpList P ops Q (o :: rest) a w := by
  refine wpList_plain hgd fun K hK => ?_
  unfold Oper.wp execOp
  simp only [ho, resolve, invoke, builtin, Sem.run_bind, Sem.run_pure, Result.andThen_ok, List.map_toArray, List.map_cons, List.map_nil, hs, hx, hr]
  exact hK _ _ h
theorem app_zero (ty : TypeId) (g : Nat) (ab : Option Addr) (cb : Nat) (w : World) : (Builtin.append_ #[23, 23] ty #[.slice (some ⟨g, 0, none⟩) 0 0, .slice ab 0 cb]).run Try.prog w = .ok (.slice (some ⟨g, 0, none⟩) 0 0) w := by
  cases ab <;> kernel_rfl

theorem Try.infoI : (Try.prog.info? 20).map (fun i => (i.zero, i.size, i.bytes)) = some (some .nilIface, 1, 16) := by kernel_rfl
theorem Try.infoF : (Try.prog.info? 109).map (fun i => (i.zero, i.size, i.bytes)) = some (some (.agg #[.string ByteArray.empty, .nilIface]), 2, 32) := by kernel_rfl
theorem Try.infoT : (Try.prog.info? 29).map (fun i => (i.zero, i.size, i.bytes)) = some (some (.agg (tcells 0 false 0 0 ByteArray.empty (.slice none 0 0) 0 (.slice none 0 0) (.slice none 0 0) ByteArray.empty 0)), 11, 152) := by kernel_rfl
theorem Try.infoB : (Try.prog.info? 5).map (fun i => (i.zero, i.size, i.bytes)) = some (some (.int .u8 0), 1, 1) := by kernel_rfl
theorem Try.undL : Try.prog.underlying 70 = some (.slice 20) := by kernel_rfl
theorem Try.undD : Try.prog.underlying 72 = some (.slice 109) := by kernel_rfl
theorem Try.undT : Try.prog.underlying 26 = some (.slice 29) := by kernel_rfl
theorem Try.undB : Try.prog.underlying 23 = some (.slice 5) := by kernel_rfl
end Go.Proofs.Ytmmiiapfefmcjaa

/- The reader's name where it is one. -/
namespace Go.Proofs.Ytmmiiapfefmcjaa
open Go.RowKit

theorem Try.undUd : Try.prog.underlying 5 = some (.int .u8) := by kernel_rfl
theorem Try.undSd : Try.prog.underlying 9 = some .string := by kernel_rfl
/-- bytes as a text -/
def Sp.txt (l : List Int) : ByteArray := strOfNums l
theorem txt_size (l : List Int) : (Sp.txt l).size = l.length := by simp [Sp.txt, strOfNums, ByteArray.size]
theorem conv_rd (l : List Int) (a : Option Addr) (c : Nat) (S : Nat → Prop) (w : World) (ha : RdB w S a l) : (convert 23 9 (.slice a l.length c)).run Try.prog w = .ok (.string (Sp.txt l)) w := by
  cases l with
  | nil =>
    cases a with
    | none => exact run_convert_bytes_nil w _ 5 Try.undB Try.undUd _ _ _ Try.undSd
    | some a =>
      rw [show ([] : List Int).length = 0 from rfl, run_convert_bytes_string w _ _ 5 _ _ _ Try.undB Try.undUd Try.undSd]
      exact run_bytesToString w a 0 c [] rfl
  | cons x l =>
    obtain ⟨g, o, rfl, _, _⟩ := ha 0 x rfl
    exact run_convert_bytes_arg (P := Try.prog) w 23 5 Try.undB Try.undUd g o (x :: l).length c (x :: l) rfl (fun i hi => by
      obtain ⟨g', o', e, _, hc⟩ := ha i ((x :: l)[i]) (List.getElem?_eq_getElem hi)
      simp only [Option.some.injEq, Addr.mk.injEq, and_true] at e
      obtain ⟨rfl, rfl⟩ := e
      rw [hc]; simp [List.getD, List.getElem?_eq_getElem hi]) 9 Try.undSd

set_option maxRecDepth 100000 in
set_option maxHeartbeats 1000000 in
theorem rname_ok (n at2 : Nat) (start : Int) (b : Nat) (a : Option Addr) (xs : List Int) (cap at' p : Nat) (w : World) (h : Rdr w b a xs cap at' p) (hby : By xs) (hr : Sp.rn xs at' 10 0 0 = .ok n at2) (hn : n ≤ 32) (hl : at2 + n ≤ xs.length) (hnm : Sp.isNm (Sp.txt ((xs.drop at2).take n)) = true) :
    Calls Try.prog 115 #[.pointer (some ⟨b, 0, none⟩), .int .i64 start] w fun e w' => ∃ a' cap', e = .returned (.slice a' n cap') ∧ RdB w' (Lo b) a' ((xs.drop at2).take n) ∧ Rdr w' b a xs cap (at2 + n) p ∧ But b w w' := by
  have HN : Hid (Calls Try.prog 86 #[.pointer (some ⟨b, 0, none⟩)] w fun e w' => e = .returned (.int .u64 (n : Int)) ∧ Rdr w' b a xs cap at2 p ∧ But b w w') := rnumber_ok n at2 b a xs cap at' p w h hby hr
  have h1 : ¬ ((32 : Int) < (n : Int)) := by omega
  have hlen : ((xs.drop at2).take n).length = n := by rw [List.length_take, List.length_drop]; omega
  have HIs : Hid (∀ W, Calls Try.prog 103 #[.string (Sp.txt ((xs.drop at2).take n))] W fun e w' => e = .returned (.bool true) ∧ W = w') := fun W => by
    have := isName_any (Sp.txt ((xs.drop at2).take n)) W (by rw [txt_size, hlen]; unfold maxLen; omega)
    rw [hnm] at this; exact this
  have HCV : Hid (∀ W a1 cap1, RdB W (Lo b) a1 ((xs.drop at2).take n) → (convert 23 9 (.slice a1 n cap1)).run Try.prog W = .ok (.string (Sp.txt ((xs.drop at2).take n))) W) := fun W a1 cap1 hW => by
    have := conv_rd _ a1 cap1 (Lo b) W hW
    rw [hlen] at this; exact this
  have HL : Hid (at2 + n ≤ xs.length) := hl
  clear h hr hby hnm hlen hl
  go_enter Try.func115, Try.ntmps115
  go_wp2_with fail
  refine HN.out.mono ?_
  rintro e w1 ⟨rfl, hr1, hb1⟩
  have HR1 : Hid (Rdr w1 b a xs cap at2 p ∧ But b w w1) := ⟨hr1, hb1⟩
  clear hr1 hb1
  go_wp2_with fail
  refine (take_ok n b a xs cap at2 p w1 HR1.out.1 HL.out).mono ?_
  rintro e w2 ⟨a2, cap2, rfl, hrd2, hr2, hb2⟩
  have hcv := HCV.out w2 a2 cap2 hrd2
  have HR2 : Hid (RdB w2 (Lo b) a2 ((xs.drop at2).take n) ∧ Rdr w2 b a xs cap (at2 + n) p ∧ But b w w2) := ⟨hrd2, hr2, HR1.out.2.trans hb2⟩
  clear hrd2 hr2 hb2
  go_wp2_with (go_at_call 103; refine (HIs.out _).mono ?_; rintro e w' ⟨rfl, rfl⟩)
  go_ret
  exact ⟨a2, cap2, rfl, HR2.out⟩
end Go.Proofs.Ytmmiiapfefmcjaa

/- Plain mathematics: the order of terms, and that it is an order. Nothing of the program stands here. -/
namespace Go.Proofs.Ytmmiiapfefmcjaa

namespace Sp
def cmpI (a b : Int) : Int := if a < b then -1 else if b < a then 1 else 0
def cmpS (a b : ByteArray) : Int := Lib.compareBytes a.data.toList b.data.toList
def rank (b : Bool) : Int := if b then 1 else 0
/-- where a float stands, by its bits -/
def frank (f : Nat) : Int := if 9223372036854775808 ≤ f then 18446744073709551615 - f else f + 9223372036854775808
end Sp

mutual
def Tm.cmp : Tm → Tm → Int
  | .mk k b i f tx by' rf l fs c v, .mk k2 b2 i2 f2 tx2 by2 rf2 l2 fs2 c2 v2 =>
    if Sp.cmpI k k2 ≠ 0 then Sp.cmpI k k2
    else if k = 2 then Sp.cmpI (Sp.rank b) (Sp.rank b2)
    else if k = 3 then Sp.cmpI i i2
    else if k = 4 then Sp.cmpI (Sp.frank f) (Sp.frank f2)
    else if k = 5 then Sp.cmpS tx tx2
    else if k = 6 then Sp.cmpS by' by2
    else if k = 7 then Sp.cmpI rf rf2
    else if k = 8 then l.cmp l2
    else if k = 9 then fs.cmp fs2
    else if k = 10 then (if Sp.cmpS c c2 ≠ 0 then Sp.cmpS c c2 else if Sp.cmpI v v2 ≠ 0 then Sp.cmpI v v2 else fs.cmp fs2)
    else 0
def TmL.cmp : TmL → TmL → Int
  | .nil, .nil => 0
  | .nil, .cons _ _ => -1
  | .cons _ _, .nil => 1
  | .cons t l, .cons t2 l2 => if t.cmp t2 ≠ 0 then t.cmp t2 else l.cmp l2
def TmF.cmp : TmF → TmF → Int
  | .nil, .nil => 0
  | .nil, .cons _ _ _ => -1
  | .cons _ _ _, .nil => 1
  | .cons n t l, .cons n2 t2 l2 => if Sp.cmpS n n2 ≠ 0 then Sp.cmpS n n2 else if t.cmp t2 ≠ 0 then t.cmp t2 else l.cmp l2
end

theorem ba_empty {s : ByteArray} (h : s.size = 0) : s = ByteArray.empty := by
  cases s with | mk d => simp [ByteArray.size] at h; subst h; rfl
theorem bytesLess_cmp : ∀ (a b : List UInt8), Op.bytesLess a b = decide (Lib.compareBytes a b = -1)
  | [], [] => by simp [Op.bytesLess, Lib.compareBytes]
  | [], _ :: _ => by simp [Op.bytesLess, Lib.compareBytes]
  | _ :: _, [] => by simp [Op.bytesLess, Lib.compareBytes]
  | x :: a, y :: b => by
    simp only [Op.bytesLess, Lib.compareBytes, bytesLess_cmp a b]
    by_cases h1 : x < y
    · simp [h1]
    · by_cases h2 : y < x
      · have : ¬ x = y := by intro e; subst e; exact absurd h2 (UInt8.lt_irrefl _)
        simp [h1, h2, this]
      · have : x = y := UInt8.le_antisymm (UInt8.not_lt.1 h2) (UInt8.not_lt.1 h1)
        simp [this]
theorem cmp_eq_zero : ∀ (a b : List UInt8), Lib.compareBytes a b = 0 ↔ a = b
  | [], [] => by simp [Lib.compareBytes]
  | [], _ :: _ => by simp [Lib.compareBytes]
  | _ :: _, [] => by simp [Lib.compareBytes]
  | x :: a, y :: b => by
    simp only [Lib.compareBytes]
    by_cases h1 : x < y
    · have : ¬ x = y := by intro e; subst e; exact absurd h1 (UInt8.lt_irrefl _)
      simp [h1, this]
    · by_cases h2 : y < x
      · have : ¬ x = y := by intro e; subst e; exact absurd h2 (UInt8.lt_irrefl _)
        simp [h1, h2, this]
      · have : x = y := UInt8.le_antisymm (UInt8.not_lt.1 h2) (UInt8.not_lt.1 h1)
        simp [this, cmp_eq_zero a b]
theorem cmp_vals : ∀ (a b : List UInt8), Lib.compareBytes a b = -1 ∨ Lib.compareBytes a b = 0 ∨ Lib.compareBytes a b = 1
  | [], [] => by simp [Lib.compareBytes]
  | [], _ :: _ => by simp [Lib.compareBytes]
  | _ :: _, [] => by simp [Lib.compareBytes]
  | x :: a, y :: b => by
    simp only [Lib.compareBytes]
    split
    · simp
    · split
      · simp
      · exact cmp_vals a b

section
variable {b b2 : Bool} {i i2 : Int} {f f2 : Nat} {tx tx2 : ByteArray} {by' by2 : ByteArray} {rf rf2 : Int} {l l2 : TmL} {fs fs2 : TmF} {c c2 : ByteArray} {v v2 : Int}
end

/-- a term, a list of terms, fields that can be -/
def Tm.Ok (t : Tm) : Prop := ∃ n p d, (t.wk n p d).e = 0
def TmL.Ok (l : TmL) : Prop := ∃ n p d, (l.wk n p d).e = 0
def TmF.Ok (l : TmF) : Prop := ∃ n p d, (l.wk n p d).e = 0
theorem TmL.Ok.head {t : Tm} {l : TmL} (h : TmL.Ok (.cons t l)) : t.Ok ∧ l.Ok := by
  obtain ⟨n, p, d, h⟩ := h
  rw [TmL.wk] at h
  by_cases e : (t.wk n p d).e ≠ 0
  · rw [if_pos e] at h; exact absurd h e
  · rw [if_neg e] at h; exact ⟨⟨n, p, d, Decidable.not_not.1 e⟩, ⟨_, _, _, h⟩⟩
theorem TmF.Ok.head {m : ByteArray} {t : Tm} {l : TmF} (h : TmF.Ok (.cons m t l)) : t.Ok ∧ l.Ok := by
  obtain ⟨n, p, d, h⟩ := h
  rw [TmF.wk] at h
  by_cases e : (t.wk n p d).e ≠ 0
  · rw [if_pos e] at h; exact absurd h e
  · rw [if_neg e] at h; exact ⟨⟨n, p, d, Decidable.not_not.1 e⟩, ⟨_, _, _, h⟩⟩
theorem Tm.Ok.parts {k : Int} {b : Bool} {i : Int} {f : Nat} {tx : ByteArray} {by' : ByteArray} {rf : Int} {l : TmL} {fs : TmF} {c : ByteArray} {v : Int} (h : Tm.Ok (.mk k b i f tx by' rf l fs c v)) :
    1 ≤ k ∧ k ≤ 10 ∧ (k = 8 → l.Ok) ∧ (k = 9 ∨ k = 10 → fs.Ok) := by
  obtain ⟨n, p, d, h⟩ := h
  rw [Tm.wk] at h
  by_cases e : (Tm.mk k b i f tx by' rf l fs c v).own p n ≠ 0
  · rw [if_pos e] at h; exact absurd h e
  · rw [if_neg e] at h
    have hz := Sp.ent_zero (Tm.own_ent _ _ _ (Decidable.not_not.1 e))
    refine ⟨hz.1, hz.2.1, fun h8 => ?_, fun h9 => ?_⟩
    · rw [if_pos h8] at h; exact ⟨_, _, _, h⟩
    · rw [if_neg (by omega), if_pos h9] at h; exact ⟨_, _, _, h⟩
end Go.Proofs.Ytmmiiapfefmcjaa

