/- How a type that came in lies in memory: its eighteen cells, and the types, names and bools behind its slices. -/
import Derived.Test.YtjdjpbdfchhcfaaGreatKE3
import Derived.Test.YtjdjpbdfchhcfaaGreatKE9
import Derived.Test.YtjdjpbdfchhcfaaGreatKE2
namespace Go.Proofs.YtjdjpbdfchhcfaaGreat
open Go.RowKit

def ycells (k o k1 : Int) (b : Bool) (i : Int) (f : Nat) (tx : ByteArray) (vb : Value) (rf : Int) (vl vf : Value) (c : ByteArray) (vr : Int) (vp vn vk : Value) (op : Bool) (cl : ByteArray) : Array Value :=
  #[.int .i64 k, .int .i64 o, .int .i64 k1, .bool b, .int .i64 i, .float .f64 f, .string tx, vb, .int .u64 rf, vl, vf, .string c, .int .i64 vr, vp, vn, vk, .bool op, .string cl]
def NamesAt (w : World) (B : Nat → Prop) (a : Option Addr) (l : List ByteArray) : Prop := ∀ j s, l[j]? = some s → ∃ g o, a = some ⟨g, o, none⟩ ∧ B g ∧ w.cell? ⟨g, o + j, none⟩ = some (.string s) ∧ s.size ≤ 140737488355328
def BoolsAt (w : World) (B : Nat → Prop) (a : Option Addr) (l : List Bool) : Prop := ∀ j s, l[j]? = some s → ∃ g o, a = some ⟨g, o, none⟩ ∧ B g ∧ w.cell? ⟨g, o + j, none⟩ = some (.bool s)
theorem NamesAt.same {w w' : World} {B B' : Nat → Prop} {a : Option Addr} {l : List ByteArray} (h : NamesAt w B a l) (hs : Same B w w') (hB : ∀ k, B k → B' k) : NamesAt w' B' a l := by
  intro j s hj
  obtain ⟨g, o, e, hg, hc, hz⟩ := h j s hj
  exact ⟨g, o, e, hB _ hg, by rw [hs.cell (p := ⟨g, o + j, none⟩) hg]; exact hc, hz⟩
theorem BoolsAt.same {w w' : World} {B B' : Nat → Prop} {a : Option Addr} {l : List Bool} (h : BoolsAt w B a l) (hs : Same B w w') (hB : ∀ k, B k → B' k) : BoolsAt w' B' a l := by
  intro j s hj
  obtain ⟨g, o, e, hg, hc⟩ := h j s hj
  exact ⟨g, o, e, hB _ hg, by rw [hs.cell (p := ⟨g, o + j, none⟩) hg]; exact hc⟩
mutual
def Ty.In (w : World) (B : Nat → Prop) : Ty → Array Value → Prop
  | .mk k o t p n l op c, cs => ∃ k1 b i f tx ab nb cb rf al nl cl af nf cf c1 vr ap cp an cn ak ck, cs = ycells k o k1 b i f tx (.slice ab nb cb) rf (.slice al nl cl) (.slice af nf cf) c1 vr (.slice ap p.len cp) (.slice an n.length cn) (.slice ak l.length ck) op c ∧
      t.In w B (tcells k1 b i f tx (.slice ab nb cb) rf (.slice al nl cl) (.slice af nf cf) c1 vr) ∧ (-9223372036854775808 ≤ k ∧ k ≤ 9223372036854775807) ∧ (-9223372036854775808 ≤ o ∧ o ≤ 9223372036854775807) ∧ (p.len ≤ 70368744177664 ∧ n.length ≤ 70368744177664 ∧ l.length ≤ 140737488355328 ∧ c.size ≤ 140737488355328) ∧
      p.In w B ap 0 ∧ NamesAt w B an n ∧ BoolsAt w B ak l
def TyL.In (w : World) (B : Nat → Prop) : TyL → Option Addr → Nat → Prop
  | .nil, _, _ => True
  | .cons t l, a, j => ∃ g o cs, a = some ⟨g, o, none⟩ ∧ B g ∧ (∀ x, x < 18 → w.cell? ⟨g, o + j * 18 + x, none⟩ = cs[x]?) ∧ t.In w B cs ∧ l.In w B a (j + 1)
end
mutual
theorem Ty.In_same {w w' : World} {B B' : Nat → Prop} (hs : Same B w w') (hB : ∀ k, B k → B' k) : (t : Ty) → ∀ cs, t.In w B cs → t.In w' B' cs
  | .mk k o t p n l op c, cs, h => by
    simp only [Ty.In] at h ⊢
    obtain ⟨k1, b, i, f, tx, ab, nb, cb, rf, al, nl, cl, af, nf, cf, c1, vr, ap, cp, an, cn, ak, ck, e, ht, hk, ho, hz, hp, hn, hl⟩ := h
    exact ⟨k1, b, i, f, tx, ab, nb, cb, rf, al, nl, cl, af, nf, cf, c1, vr, ap, cp, an, cn, ak, ck, e, t.In_same hs hB _ ht, hk, ho, hz, TyL.In_same hs hB p _ _ hp, hn.same hs hB, hl.same hs hB⟩
theorem TyL.In_same {w w' : World} {B B' : Nat → Prop} (hs : Same B w w') (hB : ∀ k, B k → B' k) : (l : TyL) → ∀ a j, l.In w B a j → l.In w' B' a j
  | .nil, _, _, _ => by simp [TyL.In]
  | .cons t l, a, j, h => by
    simp only [TyL.In] at h ⊢
    obtain ⟨g, o, cs, e, hg, hc, ht, hl⟩ := h
    exact ⟨g, o, cs, e, hB _ hg, fun x hx => by rw [hs.cell (p := ⟨g, o + j * 18 + x, none⟩) hg]; exact hc x hx, Ty.In_same hs hB t _ ht, TyL.In_same hs hB l _ _ hl⟩
end
theorem eighteen {w : World} {g o : Nat} {k o' k1 : Int} {b : Bool} {i : Int} {f : Nat} {tx : ByteArray} {vb : Value} {rf : Int} {vl vf : Value} {c : ByteArray} {vr : Int} {vp vn vk : Value} {op : Bool} {cl : ByteArray}
    (h : ∀ x, x < 18 → w.cell? ⟨g, o + x, none⟩ = (ycells k o' k1 b i f tx vb rf vl vf c vr vp vn vk op cl)[x]?) :
    w.cell? ⟨g, o, none⟩ = some (.int .i64 k) ∧ w.cell? ⟨g, o + 1, none⟩ = some (.int .i64 o') ∧ w.cell? ⟨g, o + 2, none⟩ = some (.int .i64 k1) ∧ w.cell? ⟨g, o + 3, none⟩ = some (.bool b) ∧ w.cell? ⟨g, o + 4, none⟩ = some (.int .i64 i) ∧ w.cell? ⟨g, o + 5, none⟩ = some (.float .f64 f) ∧ w.cell? ⟨g, o + 6, none⟩ = some (.string tx) ∧ w.cell? ⟨g, o + 7, none⟩ = some vb ∧ w.cell? ⟨g, o + 8, none⟩ = some (.int .u64 rf) ∧ w.cell? ⟨g, o + 9, none⟩ = some vl ∧ w.cell? ⟨g, o + 10, none⟩ = some vf ∧ w.cell? ⟨g, o + 11, none⟩ = some (.string c) ∧ w.cell? ⟨g, o + 12, none⟩ = some (.int .i64 vr) ∧ w.cell? ⟨g, o + 13, none⟩ = some vp ∧ w.cell? ⟨g, o + 14, none⟩ = some vn ∧ w.cell? ⟨g, o + 15, none⟩ = some vk ∧ w.cell? ⟨g, o + 16, none⟩ = some (.bool op) ∧ w.cell? ⟨g, o + 17, none⟩ = some (.string cl) :=
  ⟨h 0 (by decide), h 1 (by decide), h 2 (by decide), h 3 (by decide), h 4 (by decide), h 5 (by decide), h 6 (by decide), h 7 (by decide), h 8 (by decide), h 9 (by decide), h 10 (by decide), h 11 (by decide), h 12 (by decide), h 13 (by decide), h 14 (by decide), h 15 (by decide), h 16 (by decide), h 17 (by decide)⟩
theorem ybox {w : World} {g : Nat} {cs : Array Value} {T : TypeId} (h : w.heap[g]? = some (.cells cs T (0, 0))) : ∀ x, x < 18 → w.cell? ⟨g, 0 + x, none⟩ = cs[x]? := fun x _ => by
  rw [Nat.zero_add]; simp [World.cell?, h]
end Go.Proofs.YtjdjpbdfchhcfaaGreat

/- types.partsOf, namesFit, ownFits. -/
namespace Go.Proofs.YtjdjpbdfchhcfaaGreat
open Go.RowKit

section
variable (k o k1 : Int) (b : Bool) (i : Int) (f : Nat) (tx : ByteArray) (ab : Option Addr) (nb cb : Nat) (rf : Int) (al : Option Addr) (nl cl : Nat) (af : Option Addr) (nf cf : Nat) (c : ByteArray) (vr : Int) (ap : Option Addr) (np cp : Nat) (an : Option Addr) (nn cn : Nat) (ak : Option Addr) (nk ck : Nat) (op : Bool) (cs : ByteArray) (w : World)
set_option maxRecDepth 100000 in
set_option maxHeartbeats 1000000 in
theorem partsOf_y (hk : Sp.parted k = true) : Calls Tryz.prog 125 #[.agg (ycells k o k1 b i f tx (.slice ab nb cb) rf (.slice al nl cl) (.slice af nf cf) c vr (.slice ap np cp) (.slice an nn cn) (.slice ak nk ck) op cs)] w fun e w' => e = .returned (.slice ap np cp) ∧ Below w.heap.size w w' := by
  unfold ycells
  have hk' : k = 5 ∨ k = 6 ∨ k = 7 := by simp [Sp.parted] at hk; omega
  rcases hk' with rfl | rfl | rfl
  all_goals
    go_enter Tryz.func125, Tryz.ntmps125
    go_wp2_with fail
    go_ret
    exact ⟨rfl, (Below.refl _ _).alloc (Nat.le_refl _) _⟩
set_option maxRecDepth 100000 in
set_option maxHeartbeats 1000000 in
theorem partsOf_n (hk : Sp.parted k = false) : Calls Tryz.prog 125 #[.agg (ycells k o k1 b i f tx (.slice ab nb cb) rf (.slice al nl cl) (.slice af nf cf) c vr (.slice ap np cp) (.slice an nn cn) (.slice ak nk ck) op cs)] w fun e w' => e = .returned (.slice none 0 0) ∧ Below w.heap.size w w' := by
  unfold ycells
  simp only [Sp.parted, Bool.or_eq_false_iff] at hk
  obtain ⟨⟨h5, h6⟩, h7⟩ := hk
  go_enter Tryz.func125, Tryz.ntmps125
  go_wp2_with fail
  go_ret
  exact ⟨rfl, (Below.refl _ _).alloc (Nat.le_refl _) _⟩
end

theorem Sp.named_drop (l : List ByteArray) (k : Nat) (hk : k < l.length) (a : ByteArray) : Sp.named a (l.drop k) = (Sp.isNm l[k] && !Sp.leS l[k] a && Sp.named l[k] (l.drop (k + 1))) := by
  rw [List.drop_eq_getElem_cons hk, Sp.named]

set_option maxRecDepth 100000 in
set_option maxHeartbeats 2000000 in
theorem namesFit_any (l : List ByteArray) (a : Option Addr) (cap : Nat) (B : Nat → Prop) (w : World) (h : NamesAt w B a l) (hl : l.length ≤ 140737488355328) :
    Calls Tryz.prog 133 #[.slice a l.length cap] w fun e w' => e = .returned (.bool (Sp.namesFit l)) ∧ w = w' := by
  by_cases h4 : 4096 < l.length
  · have h4' : (4096 : Int) < (l.length : Int) := by omega
    have HX : Hid (Sp.namesFit l = false) := by show _ = _; simp [Sp.namesFit]; intro; omega
    rw [HX.out]
    clear h4 h
    go_enter Tryz.func133, Tryz.ntmps133
    go_wp2_with fail
    go_ret
    exact ⟨rfl, rfl⟩
  · have h4' : ¬ (4096 : Int) < (l.length : Int) := by omega
    have HX : Hid (Sp.namesFit l = Sp.named ByteArray.empty l) := by
      show _ = _
      unfold Sp.namesFit
      rw [decide_eq_true (by omega : l.length ≤ 4096), Bool.true_and]
    rw [HX.out]
    have HN : Hid (NamesAt w B a l) := h
    have hll : l.length ≤ 4096 := by omega
    clear h4 h hl
    go_enter Tryz.func133, Tryz.ntmps133
    go_wp2_with fail
    go_loopw [3, 11] (fun u i wr => ∃ (k : Nat) (ah : ByteArray), k ≤ l.length ∧ i = .int .i64 (k : Int) ∧ u = .string ah ∧ Hid (Sp.named ByteArray.empty l = Sp.named ah (l.drop k)) ∧ wr = w) (fun _ i _ => l.length - (intOf i).toNat)
    case atStart => exact ⟨0, ByteArray.empty, by omega, rfl, rfl, (show _ = _ by simp), rfl⟩
    case round =>
      obtain ⟨k, ah, hk, rfl, rfl, HK, rfl⟩ := hrel
      by_cases hlt : k < l.length
      · obtain ⟨g, o, rfl, hg, hc, hz⟩ := HN.out k l[k] (List.getElem?_eq_getElem hlt)
        have HD : Hid (Sp.named ah (l.drop k) = (Sp.isNm l[k] && !Sp.leS l[k] ah && Sp.named l[k] (l.drop (k + 1)))) := Sp.named_drop l k hlt ah
        have HS : Hid (∀ W, Calls Tryz.prog 131 #[.string l[k]] W fun e w' => e = .returned (.bool (Sp.isNm l[k])) ∧ W = w') := fun W => isName_any l[k] W (by unfold maxLen; omega)
        clear hg hz
        generalize l[k] = x at hc HD HS
        cases hnm : Sp.isNm x with
        | false =>
          rw [hnm] at HS
          have HE : Hid (Sp.named ByteArray.empty l = false) := by show _ = _; rw [HK.out, HD.out, hnm]; rfl
          go_wp2_with fail
          refine (HS.out _).mono ?_
          rintro e w1 ⟨rfl, rfl⟩
          go_wp2_with fail
          go_ret
          exact ⟨by rw [HE.out]; rfl, rfl⟩
        | true =>
          rw [hnm] at HS
          cases hle : Sp.leS x ah with
          | true =>
            have HE : Hid (Sp.named ByteArray.empty l = false) := by show _ = _; rw [HK.out, HD.out, hnm, hle]; rfl
            unfold Sp.leS at hle
            go_wp2_with fail
            refine (HS.out _).mono ?_
            rintro e w1 ⟨rfl, rfl⟩
            go_wp2_with fail
            go_ret
            exact ⟨by rw [HE.out]; rfl, rfl⟩
          | false =>
            have HE : Hid (Sp.named ByteArray.empty l = Sp.named x (l.drop (k + 1))) := by show _ = _; rw [HK.out, HD.out, hnm, hle]; rfl
            unfold Sp.leS at hle
            go_wp2_with fail
            refine (HS.out _).mono ?_
            rintro e w1 ⟨rfl, rfl⟩
            go_wp2_with fail
            go_roundw
            case rel => exact ⟨k + 1, x, by omega, by go_num, rfl, HE, by trivial⟩
            case measure => simp [intOf]; omega
      · obtain rfl : k = l.length := by omega
        have HE : Hid (Sp.named ByteArray.empty l = true) := by show _ = _; rw [HK.out, List.drop_length]; rfl
        go_wp2_with fail
        go_ret
        exact ⟨by rw [HE.out]; rfl, rfl⟩
end Go.Proofs.YtjdjpbdfchhcfaaGreat

