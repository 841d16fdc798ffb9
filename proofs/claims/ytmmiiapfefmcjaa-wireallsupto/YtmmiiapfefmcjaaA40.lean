/- tenonref03.All. -/
import Derived.Test.YtmmiiapfefmcjaaA39
import Derived.Deep.RegionHeld3
import Derived.Test.YtmmiiapfefmcjaaA2
import Derived.ProofKit
import Derived.OpenShut
import Derived.SizedLaws
import Derived.Test.YtmmiiapfefmcjaaRows
import Derived.JoinedCond
namespace Go.Proofs.Ytmmiiapfefmcjaa
open Go.RowKit

theorem rall_step {w wr w1 U w3 : World} {u u' : Value} {j : Nat} {L l : TmL} {t : Tm} {ys : List (Array Value)} {cs : Array Value} (hq : QR 29 11 w wr u j (ys.flatMap (·.toList))) (hB : Below wr.heap.size wr w1) (hU : Below w1.heap.size w1 U) (hA : ∀ k, k < U.heap.size → u.ownBlock ≠ some k → w3.heap[k]? = U.heap[k]? ∧ u'.ownBlock ≠ some k) (hz : U.heap.size ≤ w3.heap.size) (hp : TPre wr (OwnV w.heap.size wr u) L ys (.cons t l)) (hv : t.In w1 (Fr wr w1) cs) (hc : cs.size = 11) : TPre w3 (OwnV w.heap.size w3 u') L (ys ++ [cs]) l := by
  have hz1 := hB.size
  have hz2 := hU.size
  have hw := hq.bel.size
  obtain ⟨k1, k2⟩ := ownV_keep (w := w) (v := u) (v' := u') (wr := wr) (w3 := w3) (by omega) (fun k h1 h2 h3 => ⟨by rw [(hA k (by omega) h3).1, hU.block k (by omega)]; exact hB.block k h2, (hA k (by omega) h3).2⟩)
  have hne : ∀ k, wr.heap.size ≤ k → u.ownBlock ≠ some k := fun k hk e => by have := (owns_at hq.own k e).2; omega
  refine TPre.snoc _ _ t l cs (TPre.same k1 k2 _ _ _ hp) (t.In_same (B := Fr wr w1) (fun k hk => ?_) (fun k hk => ?_) cs hv) hc
  · have h2 := hk.2
    rw [(hA k (by omega) (hne k hk.1)).1]; exact hU.block k h2
  · have h1 := hk.1; have h2 := hk.2
    exact ⟨by omega, by omega, (hA k (by omega) (hne k hk.1)).2⟩
theorem rall_done {w wr : World} {j : Nat} {L : TmL} {ys : List (Array Value)} {al : Option Addr} {cl : Nat} (h : QR 29 11 w wr (.slice al j cl) j (ys.flatMap (·.toList))) (hp : TPre wr (OwnV w.heap.size wr (.slice al j cl)) L ys .nil) : L.len = j ∧ L.In wr (Fr w wr) al 0 := by
  have h6 := h.own.1
  have h7 := TPre.len L ys .nil hp
  have h8 := TPre.cells L ys .nil hp
  simp only [TmL.len, Nat.add_zero] at h7
  rw [h8, h7.symm] at h6
  have hlen : L.len = j := by omega
  refine ⟨hlen, ?_⟩
  rcases h.own.2 with ⟨e, e0⟩ | ⟨g0, cap, cur, e, hb0, _⟩
  · have : L = .nil := by cases L with
      | nil => rfl
      | cons t l => simp [TmL.len] at hlen; omega
    subst this; exact trivial
  · injection e with e1 e2 e3
    subst e1
    have hown := h.own
    refine TPre.done (B := OwnV w.heap.size wr _) (Same.refl _ _) (fun k hk => ⟨hk.1, hk.2.1⟩) g0 ⟨hb0, (hown.lt g0 rfl).2⟩ L ys 0 hp (fun i x hx => ?_)
    have h9 := hown.cells (g := g0) rfl i x hx
    rw [addr_add] at h9; simpa using h9

set_option maxRecDepth 100000 in
set_option maxHeartbeats 2000000 in
theorem refAll_some (xs : List Int) (hby : By xs) (g0 o0 cap : Nat) (w : World) (hrd : RdB w (Lo w.heap.size) (some ⟨g0, o0, none⟩) xs) (hcp : xs.length ≤ cap) (hln : xs.length ≤ 1048576) :
    Calls Try.prog 30 #[.slice (some ⟨g0, o0, none⟩) xs.length cap] w (AllE xs w fun L w' al => L.In w' (Fr w w') al 0) := by
  obtain ⟨i0, hi, hz0, hz1, hz2⟩ := info_parts Try.infoT
  have HBY : Hid (By xs) := hby
  have HD : Hid (∀ (W : World) (at' : Nat) (t : Tm) (p2 n : Nat), Below w.heap.size w W → Sp.rdV (xs.drop at') 64 0 0 = .ok (t, p2) n → Calls Try.prog 26 #[.slice (some ⟨g0, o0 + at', none⟩) (xs.length - at') (cap - at')] W fun e w' => ∃ (u : Int) (b : Bool) (i : Int) (f : Nat) (tx : ByteArray) (ab : Option Addr) (nb cb : Nat) (rf : Int) (al : Option Addr) (nl cl : Nat) (af : Option Addr) (nf cf : Nat) (c : ByteArray) (vr : Int), e = .returned (.tuple #[.agg #[.int .i64 u, .bool b, .int .i64 i, .float .f64 f, .string tx, .slice ab nb cb, .int .u64 rf, .slice al nl cl, .slice af nf cf, .string c, .int .i64 vr], .int .i64 (n : Int), .int .i64 0]) ∧ Below W.heap.size W w' ∧ t.In w' (Fr W w') #[.int .i64 u, .bool b, .int .i64 i, .float .f64 f, .string tx, .slice ab nb cb, .int .u64 rf, .slice al nl cl, .slice af nf cf, .string c, .int .i64 vr]) := fun W at' t p2 n hW hr => by
    have := refDecode_ok (xs.drop at') (hby.drop at') t p2 n hr (some ⟨g0, o0 + at', none⟩) (cap - at') W (by rw [List.length_drop]; omega) ((rdb_drop hrd at').same (Same.of_below hW (Nat.le_refl _)) (Lo.le hW.size)) (by rw [List.length_drop]; omega)
    rw [List.length_drop] at this
    exact this
  have HDB : Hid (∀ (W : World) (at' q : Nat) (er : Int), Below w.heap.size w W → Sp.rdV (xs.drop at') 64 0 0 = .bad q er → Calls Try.prog 26 #[.slice (some ⟨g0, o0 + at', none⟩) (xs.length - at') (cap - at')] W fun e w' => e = .returned (.tuple #[.agg #[.int .i64 0, .bool false, .int .i64 0, .float .f64 0, .string ⟨#[]⟩, .slice none 0 0, .int .u64 0, .slice none 0 0, .slice none 0 0, .string ⟨#[]⟩, .int .i64 0], .int .i64 (q : Int), .int .i64 er]) ∧ Below W.heap.size W w') := fun W at' q er hW hr => by
    have := refDecode_bad (xs.drop at') (hby.drop at') q er hr (some ⟨g0, o0 + at', none⟩) (cap - at') W (by rw [List.length_drop]; omega) ((rdb_drop hrd at').same (Same.of_below hW (Nat.le_refl _)) (Lo.le hW.size)) (by rw [List.length_drop]; omega)
    rw [List.length_drop] at this
    exact this
  have H0 : Hid (QR 29 11 w (w.alloc (.cells #[] 29)) (.slice (some ⟨w.heap.size, 0, none⟩) 0 0) 0 [] ∧ AI xs (xs.length + 1) 0 (fun L l => TPre (w.alloc (.cells #[] 29)) (OwnV w.heap.size (w.alloc (.cells #[] 29)) (.slice (some ⟨w.heap.size, 0, none⟩) 0 0)) L [] l)) :=
    ⟨⟨(Below.refl _ _).alloc (Nat.le_refl _) _, ⟨rfl, .inr ⟨_, 0, #[], rfl, Nat.le_refl _, heap_alloc_new w _, Nat.le_refl _, by simp [maxLen], rfl, rfl⟩⟩⟩, AI.start _ _ (fun L => (TPre_nil _ _).2 rfl)⟩
  clear hby hrd
  go_enter Try.func30, Try.ntmps30
  go_wp2_with fail
  go_loopw [5, 6] (fun u x wr => ∃ (j at' f : Nat) (ys : List (Array Value)) (lv : Option Addr) (lc : Nat), u = .slice lv j lc ∧ x = .int .i64 at' ∧ j ≤ at' ∧ at' ≤ xs.length ∧ Hid (QR 29 11 w wr (.slice lv j lc) j (ys.flatMap (·.toList)) ∧ AI xs f at' (fun L l => TPre wr (OwnV w.heap.size wr (.slice lv j lc)) L ys l))) (fun _ x _ => xs.length - (intOf x).toNat)
  case atStart => exact ⟨0, 0, xs.length + 1, [], some ⟨w.heap.size, 0, none⟩, 0, rfl, rfl, by omega, by omega, H0.out⟩
  case round =>
    obtain ⟨j, at', fu, ys, lv, lc, rfl, rfl, hja, hal, HR⟩ := hrel
    clear H0
    by_cases hlt : at' < xs.length
    · have hq0 : (0 : Int) ≤ (at' : Int) := Int.natCast_nonneg _
      have hq1 : (at' : Int) ≤ (xs.length : Int) := by omega
      have hq2 : (at' : Int) ≤ (cap : Int) := by omega
      have hq3 : ¬ cap = at' := by omega
      have hq4 : IntKind.i64.wrap (at' : Int) = (at' : Int) := by rw [IntKind.wrap_i64]; omega
      have hq5 : (xs.length : Int) ≤ (cap : Int) := by omega
      cases hr : Sp.rdV (xs.drop at') 64 0 0 with
      | ok tp n =>
        obtain ⟨t, p2⟩ := tp
        have HRR : Hid (Sp.rdV (xs.drop at') 64 0 0 = .ok (t, p2) n) := hr
        clear hr
        obtain ⟨n1, n2, _⟩ := rd_len (HBY.out.drop at') HRR.out
        rw [List.length_drop] at n2
        have hq6 : IntKind.i64.wrap ((at' : Int) + (n : Int)) = (at' : Int) + (n : Int) := by rw [IntKind.wrap_i64]; omega
        go_wp2_with fail
        refine (HD.out wr at' t p2 n HR.out.1.bel HRR.out).mono ?_
        rintro e w1 ⟨u, b, i, f, tx, ab, nb, cb, rf, al, nl, cl, af, nf, cf, c, vr, rfl, hb, hv⟩
        have HB : Hid (Below wr.heap.size wr w1) := hb
        have HV : Hid (t.In w1 (Fr wr w1) #[.int .i64 u, .bool b, .int .i64 i, .float .f64 f, .string tx, .slice ab nb cb, .int .u64 rf, .slice al nl cl, .slice af nf cf, .string c, .int .i64 vr]) := hv
        have hz := hb.size
        have hzw := HR.out.1.bel.size
        clear hb hv
        have HUB : Hid (Below w1.heap.size w1 (w1.alloc (.cells #[.int .i64 u, .bool b, .int .i64 i, .float .f64 f, .string tx, .slice ab nb cb, .int .u64 rf, .slice al nl cl, .slice af nf cf, .string c, .int .i64 vr] 29))) := (Below.refl _ _).alloc (Nat.le_refl _) _
        have HQU : Hid (QR 29 11 w (w1.alloc (.cells #[.int .i64 u, .bool b, .int .i64 i, .float .f64 f, .string tx, .slice ab nb cb, .int .u64 rf, .slice al nl cl, .slice af nf cf, .string c, .int .i64 vr] 29)) (.slice lv j lc) j (ys.flatMap (·.toList))) := (HR.out.1.call HB.out).call HUB.out
        have hnr : ∀ o, ((w1.alloc (.cells #[.int .i64 u, .bool b, .int .i64 i, .float .f64 f, .string tx, .slice ab nb cb, .int .u64 rf, .slice al nl cl, .slice af nf cf, .string c, .int .i64 vr] 29)).alloc o).heap[w1.heap.size + 1]? = some o := fun o => by
          have := heap_alloc_new (w1.alloc (.cells #[.int .i64 u, .bool b, .int .i64 i, .float .f64 f, .string tx, .slice ab nb cb, .int .u64 rf, .slice al nl cl, .slice af nf cf, .string c, .int .i64 vr] 29)) o
          simpa using this
        have HNR : Hid _ := hnr
        clear hnr
        go_wp2_with (at_builtin; refine wpList_app _ rfl _ _ 26 rfl w.heap.size 29 i0 _ 11 152 Try.undT hi hz0 hz1 hz2 rfl (by decide) (.slice lv j lc) j (ys.flatMap (·.toList)) rfl (HQU.out.own.alloc _) ⟨w1.heap.size + 1, 0, none⟩ 1 1 (tcells u b i f tx (.slice ab nb cb) rf (.slice al nl cl) (.slice af nf cf) c vr).toList rfl rfl (block_cells (HNR.out _)) (tcells_one u b i f tx ab nb cb rf al nl cl af nf cf c vr) (by decide) (by unfold maxLen; omega) (by omega) (by simp; omega) ?_; intro g' cap' w3 hown' hgrow hor; have HAP := HQU.out.app hown' hgrow (by simpa [Value.ownBlock] using hor); have HAP : Hid _ := HAP; clear hown' hgrow hor)
        go_roundw
        case rel =>
          refine ⟨j + 1, at' + n, fu - 1, ys ++ [(tcells u b i f tx (.slice ab nb cb) rf (.slice al nl cl) (.slice af nf cf) c vr)], some ⟨g', 0, none⟩, cap', rfl, by go_num, by omega, by omega, show _ ∧ _ from ⟨?_, (HR.out.2.next HBY.out hlt HRR.out ?_).1⟩⟩
          · have := HAP.out.1
            rw [List.flatMap_append]; simpa using this
          · intro L l hp
            exact rall_step HR.out.1 HB.out HUB.out HAP.out.2.1 HAP.out.2.2 hp HV.out rfl
        case measure => simp [intOf]; omega
      | bad q er =>
        have her := rdV_er 64 hr
        have HRR : Hid (Sp.rdV (xs.drop at') 64 0 0 = .bad q er ∧ er ≠ 0) := ⟨hr, her⟩
        have he : (er != 0) = true := by simp [her]
        clear hr her
        go_wp2_with fail
        refine (HDB.out wr at' q er HR.out.1.bel HRR.out.1).mono ?_
        rintro e w1 ⟨rfl, hb⟩
        have HB : Hid (Below w.heap.size w w1) := below_to HR.out.1.bel hb
        clear hb
        have HB2 : Hid (Below w.heap.size w (w1.alloc (.cells #[.int .i64 0, .bool false, .int .i64 0, .float .f64 0, .string ⟨#[]⟩, .slice none 0 0, .int .u64 0, .slice none 0 0, .slice none 0 0, .string ⟨#[]⟩, .int .i64 0] 29))) := HB.out.alloc HB.out.size _
        go_wp2_with fail
        exact bodyPost_ret (v := .tuple #[.slice none 0 0, .int .i64 (wrap64 ((at' : Int) + (q : Int))), .int .i64 er]) (by simp [results, Try.results30, go_sem] <;> rfl) rfl (.inr ⟨at' + q, er, HR.out.2.bad hlt HRR.out.1, HRR.out.2, rfl, HB2.out⟩)
    · have h1 : xs.length ≤ at' := by omega
      go_wp2_with fail
      refine bodyPost_ret (v := .tuple #[.slice lv j lc, .int .i64 (xs.length : Int), .int .i64 0]) (by simp [results, Try.results30, go_sem] <;> rfl) rfl (.inl ?_)
      obtain ⟨L, hL, hp⟩ := HR.out.2.fin h1
      obtain ⟨hlen, hin⟩ := rall_done HR.out.1 hp
      exact ⟨L, at', lv, lc, hL, by omega, by rw [hlen], HR.out.1.bel, hin⟩
end Go.Proofs.Ytmmiiapfefmcjaa

/- The Go function tenonlaw03.WireAlls returns true, where the bytes are at most 1048576. -/
namespace Go.Proofs.Ytmmiiapfefmcjaa
open Go.RowKit

set_option maxRecDepth 100000 in
set_option maxHeartbeats 1000000 in
theorem refAll_nil (a : Option Addr) (cap : Nat) (w : World) :
    Calls Try.prog 30 #[.slice a 0 cap] w (AllE [] w fun L w' al => L.In w' (Fr w w') al 0) := by
  go_enter Try.func30, Try.ntmps30
  go_wp2_with fail
  go_loopw [5, 6] (fun u x wr => u = .slice (some ⟨w.heap.size, 0, none⟩) 0 0 ∧ x = .int .i64 0 ∧ Hid (Below w.heap.size w wr)) (fun _ _ _ => 0)
  case atStart => exact ⟨rfl, rfl, (Below.refl _ _).alloc (Nat.le_refl _) _⟩
  case round =>
    obtain ⟨rfl, rfl, HB⟩ := hrel
    go_wp2_with fail
    exact bodyPost_ret (v := .tuple #[.slice (some ⟨w.heap.size, 0, none⟩) 0 0, .int .i64 0, .int .i64 0]) (by simp [results, Try.results30, go_sem] <;> rfl) rfl (.inl ⟨.nil, 0, some ⟨w.heap.size, 0, none⟩, 0, rfl, by simp [TmL.len], rfl, HB.out, trivial⟩)
theorem refAll_any (xs : List Int) (hby : By xs) (a : Option Addr) (cap : Nat) (w : World) (hrd : RdB w (Lo w.heap.size) a xs) (hcp : xs.length ≤ cap) (hln : xs.length ≤ 1048576) :
    Calls Try.prog 30 #[.slice a xs.length cap] w (AllE xs w fun L w' al => L.In w' (Fr w w') al 0) := by
  cases xs with
  | nil => exact refAll_nil a cap w
  | cons x l =>
    obtain ⟨g, o, rfl, _, _⟩ := hrd 0 x rfl
    exact refAll_some (x :: l) hby g o cap w hrd hcp hln

def tN : Tm := lfT 1 false 0 0 ByteArray.empty ByteArray.empty 0
theorem all_two (W : World) (base g cap : Nat) (ho : Outs W base (some ⟨g, 0, none⟩) cap [1, 1]) :
    Calls Try.prog 29 #[.slice (some ⟨g, 0, none⟩) 2 cap] W fun e w' => ∃ al cl, e = .returned (.tuple #[.slice al 2 cl, .int .i64 2, .int .i64 0]) ∧ Below W.heap.size W w' := by
  obtain ⟨hrd, hcp⟩ := outs_rd ho
  have hr : Sp.rdA [1, 1] (([1, 1] : List Int).length + 1) 0 = .ok (.cons tN (.cons tN .nil)) 2 := by rfl
  refine (All_any [1, 1] (fun x hx => by simp at hx; omega) g 0 cap W hrd hcp (by decide)).mono ?_
  rintro e w' (⟨L, a, al, cl, h1, _, rfl, hb, _⟩ | ⟨q, er, h1, _⟩)
  · rw [hr] at h1
    injection h1 with e1 e2
    subst e1
    exact ⟨al, cl, rfl, hb⟩
  · rw [hr] at h1; cases h1

/-- each of the terms can be -/
def TmL.okA : TmL → Prop
  | .nil => True
  | .cons t l => t.all.e = 0 ∧ l.okA
theorem rdA_ok {xs : List Int} (hby : By xs) : ∀ (f at' : Nat) (L : TmL) (a : Nat), Sp.rdA xs f at' = .ok L a → L.okA
  | 0, _, L, a, h => by rw [Sp.rdA] at h; injection h with e _; subst e; exact trivial
  | f + 1, at', L, a, h => by
    rw [Sp.rdA] at h
    split at h
    · injection h with e _; subst e; exact trivial
    · split at h
      · cases h
      · rename_i hr
        split at h
        · cases h
        · rename_i heq
          injection h with e _; subst e
          exact ⟨(rd_len (hby.drop at') hr).2.2, rdA_ok hby f _ _ _ heq⟩

set_option maxRecDepth 100000 in
set_option maxHeartbeats 4000000 in
theorem WireAlls_any (l : ByteArray) (ab : Option Addr) (cb : Nat) (w : World) (hl : l.size ≤ 1048576) (hab : BytesAt w (Lo w.heap.size) ab l) (hcb : l.size ≤ cb) :
    Calls Try.prog 7 #[.slice ab l.size cb] w fun e w' => e = .returned (.bool true) ∧ Below w.heap.size w w' := by
  have HAB : Hid (∀ W, Below w.heap.size w W → BytesAt W (Lo W.heap.size) ab l) := fun W hW j hj => by
    obtain ⟨g, o, e, hg, hc⟩ := hab j hj
    exact ⟨g, o, e, Nat.lt_of_lt_of_le hg hW.size, by rw [hW.cell (p := ⟨g, o + j, none⟩) hg]; exact hc⟩
  have HLe : Hid (∀ W, Below w.heap.size w W → Calls Try.prog 23 #[.slice ab l.size cb] W fun e w' => ∃ g cap, e = .returned (.tuple #[.slice (some ⟨g, 0, none⟩) l.size cap, .slice (some ⟨g, 0, none⟩) (l.size + 32) cap]) ∧ Outs w' W.heap.size (some ⟨g, 0, none⟩) cap (Sp.bts l ++ Sp.marks 32) ∧ Below W.heap.size W w') := fun W hW => lent_any l ab cb W (by omega) (HAB.out W hW)
  have HKe : Hid (∀ (W : World) (base g cap : Nat), Below w.heap.size w W → Outs W base (some ⟨g, 0, none⟩) cap (Sp.bts l ++ Sp.marks 32) → Calls Try.prog 27 #[.slice (some ⟨g, 0, none⟩) (l.size + 32) cap, .slice ab l.size cb] W fun e w' => e = .returned (.bool true) ∧ Below W.heap.size W w') := fun W base g cap hW ho => kept_any l ab cb g cap W (by omega) (HAB.out W hW) (outs_rd ho).1
  have HAl : Hid (∀ (W : World) (base g cap : Nat), Outs W base (some ⟨g, 0, none⟩) cap (Sp.bts l) → Calls Try.prog 29 #[.slice (some ⟨g, 0, none⟩) l.size cap] W (AllE (Sp.bts l) W fun L w' al => L.V w' (Fr W w') al 0)) := fun W base g cap ho => by
    obtain ⟨hrd, hcp⟩ := outs_rd ho
    have := All_any (Sp.bts l) (bts_by l) g 0 cap W hrd hcp (by rw [Sp.bts_len]; exact hl)
    rw [Sp.bts_len] at this
    exact this
  have HRA : Hid (∀ (W : World), Below w.heap.size w W → Calls Try.prog 30 #[.slice ab l.size cb] W (AllE (Sp.bts l) W fun L w' al => L.In w' (Fr W w') al 0)) := fun W hW => by
    have := refAll_any (Sp.bts l) (bts_by l) ab cb W (bytes_rdb (HAB.out W hW)) (by rw [Sp.bts_len]; exact hcb) (by rw [Sp.bts_len]; exact hl)
    rw [Sp.bts_len] at this
    exact this
  unfold AllE at HAl HRA
  rw [Sp.bts_len] at HAl HRA
  have HO2 : Hid (∀ W : World, Outs (W.alloc (.cells #[.int .u8 1, .int .u8 1] 5)) W.heap.size (some ⟨W.heap.size, 0, none⟩) 2 [1, 1]) := fun W =>
    ⟨⟨rfl, .inr ⟨W.heap.size, 2, _, rfl, Nat.le_refl _, heap_alloc_new W _, Nat.le_refl _, by simp [maxLen], rfl, rfl⟩⟩, by simp⟩
  clear hab hcb
  go_enter Try.func7, Try.ntmps7
  go_wp2_with fail
  refine (HLe.out _ (Below.refl _ _)).mono ?_
  rintro e w1 ⟨g, cap, rfl, ho, hb⟩
  have HO : Hid (∀ W, Below w1.heap.size w1 W → Outs W w.heap.size (some ⟨g, 0, none⟩) cap (Sp.bts l ++ Sp.marks 32)) := fun W hW => outs_call ho hW
  have HB1 : Hid (Below w.heap.size w w1) := hb
  clear ho hb
  go_wp2_with fail
  refine (HAl.out _ _ g cap (outs_pre (HO.out _ (Below.refl _ _)))).mono ?_
  rintro e w2 (⟨L, a2, al, cl, hr, hlen, rfl, hb, hv⟩ | ⟨q, er, hr, her, rfl, hb⟩)
  · have HRR : Hid (Sp.rdA (Sp.bts l) (l.size + 1) 0 = .ok L a2) := hr
    have HB2 : Hid (Below w1.heap.size w1 w2) := hb
    have HV : Hid (L.V w2 (Fr w1 w2) al 0) := hv
    clear hr hb hv
    go_wp2_with fail
    refine (HRA.out _ (below_to HB1.out HB2.out)).mono ?_
    rintro e w3 (⟨L', a3, am, cm, hr, _, rfl, hb, hin⟩ | ⟨q, er, hr, _⟩)
    · rw [HRR.out] at hr
      injection hr with e1 e2
      subst e1 e2
      have HB3 : Hid (Below w2.heap.size w2 w3) := hb
      have HIN : Hid (L.In w3 (Fr w2 w3) am 0) := hin
      clear hb hin
      have HB13 : Hid (Below w1.heap.size w1 w3) := below_to HB2.out HB3.out
      go_wp2_with fail
      refine (HKe.out _ _ g cap (below_to HB1.out HB13.out) (HO.out _ HB13.out)).mono ?_
      rintro e w4 ⟨rfl, hb⟩
      have HB34 : Hid (Below w3.heap.size w3 w4) := hb
      clear hb
      have HOK : Hid (L.okA) := rdA_ok (bts_by l) _ _ _ _ HRR.out
      have H3 : Hid (L.V w3 (Lo w3.heap.size) al 0 ∧ L.In w3 (Lo w3.heap.size) am 0 ∧ L.okA) := by
        have hz2 := HB2.out.size
        have hz3 := HB3.out.size
        exact ⟨L.V_same (B := Fr w1 w2) (fun k hk => HB3.out.block k hk.2) (fun k hk => by have := hk.2; show k < _; omega) _ _ HV.out, L.In_same (B := Fr w2 w3) (Same.refl _ _) (fun k hk => hk.2) _ _ HIN.out, HOK.out⟩
      clear HV HIN HOK
      go_wp2_with fail
      go_loopw [11] (fun x wr => ∃ (k : Nat) (r : TmL), x = .int .i64 k ∧ r.len + k = L.len ∧ Hid (r.V w3 (Lo w3.heap.size) al k ∧ r.In w3 (Lo w3.heap.size) am k ∧ r.okA) ∧ Hid (Below w3.heap.size w3 wr)) (fun x _ => L.len - (intOf x).toNat)
      case atStart => exact ⟨0, L, rfl, rfl, H3.out, HB34.out⟩
      case round =>
        obtain ⟨k, r, rfl, hk, HI, HW⟩ := hrel
        clear H3
        have HBW : Hid (Below w.heap.size w wr) := below_to (below_to HB1.out HB13.out) HW.out
        cases r with
        | nil =>
          have h1 : L.len ≤ k := by simp [TmL.len] at hk; omega
          clear hk
          go_wp2_with fail
          refine (all_two _ _ wr.heap.size 2 (HO2.out wr)).mono ?_
          rintro e w8 ⟨a8, c8, rfl, hb⟩
          have HB8 : Hid (Below wr.heap.size wr w8) := ((Below.refl _ _).alloc (Nat.le_refl _) _).trans (hb.mono (by simp))
          clear hb
          go_wp2_with fail
          go_ret
          exact ⟨rfl, below_to HBW.out HB8.out⟩
        | cons t r =>
          obtain ⟨hv, hin, hok⟩ := HI.out
          simp only [TmL.V] at hv
          simp only [TmL.In] at hin
          obtain ⟨g1, o1, v, rfl, hg1, c1, ht, hv'⟩ := hv
          obtain ⟨g2, o2, cs2, rfl, hg2, c2, hu, hin'⟩ := hin
          have hk1 : k < L.len := by simp only [TmL.len] at hk; omega
          have hi0 : (0 : Int) ≤ (k : Int) := Int.natCast_nonneg _
          have hi1 : (k : Int) < (L.len : Int) := by omega
          have HL : Hid (r.len + (k + 1) = L.len) := by show _ = _; simp only [TmL.len] at hk; omega
          have hs : Same (Lo w3.heap.size) w3 wr := Same.of_below HW.out (Nat.le_refl _)
          have HIs : Hid (∀ W, Below wr.heap.size wr W → Calls Try.prog 14 #[v, .agg cs2] W fun e w' => e = .returned (.bool true) ∧ Below W.heap.size W w') := fun W hW => by
            have hs2 : Same (Lo w3.heap.size) w3 W := Same.of_below (below_to HW.out hW) (Nat.le_refl _)
            exact Is_any t v cs2 W (Lo w3.heap.size) (t.V_same hs2 (fun _ h => h) v ht) (t.In_same hs2 (fun _ h => h) cs2 hu) (Sub.lo (below_to HW.out hW).size) hok.1
          have f0 : wr.cell? ⟨g1, o1 + k, none⟩ = some v := by rw [hs.cell (p := ⟨g1, o1 + k, none⟩) hg1]; exact c1
          obtain ⟨k2, b2, i2, f2, tx2, vb2, rf2, vl2, vf2, cl2, vr2, rfl⟩ := Tm.In_tc hu
          obtain ⟨d0, d1, d2, d3, d4, d5, d6, d7, d8, d9, d10⟩ := eleven (w := wr) (g := g2) (o := o2 + k * 11) (fun x hx => by rw [hs.cell (p := ⟨g2, o2 + k * 11 + x, none⟩) hg2]; exact c2 x hx)
          have HN : Hid (r.V w3 (Lo w3.heap.size) (some ⟨g1, o1, none⟩) (k + 1) ∧ r.In w3 (Lo w3.heap.size) (some ⟨g2, o2, none⟩) (k + 1) ∧ r.okA) := ⟨hv', hin', hok.2⟩
          unfold tcells at HIs
          clear hk HI hv' hin' hok ht hu hs c1 c2
          go_wp2_with fail
          go_region_with ((go_at_call 14; refine (HIs.out _ ?_).mono ?_; exact (Below.refl _ _).drew; rintro e w5 ⟨rfl, hb⟩; have HB5 : Hid (Below w3.heap.size w3 w5) := below_to HW.out ((Below.refl _ _).drew.trans hb); clear hb))
          all_goals
            go_wp2_with fail
            go_roundw
            case rel => exact ⟨k + 1, r, by go_num, HL.out, HN.out, HB5.out⟩
            case measure => simp [intOf]; omega
    · rw [HRR.out] at hr; cases hr
  · have HRR : Hid (Sp.rdA (Sp.bts l) (l.size + 1) 0 = .bad q er) := hr
    have HB2 : Hid (Below w1.heap.size w1 w2) := hb
    have he : (er == 0) = false := by simp [her]
    clear hr hb her
    go_wp2_with fail
    refine (HRA.out _ (below_to HB1.out HB2.out)).mono ?_
    rintro e w3 (⟨L', a3, am, cm, hr, _⟩ | ⟨q', er', hr, _, rfl, hb⟩)
    · rw [HRR.out] at hr; cases hr
    · rw [HRR.out] at hr
      injection hr with e1 e2
      subst e1 e2
      have HB13 : Hid (Below w1.heap.size w1 w3) := below_to HB2.out hb
      clear hb
      go_wp2_with fail
      refine (HKe.out _ _ g cap (below_to HB1.out HB13.out) (HO.out _ HB13.out)).mono ?_
      rintro e w4 ⟨rfl, hb⟩
      have HB14 : Hid (Below w1.heap.size w1 w4) := below_to HB13.out hb
      clear hb
      go_wp2_with fail
      go_loopw [11] (fun x wr => x = .int .i64 0 ∧ Hid (Below w1.heap.size w1 wr)) (fun _ _ => 0)
      case atStart => exact ⟨rfl, HB14.out⟩
      case round =>
        obtain ⟨rfl, HW⟩ := hrel
        have HBW : Hid (Below w.heap.size w wr) := below_to HB1.out HW.out
        go_wp2_with fail
        refine (all_two _ _ wr.heap.size 2 (HO2.out wr)).mono ?_
        rintro e w8 ⟨a8, c8, rfl, hb⟩
        have HB8 : Hid (Below wr.heap.size wr w8) := ((Below.refl _ _).alloc (Nat.le_refl _) _).trans (hb.mono (by simp))
        clear hb
        go_wp2_with fail
        go_ret
        exact ⟨rfl, below_to HBW.out HB8.out⟩
end Go.Proofs.Ytmmiiapfefmcjaa

/- A term that can be read as data lies in memory as a tree of terms. -/
namespace Go.Proofs.Ytmmiiapfefmcjaa
open Go.ChangeShapes Go.WideShapes Go.ChangeAt Go.RowKit

theorem Try.cU8 : Try.prog.cellsOf 5 = 1 := by kernel_rfl
theorem Try.bT : Try.prog.bytesOf 29 = 152 := by kernel_rfl
section
variable {H : Type} {enc : TypeId × Value → H} {W : World}

theorem add_none (b o n : Nat) : (⟨b, o, none⟩ : Addr).add n = ⟨b, o + n, none⟩ := by
  unfold Addr.add; split
  · rename_i h; rw [h]; rfl
  · rfl
/-- what is read of one element of a slice -/
theorem elem_at {P : Program} {e : TypeId} {a : Addr} {i n : Nat} {r : List (DataW H × List MemPlace)} (hi : i < r.length) (h : (W.cells? 0 (a.add (i * P.cellsOf e)) (P.cellsOf e)).bind (DataW.trod enc P W 0 (fun _ => true) true n e) = r[i]?) :
    ∃ cs, W.cells? 0 (a.add (i * P.cellsOf e)) (P.cellsOf e) = some cs ∧ DataW.trod enc P W 0 (fun _ => true) true n e cs = some r[i] := by
  rw [List.getElem?_eq_getElem hi] at h
  exact Option.bind_eq_some_iff.1 h

/-- the reading of a term at fuel n gives its tree -/
def OpenC (enc : TypeId × Value → H) (W : World) (n : Nat) : Prop := ∀ (cs : List Value) (x : DataW H × List MemPlace), DataW.trod enc Try.prog W 0 (fun _ => true) true n 29 cs = some x → (∀ m ∈ x.1.weights Try.prog 29, m ≤ reachBytes) → ∃ t : Tm, t.In W (Lo W.heap.size) cs.toArray

theorem byte_of {len : Nat} (f : Nat → Int) (hf : ∀ i, i < len → 0 ≤ f i ∧ f i ≤ 255) : ∃ l : ByteArray, l.size = len ∧ ∀ i, i < len → Sp.byte l i = f i := by
  refine ⟨⟨((List.range len).map fun i => UInt8.ofNat (f i).toNat).toArray⟩, by simp [ByteArray.size], fun i hi => ?_⟩
  have h := hf i hi
  unfold Sp.byte
  rw [Array.getD, dif_pos (by simpa using hi)]
  simp
  omega

end
end Go.Proofs.Ytmmiiapfefmcjaa

/- What a bound on all that was handed in gives of a slice of bytes. -/
namespace Go.Proofs.Ytmmiiapfefmcjaa
open Go.ChangeShapes Go.WideShapes Go.ChangeAt Go.RowKit
variable {H : Type} {enc : TypeId × Value → H} {W : World}

theorem bulk_one (d : DataW H) : 1 ≤ Rows.uptoBulk d := by
  cases d with
  | lit l => cases l <;> simp [Rows.uptoBulk]
  | nil => simp [Rows.uptoBulk]
  | ptr d => simp [Rows.uptoBulk]
  | slice elems spare => simp [Rows.uptoBulk]
  | agg parts => simp [Rows.uptoBulk]
  | iface t d => simp [Rows.uptoBulk]
  | map entries => simp [Rows.uptoBulk]
  | held h => simp [Rows.uptoBulk]
theorem bulk_len (l : List (DataW H)) : l.length ≤ Rows.uptoBulkAll l := by
  induction l with
  | nil => simp [Rows.uptoBulkAll]
  | cons x r ih => have := bulk_one x; simp only [Rows.uptoBulkAll, List.length_cons]; omega

set_option maxRecDepth 100000 in
theorem open_bytesU {n : Nat} {v : Value} {x : DataW H × List MemPlace} (h : DataW.trod enc Try.prog W 0 (fun _ => true) true n 23 [v] = some x) (hw : Rows.uptoBulk x.1 ≤ 1048576) :
    ∃ (l : ByteArray) (a : Option Addr) (cap : Nat), v = .slice a l.size cap ∧ l.size ≤ 1048576 ∧ BytesAt W (Lo W.heap.size) a l ∧ l.size ≤ cap := by
  rcases DataW.trod_slice Try.underlying23 h with ⟨hcs, rfl⟩ | ⟨a, len, cap, elems, rest, n', rfl, hcs, rfl, _, hlc, hcm, hlen, hel, _, _⟩
  · simp at hcs; subst hcs; exact ⟨ByteArray.empty, none, 0, rfl, by simp, fun j hj => by simp at hj, by simp⟩
  · simp at hcs; subst hcs
    have hlen' : len ≤ 1048576 := by
      simp only [Rows.uptoBulk] at hw
      have h1 := bulk_len (elems.map (·.1))
      rw [List.length_map, hlen] at h1
      omega
    have hread : ∀ i, i < len → ∃ x : Int, W.cell? (a.add i) = some (.int .u8 x) ∧ 0 ≤ x ∧ x ≤ 255 := by
      intro i hi
      obtain ⟨cs, hc, ht⟩ := elem_at (by omega) (hel i hi)
      obtain ⟨z, rfl, _, hz⟩ := DataW.trod_int Try.underlying5 ht
      rw [Try.cU8, Nat.mul_one] at hc
      obtain ⟨_, _, hcell⟩ := World.cells?_some hc
      have := hcell 0 (by omega)
      have hb := bounds_u8 hz
      exact ⟨z, by simpa [Addr.add] using this, hb.1, hb.2⟩
    obtain ⟨l, hl, hb⟩ := byte_of (len := len) (fun i => match W.cell? (a.add i) with | some (.int .u8 x) => x | _ => 0) (fun i hi => by
      obtain ⟨x, hx, h1, h2⟩ := hread i hi
      rw [hx]; exact ⟨h1, h2⟩)
    subst hl
    refine ⟨l, some a, cap, rfl, hlen', ?_, hlc⟩
    intro j hj
    obtain ⟨z, hz, _, _⟩ := hread j hj
    have hbj := hb j hj
    rw [hz] at hbj
    obtain ⟨b, o, spot⟩ := a
    have hsp : spot = none := by
      obtain ⟨z0, hz0, _, _⟩ := hread 0 (by omega)
      simpa [Addr.add] using World.cell?_spot hz0
    subst hsp
    rw [add_none] at hz
    exact ⟨b, o, rfl, World.block_lt_of_cell? _ _ hz, by rw [hbj]; exact hz⟩
end Go.Proofs.Ytmmiiapfefmcjaa

/- All of any bytes tells the document's values, place and error, and the bytes stay: the Go function tenonlaw03.WireAlls returns true at every argument that can be read and holds at most 1048576 values, and leaves it as it was. -/
namespace Go.Proofs.Ytmmiiapfefmcjaa
open Go.ChangeShapes Go.WideShapes Go.ChangeAt Go.RowKit

theorem Try.own : ownKnob Try.prog.godebug = none := by kernel_rfl
theorem Try.laidOut : laidOutB Try.prog = true := by kernel_rfl

set_option maxRecDepth 100000 in
theorem WireAlls_lifted (os : Os) (started : os.Started) (H : Type) (enc : TypeId × Value → H) (F : Stop.Interp) :
    ReturnsInHanded {} Try.checked os 7 .any ((Rows.OpenSpec.upto Rows.wireAllsSpec).pre6 enc Try.prog Try.f7 Rows.wireAllsUptoRow.domain false) (((Rows.OpenSpec.upto Rows.wireAllsSpec).at F).post enc Try.prog Try.f7 false true false false) := by
  refine returnsInHanded_of_cond (C := Try.checked) (s := Rows.OpenSpec.upto Rows.wireAllsSpec) (k := Rows.uptoSmall) rfl Try.own started (by kernel_rfl) Try.func7
    (OpenSpec.witness (enc := enc) (C := Try.checked) (s := Rows.OpenSpec.upto Rows.wireAllsSpec) (k := Rows.uptoSmall) rfl false ⟨#[], #[.slice none 0 0], []⟩ 8 (by kernel_rfl) (by kernel_rfl) (by kernel_rfl)
      (x := ([.nil], [], [])) (by kernel_rfl) rfl (by kernel_rfl)) ?_
  intro W base args ds gs before hval0 hW _ hk _
  have hval : ∀ (j : Nat) t v, Try.f7.params[j]? = some t → args[j]? = some v → Value.okWide Try.prog W .any base t v := hval0
  have hW' := hW
  obtain ⟨p, q, hA0, hV, rfl, hfz, hnd⟩ := hW
  have hA : DataW.TrodAll enc Try.prog W 0 (fun _ => true) true Try.f7.params.toList args.toList ds p := hA0
  rw [Try.params7] at hA hval
  obtain ⟨v0, d0, rfl, rfl, h0⟩ := trodAll_one hA
  obtain ⟨rfl, rfl⟩ := trodVars_none hV
  have k0 := h0
  have lt0 : ∀ x ∈ p, x.block < W.heap.size := by obtain ⟨m, hm⟩ := k0; exact DataW.trod_lt m _ _ _ hm
  have hsz : Rows.uptoBulk d0 ≤ 1048576 := by
    have h : Rows.uptoBulkAll ([d0] ++ []) ≤ 1048576 := of_decide_eq_true hk
    simp only [List.append_nil, Rows.uptoBulkAll] at h
    omega
  obtain ⟨l, ab, cb, rfl, hl, hab, hcb⟩ : ∃ (l : ByteArray) (a : Option Addr) (cap : Nat), v0 = .slice a l.size cap ∧ l.size ≤ 1048576 ∧ BytesAt W (Lo W.heap.size) a l ∧ l.size ≤ cap := by
    obtain ⟨fuel, hf⟩ := h0
    obtain ⟨a1, len1, cap1, rfl⟩ := okWide_slice Try.underlying23 (hval 0 23 v0 rfl rfl)
    exact open_bytesU (by simpa [Value.cells] using hf) hsz
  clear hA0 hval0
  refine (WireAlls_any l ab cb W hl hab hcb).mono fun e W' ⟨he, bel⟩ => ?_
  subst he
  exact ⟨_, rfl, _, _, _, [], _, [], hW', trodAll_mk1 (shut_bool Try.underlying4 _), trodAll_mk1 (Below.trod Try.laidOut (by kernel_rfl) (of_decide_eq_true (by kernel_rfl)) k0 bel lt0), rfl, bel.frame _, fun h => by cases h⟩

theorem WireAlls_holds : Rows.WireAllsUptoSaid :=
  OpenClaim.holds_of_cond 7 Try.f7 rfl rfl rfl rfl rfl rfl rfl ⟨rfl, rfl, rfl, rfl, rfl⟩ rfl rfl rfl rfl rfl (by kernel_rfl) Try.func7 (by kernel_rfl)
    (of_decide_eq_true (by kernel_rfl)) (by unfold Func.isWrapper; first | (rw [if_pos (by decide +kernel)]; kernel_rfl) | (rw [if_neg (by decide +kernel)]; exact ⟨rfl, rfl⟩))
    (fun os started H enc _ F => WireAlls_lifted os started H enc F)
end Go.Proofs.Ytmmiiapfefmcjaa

