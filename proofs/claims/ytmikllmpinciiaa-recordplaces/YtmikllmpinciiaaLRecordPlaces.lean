/- For every number, row, place and many the law RecordPlaces returns true: no two parts of a record stand at one place, and there are some, and no more than there is room for. Conditions: none. -/
import Derived.Test.YtmikllmpinciiaaRecTwin
import Derived.Test.YtmikllmpinciiaaRecInts
import Derived.Test.YtmikllmpinciiaaRkSays0
import Derived.Test.YtmikllmpinciiaaRows
import Derived.ProofKit
import Derived.OpenShut
import Derived.ShutString
namespace Go.Proofs.Ytmikllmpinciiaa
open Go.RowKit

/-- a row of parts, cell by cell -/
theorem PartsR.cells {w : World} {b off n : Nat} {f : Nat → Prt} (h : PartsR w (some ⟨b, off, none⟩) n f) : ∀ j u, (prtVals n f)[j]? = some u → w.cell? ((⟨b, off, none⟩ : Addr).add j) = some u := by
  intro j u hu
  have hj : j < n * 3 := by
    have := (List.getElem?_eq_some_iff.1 hu).1
    rw [prtVals_length] at this; exact this
  have hq : j / 3 < n := by omega
  have hc : j % 3 < 3 := Nat.mod_lt _ (by decide)
  rw [show j = j / 3 * 3 + j % 3 by omega, prtVals_at f hq _ hc] at hu
  obtain ⟨b', o', e, hp⟩ := h _ hq
  cases e
  have hadd : (⟨b, off, none⟩ : Addr).add j = ⟨b, off + j, none⟩ := by unfold Addr.add; split <;> simp_all
  rw [hadd]
  rcases (by omega : j % 3 = 0 ∨ j % 3 = 1 ∨ j % 3 = 2) with e | e | e
  · rw [e] at hu
    rw [show off + j = off + j / 3 * 3 by omega, hp.c0]; exact hu
  · rw [e] at hu
    rw [show off + j = off + j / 3 * 3 + 1 by omega, hp.c1]; exact hu
  · rw [e] at hu
    rw [show off + j = off + j / 3 * 3 + 2 by omega, hp.c2]; exact hu
theorem owns_some13 {w : World} {b t s n : Nat} {v : Value} {l : List Value} (h : w.ownsRow b t s v n l) (hn : 1 ≤ n) : ∃ g cap, v = .slice (some ⟨g, 0, none⟩) n cap ∧ b ≤ g ∧ n ≤ cap := by
  rcases h.2 with ⟨rfl, h0⟩ | ⟨g, cap, cur, rfl, hg, _, hc, _⟩
  · omega
  · exact ⟨g, cap, rfl, hg, hc⟩
theorem prt_oneCell (n : Nat) (f : Nat → Prt) : ∀ u ∈ prtVals n f, u.oneCell' = true := by
  induction n with
  | zero => intro u h; cases h
  | succ n ih =>
    intro u h
    rw [prtVals, List.mem_append] at h
    rcases h with h | h
    · exact ih u h
    · simp only [prt3, List.mem_cons, List.not_mem_nil, or_false] at h
      rcases h with rfl | rfl | rfl <;> rfl
/-- the text of every part -/
def xT : Nat → ByteArray := fun _ => ⟨#[120]⟩

set_option maxRecDepth 100000 in
set_option maxHeartbeats 8000000 in
theorem places12_some (X : RecSays) (seq row fr many : Nat) (tw : Bool) (w : World) (h0 : seq < 18446744073709551616) (h1 : row < 256) (h2 : fr < 256) (h3 : many < 256) (hN : many % 50 ≠ 0) :
    Calls Try.prog 3 #[.int .u64 (seq : Int), .int .u8 (row : Int), .int .u8 (fr : Int), .int .u8 (many : Int), .bool tw] w fun e w' => e = .returned (.bool true) ∧ Below w.heap.size w w' := by
  obtain ⟨N, hn⟩ : ∃ N, N = many % 50 := ⟨_, rfl⟩
  rw [← hn] at hN
  have hN50 : N < 50 := by omega
  have hr0 : (many : Int).tmod 50 = (N : Int) := by rw [hn]; exact (Int.ofNat_tmod many 50).symm
  have hcm : IntKind.i64.wrap (many : Int) = (many : Int) := by rw [IntKind.wrap_i64]; omega
  have hcr : IntKind.i64.wrap (row : Int) = (row : Int) := by rw [IntKind.wrap_i64]; omega
  have hsome := fun (W : World) (a : Option Addr) (cap : Nat) (hr : RowS W a N xT) => some12_any seq row fr a N cap xT W h0 h1 h2 hr (fun _ _ => by unfold xT; decide)
  have hM : Rc.mayB (row : Int) (Rc.someN N) (Rc.someP fr xT) = true := Rc.someP_may h1 (by omega)
  have hI : RecIn (row : Int) (Rc.someN N) (Rc.someP fr xT) := Rc.someP_in h1
  have hLi : RecLight (Rc.someN N) (Rc.someP fr xT) := Rc.someP_light fr N xT
  have hMi : Rc.someN N = min N 40 := rfl
  have hk40 := Rc.someN_le N
  have hk1 : 1 ≤ Rc.someN N := by unfold Rc.someN; omega
  obtain ⟨k, hk⟩ : ∃ k, k = Rc.someN N := ⟨_, rfl⟩
  rw [← hk] at hsome hM hI hLi hMi hk40 hk1
  obtain ⟨q, hq⟩ : ∃ q, k = q + 1 := ⟨k - 1, by omega⟩
  have hmin : ∀ (ts : Array TypeId) (ty : TypeId) (W : World), (Builtin.min_ ts ty #[.int .i64 (N : Int), .int .i64 40]).run Try.prog W = .ok (.int .i64 (k : Int)) W := by
    intro ts ty W
    rw [run_min_int2 W ts ty .i64 .i64 (N : Int) 40, show (if (40 : Int) < (N : Int) then (40 : Int) else (N : Int)) = (k : Int) by split <;> omega]
  have hE := fun (W : World) (a : Option Addr) (c : Nat) (hr : PartsR W a k (Rc.someP fr xT)) => X.may seq (row : Int) a k c (Rc.someP fr xT) W h0 hI hLi hr
  rw [hM] at hE
  have hTwI : RecIn (row : Int) k (Rc.twin (Rc.someP fr xT) q) := by
    refine ⟨hI.hrow, hI.hlen, fun j hj => ?_, fun j hj => ?_⟩
    all_goals
      by_cases e : j = q
      · subst e; rw [Rc.twin_last]; first | exact hI.hcol 0 (by omega) | exact hI.hoff 0 (by omega)
      · rw [Rc.twin_other _ e]; first | exact hI.hcol j hj | exact hI.hoff j hj
  have hTwL : RecLight k (Rc.twin (Rc.someP fr xT) q) := by
    refine ⟨hLi.1, fun j hj => ?_⟩
    by_cases e : j = q
    · subst e; rw [Rc.twin_last]; exact hLi.2 j hj
    · rw [Rc.twin_other _ e]; exact hLi.2 j hj
  have hTw := fun (W : World) (a : Option Addr) (c : Nat) (hr : PartsR W a k (Rc.twin (Rc.someP fr xT) q)) => X.may seq (row : Int) a k c _ W h0 hTwI hTwL hr
  have hTm : Rc.mayB (row : Int) k (Rc.twin (Rc.someP fr xT) q) = decide (q = 0) := by rw [hq]; exact Rc.twin_may (hq ▸ hM)
  rw [hTm] at hTw
  have hWI : RecIn 256 k (Rc.someP fr xT) := ⟨by omega, hI.hlen, hI.hcol, hI.hoff⟩
  have hW := fun (W : World) (a : Option Addr) (c : Nat) (hr : PartsR W a k (Rc.someP fr xT)) => X.may seq 256 a k c _ W h0 hWI hLi hr
  rw [Rc.wide_may] at hW
  have HSo : Hid _ := hsome
  have HE : Hid _ := hE
  have HTw : Hid _ := hTw
  have HW : Hid _ := hW
  have HSh : Hid _ := fun W => shown12_any X W
  have HKq : Hid (k = q + 1 ∧ k ≤ 40) := ⟨hq, hk40⟩
  have hn0 : ((N : Int) == 0) = false := by rw [beq_eq_false_iff_ne]; omega
  have HMX : Hid (Try.prog.follows .mixedOrders = true) := by show _ = _; kernel_rfl
  have hpi := info_part12c
  obtain ⟨i0, hi, hz0, hz1, hz2⟩ := info_parts info_str
  obtain ⟨p0, hpp, pz0, pz1, pz2⟩ := info_parts hpi
  have hlit : (w.alloc (.cells #[] 9)).ownsRow w.heap.size 9 1 (.slice (some ⟨w.heap.size, 0, none⟩) 0 0) 0 [] := World.ownsRow_lit (base := w.heap.size) (e := 9) (size := 1) w #[] 0 (Nat.le_refl _) (by decide) rfl
  clear hsome hM hI hLi hMi hE hTwI hTwL hTw hTm hWI hW hq hk hk40 hk1 hpi hn hN
  go_enter Try.func3, Try.ntmps3
  go_wp2
  go_loopg [12, 13] N (fun gg v i wr => ∃ (j : Nat) (u : Value), j ≤ N ∧ gg = N - j ∧ u = v ∧ i = .int .i64 (j : Int) ∧ wr.ownsRow w.heap.size 9 1 u j (textVals j xT) ∧ Below w.heap.size w wr)
  case atStart => exact ⟨0, _, Nat.zero_le _, rfl, rfl, rfl, hlit, (Below.refl _ w).alloc (Nat.le_refl _) _⟩
  case round =>
  obtain ⟨j, u, hj, rfl, rfl, rfl, hown, hb⟩ := hrel
  have HB : Hid (Below w.heap.size w wr) := hb
  have OWN : Hid (wr.ownsRow w.heap.size 9 1 u j (textVals j xT)) := hown
  have hsz := hb.size
  clear hb hown hlit
  by_cases hlt : j < N
  case pos =>
    have hji : (j : Int) < (N : Int) := by omega
    have t1 : True := trivial
    go_wp2_with (first | (at_builtin; go_loud (have _t := t1; refine wpList_append_own _ rfl _ _ 23 rfl w.heap.size 9 i0 (.string ByteArray.empty) 1 16 Try.underlying23 hi hz0 hz1 hz2 rfl (by decide) u j (textVals j xT) rfl (OWN.out.alloc _) ⟨wr.heap.size, 0, none⟩ 1 1 [.string ⟨#[120]⟩] rfl rfl (cell_one_new _ _ _) (by simp [Value.oneCell']) (by unfold maxLen; omega) (by omega) (by simp; omega) ?_; intro v' w4 hown' hgrow _; obtain ⟨g', cap', rfl⟩ := ownsRow_succ hown'; have b4 := below_append OWN.out hsz hgrow; have HB4 : Hid (Below w.heap.size wr w4) := b4; have OWN4 : Hid (w4.ownsRow w.heap.size 9 1 (.slice (some ⟨g', 0, none⟩) (j + 1) cap') (j + 1) (textVals (j + 1) xT)) := (by show World.ownsRow _ _ _ _ _ _ _; rw [← textVals_snoc]; exact hown'); clear b4 hown' hgrow t1)))
    go_roundg (N - (j + 1))
    case measure => omega
    case rel => exact ⟨j + 1, _, by omega, rfl, rfl, by go_num, OWN4.out, HB.out.trans HB4.out⟩
  case neg =>
    have hjn : j = N := by omega
    subst hjn
    obtain ⟨aX, cX, rfl, hrX, _, _⟩ := RowS.of_owns OWN.out
    have HRX : Hid (RowS wr aX j xT) := hrX
    clear hlt hj hrX
    go_wp2_with fail
    refine (HSo.out _ _ _ HRX.out).mono ?_
    rintro e w1 ⟨a1, c1, rfl, hp1, _, _, hb1⟩
    have HB1 : Hid (Below w.heap.size w w1) := below2 HB.out hb1
    have HP1 : Hid (PartsR w1 a1 k (Rc.someP fr xT)) := hp1
    clear hp1 hb1 OWN HRX
    go_upto_region 8 with fail
    obtain ⟨hx14, b14'⟩ := box_new12 w1 26 (.int .u64 (seq : Int)) (.int .i64 (row : Int)) (.slice a1 k c1)
    obtain ⟨w2, hw2⟩ : ∃ w2, w2 = w1.alloc (.cells #[.int .u64 (seq : Int), .int .i64 (row : Int), .slice a1 k c1] 26) := ⟨_, rfl⟩
    obtain ⟨b14, hb14⟩ : ∃ b14, b14 = w1.heap.size := ⟨_, rfl⟩
    rw [← hw2] at hx14 b14' ⊢
    rw [← hb14] at hx14 ⊢
    have HP2 : Hid (PartsR w2 a1 k (Rc.someP fr xT)) := HP1.out.below b14'
    have HB2 : Hid (Below w.heap.size w w2) := below2 HB1.out b14'
    have HX2 : Hid (BoxAt w2 b14 (.int .u64 (seq : Int)) (.int .i64 (row : Int)) (.slice a1 k c1)) := hx14
    obtain ⟨y0, y1, y2, _, _, _⟩ := hx14
    clear hw2 hb14 b14' HP1
    go_wp2_with fail
    refine (HE.out _ _ _ HP2.out).mono ?_
    rintro e w3 ⟨rfl, hb3⟩
    have HB3 : Hid (Below w.heap.size w w3) := below2 HB2.out hb3
    have HP3 : Hid (PartsR w3 a1 k (Rc.someP fr xT)) := HP2.out.below hb3
    have HX3 : Hid (BoxAt w3 b14 (.int .u64 (seq : Int)) (.int .i64 (row : Int)) (.slice a1 k c1)) := HX2.out.below hb3 HX2.out.lt
    clear hb3 y0 y1 y2
    go_wp2_with fail
    refine (HSh.out _).mono ?_
    rintro e w4 ⟨rfl, hb4⟩
    have HB4 : Hid (Below w.heap.size w w4) := below2 HB3.out hb4
    have HP4 : Hid (PartsR w4 a1 k (Rc.someP fr xT)) := HP3.out.below hb4
    have HX4 : Hid (BoxAt w4 b14 (.int .u64 (seq : Int)) (.int .i64 (row : Int)) (.slice a1 k c1)) := HX3.out.below hb4 HX3.out.lt
    clear hb4
    go_upto_region 14 with fail
    obtain ⟨hx16, b16'⟩ := box_new12 w4 26 (.int .u64 (seq : Int)) (.int .i64 (row : Int)) (.slice none 0 0)
    obtain ⟨w5, hw5⟩ : ∃ w5, w5 = w4.alloc (.cells #[.int .u64 (seq : Int), .int .i64 (row : Int), .slice none 0 0] 26) := ⟨_, rfl⟩
    obtain ⟨b16, hb16⟩ : ∃ b16, b16 = w4.heap.size := ⟨_, rfl⟩
    rw [← hw5] at hx16 b16' ⊢
    rw [← hb16] at hx16 ⊢
    have HB5 : Hid (Below w.heap.size w w5) := below2 HB4.out b16'
    have hp5 := HP4.out.below b16'
    obtain ⟨_, _, x14, _, _, _⟩ := HX4.out.below b16' HX4.out.lt
    have HX5 : Hid (BoxAt w5 b16 (.int .u64 (seq : Int)) (.int .i64 (row : Int)) (.slice none 0 0)) := hx16
    obtain ⟨ba, oa, rfl, _⟩ := hp5.head (by have := HKq.out; omega)
    have HP5 : Hid (PartsR w5 (some ⟨ba, oa, none⟩) k (Rc.someP fr xT)) := hp5
    have HLt : Hid (b16 < w5.heap.size ∧ w.heap.size ≤ b16) := ⟨hx16.lt, by rw [hb16]; exact HB4.out.size⟩
    obtain ⟨y0, y1, y2, f0, f1, f2⟩ := hx16
    have hkq : k = q + 1 ∧ k ≤ 40 := HKq.out
    have hk40' : k ≤ 40 := hkq.2
    have hk1' : 1 ≤ k := by omega
    have t1 : True := trivial
    clear hw5 hb16 b16' hp5 hkq HP2 HP3 HP4 HX2 HX3 HX4 y0 y1 f0 f1
    go_upto_region 15 with (first | (at_builtin; go_loud (have _t := t1; refine wpList_append_own _ rfl _ _ 24 rfl w5.heap.size 31 p0 (.agg #[.int .i64 0, .int .i64 0, .string ByteArray.empty]) 3 32 Try.underlying24 hpp pz0 pz1 pz2 rfl (by decide) (.slice none 0 0) 0 [] rfl (World.ownsRow_nil _ _ _ _) ⟨ba, oa, none⟩ k c1 (prtVals k (Rc.someP fr xT)) rfl (prtVals_length _ _) (PartsR.cells HP5.out) (prt_oneCell _ _) (by unfold maxLen; omega) (by omega) (Nat.le_refl _) ?_; intro v' w6 hown' hgrow _; rw [Nat.zero_add, List.nil_append] at hown'; have b6 : Below w5.heap.size w5 w6 := (Below.refl _ w5).grown hgrow (Nat.le_refl _) (fun j ej => by cases ej); obtain ⟨g', cap', rfl, hgb, hgc⟩ := owns_some13 hown' hk1'; have HB6 : Hid (Below w5.heap.size w5 w6) := b6; have OWN6 : Hid (w6.ownsRow w5.heap.size 31 3 (.slice (some ⟨g', 0, none⟩) k cap') k (prtVals k (Rc.someP fr xT))) := hown'; have HGc : Hid (w5.heap.size ≤ g' ∧ k ≤ cap') := ⟨hgb, hgc⟩; have hx6 := HX5.out.below b6 HLt.out.1; have HX6 : Hid (BoxAt w6 b16 (.int .u64 (seq : Int)) (.int .i64 (row : Int)) (.slice none 0 0)) := hx6; obtain ⟨_, _, y2, _, _, f2⟩ := hx6; clear hown' hgrow b6 hgb t1 x14)))
    obtain ⟨w7, hw7⟩ : ∃ w7, w7 = w6.setCell ⟨b16, 2, none⟩ (.slice (some ⟨g', 0, none⟩) k cap') := ⟨_, rfl⟩
    have hx7 := HX6.out.store (.slice (some ⟨g', 0, none⟩) k cap')
    have own7 := own_set OWN6.out (a := ⟨b16, 2, none⟩) HLt.out.1 (.slice (some ⟨g', 0, none⟩) k cap')
    have b7 : Below w.heap.size w (w6.setCell ⟨b16, 2, none⟩ (.slice (some ⟨g', 0, none⟩) k cap')) := (HB5.out.trans (HB6.out.mono HB5.out.size)).setCell (p := ⟨b16, 2, none⟩) HLt.out.2 _
    rw [← hw7] at hx7 own7 b7 ⊢
    obtain ⟨_, _, e7, hp7, _, _⟩ := PartsR.of_owns own7
    cases e7
    have HX7 : Hid (BoxAt w7 b16 (.int .u64 (seq : Int)) (.int .i64 (row : Int)) (.slice (some ⟨g', 0, none⟩) k cap')) := hx7
    have HP7 : Hid (PartsR w7 (some ⟨g', 0, none⟩) k (Rc.someP fr xT)) := hp7
    have OWN7 : Hid (w7.ownsRow w5.heap.size 31 3 (.slice (some ⟨g', 0, none⟩) k cap') k (prtVals k (Rc.someP fr xT))) := own7
    have HB7 : Hid (Below w.heap.size w w7) := b7
    have HG7 : Hid (b16 < g' ∧ w.heap.size ≤ g') := ⟨Nat.lt_of_lt_of_le HLt.out.1 HGc.out.1, Nat.le_trans HB5.out.size HGc.out.1⟩
    clear hw7 own7 hp7 b7 y2 f2
    cases tw with
    | false =>
      obtain ⟨k0, k1, k2, f0, f1, f2⟩ := hx7
      go_upto_region 20 with fail
      have hx8 : BoxAt (w7.setCell ⟨b16, 1, none⟩ (.int .i64 256)) b16 (.int .u64 (seq : Int)) (.int .i64 256) (.slice (some ⟨g', 0, none⟩) k cap') :=
        ⟨(World.cell?_setCell_other _ _ _ _ (fun e => by injection e with _ e2; cases e2)).trans k0, World.cell?_setCell_same _ _ _ k1, (World.cell?_setCell_other _ _ _ _ (fun e => by injection e with _ e2; cases e2)).trans k2, (World.frozen?_setCell _ _ _ _).trans f0, (World.frozen?_setCell _ _ _ _).trans f1, (World.frozen?_setCell _ _ _ _).trans f2⟩
      have hp8 : PartsR (w7.setCell ⟨b16, 1, none⟩ (.int .i64 256)) (some ⟨g', 0, none⟩) k (Rc.someP fr xT) := HP7.out.only (Only.setCell (fun x => x = b16) w7 ⟨b16, 1, none⟩ _ rfl) (fun x hx e => by cases hx; have e' : g' = b16 := e; have := HG7.out; omega)
      have HP8 : Hid (PartsR (w7.setCell ⟨b16, 1, none⟩ (.int .i64 256)) (some ⟨g', 0, none⟩) k (Rc.someP fr xT)) := hp8
      have HB8 : Hid (Below w.heap.size w (w7.setCell ⟨b16, 1, none⟩ (.int .i64 256))) := HB7.out.setCell (p := ⟨b16, 1, none⟩) HLt.out.2 _
      clear k0 k1 k2 f0 f1 f2 hp8
      generalize w7.setCell ⟨b16, 1, none⟩ (.int .i64 256) = w8 at *
      obtain ⟨k0, k1, k2, _, _, _⟩ := hx8
      go_wp2_with fail
      refine (HW.out _ _ _ HP8.out).mono ?_
      rintro e w9 ⟨rfl, hb9⟩
      have HB9 : Hid (Below w.heap.size w w9) := below2 HB8.out hb9
      clear hb9
      go_wp2
      go_ret
      exact ⟨rfl, HB9.out⟩
    | true =>
      obtain ⟨pc, hpc⟩ : ∃ pc : Int, pc = (Rc.someP fr xT 0).col := ⟨_, rfl⟩
      obtain ⟨po, hpo⟩ : ∃ po : Int, po = (Rc.someP fr xT 0).off := ⟨_, rfl⟩
      obtain ⟨_, _, e0, hp0⟩ := HP7.out 0 hk1'
      cases e0
      have c0 := hp0.c0
      have c1 := hp0.c1
      rw [← hpc, show 0 + 0 * 3 = 0 from rfl] at c0
      rw [← hpo, show 0 + 0 * 3 + 1 = 1 from rfl] at c1
      obtain ⟨_, _, eq_, hpq⟩ := HP7.out q (by have := HKq.out; omega)
      cases eq_
      have d0 := hpq.c0
      have d1 := hpq.c1
      rw [Nat.zero_add] at d0 d1
      have hfr0 := OWN7.out.frozenAt (q * 3)
      have hfr1 := OWN7.out.frozenAt (q * 3 + 1)
      have hkm : (k : Int) - 1 = (q : Int) := by have := HKq.out; omega
      have hq40 : q < 40 := by have := HKq.out; omega
      have hqk : (q : Int) < (k : Int) := by have := HKq.out; omega
      have hq0 : (0 : Int) < (k : Int) := by omega
      have hq0n : 0 < k := hk1'
      have hqkn : q < k := by omega
      have hwq : IntKind.i64.wrap (q : Int) = (q : Int) := by rw [IntKind.wrap_i64]; omega
      obtain ⟨k0, k1, k2, f0, f1, f2⟩ := hx7
      have HPC : Hid (pc = (Rc.someP fr xT 0).col ∧ po = (Rc.someP fr xT 0).off) := ⟨hpc, hpo⟩
      clear hp0 hpq hpc hpo
      go_upto_region 16 with fail
      have hS : (fun W : World => W.cell? ⟨b16, 2, none⟩ = some (.slice (some ⟨g', 0, none⟩) k cap') ∧ W.cell? ⟨g', 0, none⟩ = some (.int .i64 pc)) w7.drew := ⟨k2, c0⟩
      refine wp_region_held (S := fun W => W.cell? ⟨b16, 2, none⟩ = some (.slice (some ⟨g', 0, none⟩) k cap') ∧ W.cell? ⟨g', 0, none⟩ = some (.int .i64 pc)) HMX.out ?_
      change wpAnyH _ _ _ _ _ _ _ _ w7.drew
      refine held_quiet 0 (v := ?v0q1) rfl (by kernel_rfl) (fun _ _ _ h => h) (by assumption) rfl ?hy0q1 ?rest0q1
      case hy0q1 => (intro wS hSw; (try dsimp only at hSw); go_simp; try with_reducible rfl)
      try simp only [Act.put, List.setIfInBounds_toArray, List.set_cons_zero, List.set_cons_succ]
      refine held_quiet 1 (v := ?v1q2) rfl (by kernel_rfl) (fun _ _ _ h => h) (by assumption) rfl ?hy1q2 ?rest1q2
      case hy1q2 => (intro wS hSw; (try dsimp only at hSw); go_simp; try with_reducible rfl)
      try simp only [Act.put, List.setIfInBounds_toArray, List.set_cons_zero, List.set_cons_succ]
      refine held_quiet 2 (v := ?v2q3) rfl (by kernel_rfl) (fun _ _ _ h => h) (by assumption) rfl ?hy2q3 ?rest2q3
      case hy2q3 => (intro wS hSw; (try dsimp only at hSw); go_simp; try with_reducible rfl)
      try simp only [Act.put, List.setIfInBounds_toArray, List.set_cons_zero, List.set_cons_succ]
      refine held_quiet 3 (v := ?v3q4) rfl (by kernel_rfl) (fun _ _ _ h => h) (by assumption) rfl ?hy3q4 ?rest3q4
      case hy3q4 => (intro wS hSw; (try dsimp only at hSw); go_simp; try with_reducible rfl)
      try simp only [Act.put, List.setIfInBounds_toArray, List.set_cons_zero, List.set_cons_succ]
      refine held_quiet 4 (v := ?v4q5) rfl (by kernel_rfl) (fun _ _ _ h => h) (by assumption) rfl ?hy4q5 ?rest4q5
      case hy4q5 => (intro wS hSw; (try dsimp only at hSw); go_simp; try with_reducible rfl)
      try simp only [Act.put, List.setIfInBounds_toArray, List.set_cons_zero, List.set_cons_succ]
      refine held_quiet 5 (v := ?v5q6) rfl (by kernel_rfl) (fun _ _ _ h => h) (by assumption) rfl ?hy5q6 ?rest5q6
      case hy5q6 => (intro wS hSw; (try dsimp only at hSw); go_simp; try with_reducible rfl)
      try simp only [Act.put, List.setIfInBounds_toArray, List.set_cons_zero, List.set_cons_succ]
      refine held_quiet 6 (v := ?v6q7) rfl (by kernel_rfl) (fun _ _ _ h => h) (by assumption) rfl ?hy6q7 ?rest6q7
      case hy6q7 => (intro wS hSw; (try dsimp only at hSw); go_simp; try with_reducible rfl)
      try simp only [Act.put, List.setIfInBounds_toArray, List.set_cons_zero, List.set_cons_succ]
      refine held_quiet 7 (v := ?v7q8) rfl (by kernel_rfl) (fun _ _ _ h => h) (by assumption) rfl ?hy7q8 ?rest7q8
      case hy7q8 => (intro wS hSw; (try dsimp only at hSw); go_simp; try with_reducible rfl)
      try simp only [Act.put, List.setIfInBounds_toArray, List.set_cons_zero, List.set_cons_succ]
      refine held_quiet 8 (v := ?v8q9) rfl (by kernel_rfl) (fun _ _ _ h => h) (by assumption) rfl ?hy8q9 ?rest8q9
      case hy8q9 => (intro wS hSw; (try dsimp only at hSw); go_simp; try with_reducible rfl)
      try simp only [Act.put, List.setIfInBounds_toArray, List.set_cons_zero, List.set_cons_succ]
      refine held_quiet 9 (v := ?v9q10) rfl (by kernel_rfl) (fun _ _ _ h => h) (by assumption) rfl ?hy9q10 ?rest9q10
      case hy9q10 => (intro wS hSw; (try dsimp only at hSw); go_simp; try with_reducible rfl)
      try simp only [Act.put, List.setIfInBounds_toArray, List.set_cons_zero, List.set_cons_succ]
      refine held_quiet 10 (v := ?v10q11) rfl (by kernel_rfl) (fun _ _ _ h => h) (by assumption) rfl ?hy10q11 ?rest10q11
      case hy10q11 => (intro wS hSw; (try dsimp only at hSw); go_simp; try with_reducible rfl)
      try simp only [Act.put, List.setIfInBounds_toArray, List.set_cons_zero, List.set_cons_succ]
      refine held_one 11 rfl (by kernel_rfl) ?_
      go_wp2_with fail
      have hS8 : (fun W : World => W.cell? ⟨b16, 2, none⟩ = some (.slice (some ⟨g', 0, none⟩) k cap') ∧ W.cell? ⟨g', 0, none⟩ = some (.int .i64 pc)) (w7.setCell ⟨g', q * 3, none⟩ (.int .i64 pc)) := by
        refine ⟨(World.cell?_setCell_other _ _ _ _ (fun e => by injection e with e2; have := HG7.out; omega)).trans k2, ?_⟩
        by_cases hz : q = 0
        · subst hz
          exact World.cell?_setCell_same _ _ _ c0
        · exact (World.cell?_setCell_other _ _ _ _ (fun e => by injection e with _ e2; omega)).trans c0
      refine ⟨by first | exact hS8 | exact hS8.2, ?_⟩
      clear hS hS8
      refine held_done (by kernel_rfl) ?_
      have hx8 := HX7.out.other (by have := HG7.out; omega : b16 ≠ g') (q * 3) (.int .i64 pc)
      have hp8 := HP7.out.putCol (show q < k by omega) pc
      have hb8 := HB7.out.setCell (p := ⟨g', q * 3, none⟩) HG7.out.2 (.int .i64 pc)
      have hc8 : (w7.setCell ⟨g', q * 3, none⟩ (.int .i64 pc)).cell? ⟨g', 1, none⟩ = some (.int .i64 po) := (World.cell?_setCell_other _ _ _ _ (fun e => by injection e with _ e2; omega)).trans c1
      have hd8 : (w7.setCell ⟨g', q * 3, none⟩ (.int .i64 pc)).cell? ⟨g', q * 3 + 1, none⟩ = some (.int .i64 (Rc.someP fr xT q).off) := (World.cell?_setCell_other _ _ _ _ (fun e => by injection e with _ e2; omega)).trans d1
      have hf8 : (w7.setCell ⟨g', q * 3, none⟩ (.int .i64 pc)).frozen? ⟨g', q * 3 + 1, none⟩ = false := (World.frozen?_setCell _ _ _ _).trans hfr1
      replace hx8 : BoxAt (w7.setCell ⟨g', q * 3, none⟩ (.int .i64 pc)).drew b16 (.int .u64 (seq : Int)) (.int .i64 (row : Int)) (.slice (some ⟨g', 0, none⟩) k cap') := by
        obtain ⟨a0, a1, a2, a3, a4, a5⟩ := hx8
        exact ⟨a0, a1, a2, a3, a4, a5⟩
      replace hp8 := hp8.only (Only.drew (fun _ => False) _) (fun _ _ h => h)
      replace hb8 := hb8.drew
      replace hc8 : (w7.setCell ⟨g', q * 3, none⟩ (.int .i64 pc)).drew.cell? ⟨g', 1, none⟩ = some (.int .i64 po) := hc8
      replace hd8 : (w7.setCell ⟨g', q * 3, none⟩ (.int .i64 pc)).drew.cell? ⟨g', q * 3 + 1, none⟩ = some (.int .i64 (Rc.someP fr xT q).off) := hd8
      replace hf8 : (w7.setCell ⟨g', q * 3, none⟩ (.int .i64 pc)).drew.frozen? ⟨g', q * 3 + 1, none⟩ = false := hf8
      change Exit.then _ _ _ _ (w7.setCell ⟨g', q * 3, none⟩ (.int .i64 pc)).drew
      generalize hw8 : (w7.setCell ⟨g', q * 3, none⟩ (.int .i64 pc)).drew = w8 at *
      have HX8 : Hid (BoxAt w8 b16 (.int .u64 (seq : Int)) (.int .i64 (row : Int)) (.slice (some ⟨g', 0, none⟩) k cap')) := hx8
      have HP8 : Hid (PartsR w8 (some ⟨g', 0, none⟩) k (Rc.putCol (Rc.someP fr xT) q pc)) := hp8
      have HB8 : Hid (Below w.heap.size w w8) := hb8
      clear hw8 hp8 hb8 c0 c1 d0 d1 hfr0 hfr1 k0 k1 k2 f0 f1 f2
      obtain ⟨k0, k1, k2, f0, f1, f2⟩ := hx8
      go_upto_region 17 with fail
      have hS : (fun W : World => W.cell? ⟨b16, 2, none⟩ = some (.slice (some ⟨g', 0, none⟩) k cap') ∧ W.cell? ⟨g', 1, none⟩ = some (.int .i64 po)) w8.drew := ⟨k2, hc8⟩
      refine wp_region_held (S := fun W => W.cell? ⟨b16, 2, none⟩ = some (.slice (some ⟨g', 0, none⟩) k cap') ∧ W.cell? ⟨g', 1, none⟩ = some (.int .i64 po)) HMX.out ?_
      change wpAnyH _ _ _ _ _ _ _ _ w8.drew
      refine held_quiet 0 (v := ?v0q12) rfl (by kernel_rfl) (fun _ _ _ h => h) (by assumption) rfl ?hy0q12 ?rest0q12
      case hy0q12 => (intro wS hSw; (try dsimp only at hSw); go_simp; try with_reducible rfl)
      try simp only [Act.put, List.setIfInBounds_toArray, List.set_cons_zero, List.set_cons_succ]
      refine held_quiet 1 (v := ?v1q13) rfl (by kernel_rfl) (fun _ _ _ h => h) (by assumption) rfl ?hy1q13 ?rest1q13
      case hy1q13 => (intro wS hSw; (try dsimp only at hSw); go_simp; try with_reducible rfl)
      try simp only [Act.put, List.setIfInBounds_toArray, List.set_cons_zero, List.set_cons_succ]
      refine held_quiet 2 (v := ?v2q14) rfl (by kernel_rfl) (fun _ _ _ h => h) (by assumption) rfl ?hy2q14 ?rest2q14
      case hy2q14 => (intro wS hSw; (try dsimp only at hSw); go_simp; try with_reducible rfl)
      try simp only [Act.put, List.setIfInBounds_toArray, List.set_cons_zero, List.set_cons_succ]
      refine held_quiet 3 (v := ?v3q15) rfl (by kernel_rfl) (fun _ _ _ h => h) (by assumption) rfl ?hy3q15 ?rest3q15
      case hy3q15 => (intro wS hSw; (try dsimp only at hSw); go_simp; try with_reducible rfl)
      try simp only [Act.put, List.setIfInBounds_toArray, List.set_cons_zero, List.set_cons_succ]
      refine held_quiet 4 (v := ?v4q16) rfl (by kernel_rfl) (fun _ _ _ h => h) (by assumption) rfl ?hy4q16 ?rest4q16
      case hy4q16 => (intro wS hSw; (try dsimp only at hSw); go_simp; try with_reducible rfl)
      try simp only [Act.put, List.setIfInBounds_toArray, List.set_cons_zero, List.set_cons_succ]
      refine held_quiet 5 (v := ?v5q17) rfl (by kernel_rfl) (fun _ _ _ h => h) (by assumption) rfl ?hy5q17 ?rest5q17
      case hy5q17 => (intro wS hSw; (try dsimp only at hSw); go_simp; try with_reducible rfl)
      try simp only [Act.put, List.setIfInBounds_toArray, List.set_cons_zero, List.set_cons_succ]
      refine held_quiet 6 (v := ?v6q18) rfl (by kernel_rfl) (fun _ _ _ h => h) (by assumption) rfl ?hy6q18 ?rest6q18
      case hy6q18 => (intro wS hSw; (try dsimp only at hSw); go_simp; try with_reducible rfl)
      try simp only [Act.put, List.setIfInBounds_toArray, List.set_cons_zero, List.set_cons_succ]
      refine held_quiet 7 (v := ?v7q19) rfl (by kernel_rfl) (fun _ _ _ h => h) (by assumption) rfl ?hy7q19 ?rest7q19
      case hy7q19 => (intro wS hSw; (try dsimp only at hSw); go_simp; try with_reducible rfl)
      try simp only [Act.put, List.setIfInBounds_toArray, List.set_cons_zero, List.set_cons_succ]
      refine held_quiet 8 (v := ?v8q20) rfl (by kernel_rfl) (fun _ _ _ h => h) (by assumption) rfl ?hy8q20 ?rest8q20
      case hy8q20 => (intro wS hSw; (try dsimp only at hSw); go_simp; try with_reducible rfl)
      try simp only [Act.put, List.setIfInBounds_toArray, List.set_cons_zero, List.set_cons_succ]
      refine held_quiet 9 (v := ?v9q21) rfl (by kernel_rfl) (fun _ _ _ h => h) (by assumption) rfl ?hy9q21 ?rest9q21
      case hy9q21 => (intro wS hSw; (try dsimp only at hSw); go_simp; try with_reducible rfl)
      try simp only [Act.put, List.setIfInBounds_toArray, List.set_cons_zero, List.set_cons_succ]
      refine held_quiet 10 (v := ?v10q22) rfl (by kernel_rfl) (fun _ _ _ h => h) (by assumption) rfl ?hy10q22 ?rest10q22
      case hy10q22 => (intro wS hSw; (try dsimp only at hSw); go_simp; try with_reducible rfl)
      try simp only [Act.put, List.setIfInBounds_toArray, List.set_cons_zero, List.set_cons_succ]
      refine held_one 11 rfl (by kernel_rfl) ?_
      go_wp2_with fail
      have hS9 : (fun W : World => W.cell? ⟨b16, 2, none⟩ = some (.slice (some ⟨g', 0, none⟩) k cap') ∧ W.cell? ⟨g', 1, none⟩ = some (.int .i64 po)) (w8.setCell ⟨g', q * 3 + 1, none⟩ (.int .i64 po)) := by
        refine ⟨(World.cell?_setCell_other _ _ _ _ (fun e => by injection e with e2; have := HG7.out; omega)).trans k2, ?_⟩
        by_cases hz : q = 0
        · subst hz
          exact World.cell?_setCell_same _ _ _ hc8
        · exact (World.cell?_setCell_other _ _ _ _ (fun e => by injection e with _ e2; omega)).trans hc8
      refine ⟨by first | exact hS9 | exact hS9.2, ?_⟩
      clear hS hS9
      refine held_done (by kernel_rfl) ?_
      have hx9 := HX8.out.other (by have := HG7.out; omega : b16 ≠ g') (q * 3 + 1) (.int .i64 po)
      have hp9 := HP8.out.putOff (show q < k by omega) po
      have hb9 := HB8.out.setCell (p := ⟨g', q * 3 + 1, none⟩) HG7.out.2 (.int .i64 po)
      replace hx9 : BoxAt (w8.setCell ⟨g', q * 3 + 1, none⟩ (.int .i64 po)).drew b16 (.int .u64 (seq : Int)) (.int .i64 (row : Int)) (.slice (some ⟨g', 0, none⟩) k cap') := by
        obtain ⟨a0, a1, a2, a3, a4, a5⟩ := hx9
        exact ⟨a0, a1, a2, a3, a4, a5⟩
      replace hp9 := hp9.only (Only.drew (fun _ => False) _) (fun _ _ h => h)
      replace hb9 := hb9.drew
      change Exit.then _ _ _ _ (w8.setCell ⟨g', q * 3 + 1, none⟩ (.int .i64 po)).drew
      generalize hw9 : (w8.setCell ⟨g', q * 3 + 1, none⟩ (.int .i64 po)).drew = w9 at *
      have HP9 : Hid (PartsR w9 (some ⟨g', 0, none⟩) k (Rc.twin (Rc.someP fr xT) q)) := by
        show PartsR _ _ _ _
        unfold Rc.twin
        rw [← HPC.out.1, ← HPC.out.2]; exact hp9
      have HB9 : Hid (Below w.heap.size w w9) := hb9
      clear hw9 hp9 hb9 hc8 hd8 hf8 k0 k1 k2 f0 f1 f2
      obtain ⟨k0, k1, k2, _, _, _⟩ := hx9
      by_cases hz : q = 0
      · have hkz : ((k : Int) == 1) = true := by rw [beq_iff_eq]; have := HKq.out; omega
        have hans := HTw.out w9 (some ⟨g', 0, none⟩) cap' HP9.out
        rw [decide_eq_true hz] at hans
        clear hz
        go_wp2_with fail
        refine hans.mono ?_
        rintro e w10 ⟨rfl, hb10⟩
        have HB10 : Hid (Below w.heap.size w w10) := below2 HB9.out hb10
        clear hb10 hans
        go_wp2
        go_ret
        exact ⟨rfl, HB10.out⟩
      · have hkz : ((k : Int) == 1) = false := by rw [beq_eq_false_iff_ne]; have := HKq.out; omega
        have hans := HTw.out w9 (some ⟨g', 0, none⟩) cap' HP9.out
        rw [decide_eq_false hz] at hans
        clear hz
        go_wp2_with fail
        refine hans.mono ?_
        rintro e w10 ⟨rfl, hb10⟩
        have HB10 : Hid (Below w.heap.size w w10) := below2 HB9.out hb10
        clear hb10 hans
        go_wp2
        go_ret
        exact ⟨rfl, HB10.out⟩

set_option maxRecDepth 100000 in
set_option maxHeartbeats 8000000 in
theorem places12_none (X : RecSays) (seq row fr many : Nat) (tw : Bool) (w : World) (h0 : seq < 18446744073709551616) (h1 : row < 256) (h2 : fr < 256) (h3 : many < 256) (hN : many % 50 = 0) :
    Calls Try.prog 3 #[.int .u64 (seq : Int), .int .u8 (row : Int), .int .u8 (fr : Int), .int .u8 (many : Int), .bool tw] w fun e w' => e = .returned (.bool true) ∧ Below w.heap.size w w' := by
  obtain ⟨N, hn⟩ : ∃ N, N = many % 50 := ⟨_, rfl⟩
  rw [← hn] at hN
  have hN50 : N < 50 := by omega
  have hr0 : (many : Int).tmod 50 = (N : Int) := by rw [hn]; exact (Int.ofNat_tmod many 50).symm
  have hcm : IntKind.i64.wrap (many : Int) = (many : Int) := by rw [IntKind.wrap_i64]; omega
  have hcr : IntKind.i64.wrap (row : Int) = (row : Int) := by rw [IntKind.wrap_i64]; omega
  have hsome := fun (W : World) (a : Option Addr) (cap : Nat) (hr : RowS W a N xT) => some12_any seq row fr a N cap xT W h0 h1 h2 hr (fun _ _ => by unfold xT; decide)
  have hMi : Rc.someN N = min N 40 := rfl
  have hk40 := Rc.someN_le N
  obtain ⟨k, hk⟩ : ∃ k, k = Rc.someN N := ⟨_, rfl⟩
  rw [← hk] at hsome hMi hk40
  have hmin : ∀ (ts : Array TypeId) (ty : TypeId) (W : World), (Builtin.min_ ts ty #[.int .i64 (N : Int), .int .i64 40]).run Try.prog W = .ok (.int .i64 (k : Int)) W := by
    intro ts ty W
    rw [run_min_int2 W ts ty .i64 .i64 (N : Int) 40, show (if (40 : Int) < (N : Int) then (40 : Int) else (N : Int)) = (k : Int) by split <;> omega]
  have hk0 : k = 0 := by omega
  have hE : ∀ (W : World) (a : Option Addr) (c : Nat), PartsR W a k (Rc.someP fr xT) → Calls Try.prog 5 #[.agg #[.int .u64 (seq : Int), .int .i64 (row : Int), .slice a k c]] W fun e w' => e = .returned (.bool false) ∧ Below W.heap.size W w' := by
    intro W a c hr
    have q := X.may seq (row : Int) a k c (Rc.someP fr xT) W h0 ⟨by omega, by omega, fun _ h => by omega, fun _ h => by omega⟩ ⟨by omega, fun _ h => by omega⟩ hr
    rw [show Rc.mayB (row : Int) k (Rc.someP fr xT) = false by rw [hk0]; exact Rc.none_may] at q
    exact q
  have HSo : Hid _ := hsome
  have HE : Hid _ := hE
  have HSh : Hid _ := fun W => shown12_any X W
  have hn0 : ((N : Int) == 0) = true := by rw [beq_iff_eq]; omega
  obtain ⟨i0, hi, hz0, hz1, hz2⟩ := info_parts info_str
  have hlit : (w.alloc (.cells #[] 9)).ownsRow w.heap.size 9 1 (.slice (some ⟨w.heap.size, 0, none⟩) 0 0) 0 [] := World.ownsRow_lit (base := w.heap.size) (e := 9) (size := 1) w #[] 0 (Nat.le_refl _) (by decide) rfl
  clear hsome hMi hE hk hk40 hk0 hn hN
  go_enter Try.func3, Try.ntmps3
  go_wp2
  go_loopg [12, 13] N (fun gg v i wr => ∃ (j : Nat) (u : Value), j ≤ N ∧ gg = N - j ∧ u = v ∧ i = .int .i64 (j : Int) ∧ wr.ownsRow w.heap.size 9 1 u j (textVals j xT) ∧ Below w.heap.size w wr)
  case atStart => exact ⟨0, _, Nat.zero_le _, rfl, rfl, rfl, hlit, (Below.refl _ w).alloc (Nat.le_refl _) _⟩
  case round =>
  obtain ⟨j, u, hj, rfl, rfl, rfl, hown, hb⟩ := hrel
  have HB : Hid (Below w.heap.size w wr) := hb
  have OWN : Hid (wr.ownsRow w.heap.size 9 1 u j (textVals j xT)) := hown
  have hsz := hb.size
  clear hb hown hlit
  by_cases hlt : j < N
  case pos =>
    have hji : (j : Int) < (N : Int) := by omega
    have t1 : True := trivial
    go_wp2_with (first | (at_builtin; go_loud (have _t := t1; refine wpList_append_own _ rfl _ _ 23 rfl w.heap.size 9 i0 (.string ByteArray.empty) 1 16 Try.underlying23 hi hz0 hz1 hz2 rfl (by decide) u j (textVals j xT) rfl (OWN.out.alloc _) ⟨wr.heap.size, 0, none⟩ 1 1 [.string ⟨#[120]⟩] rfl rfl (cell_one_new _ _ _) (by simp [Value.oneCell']) (by unfold maxLen; omega) (by omega) (by simp; omega) ?_; intro v' w4 hown' hgrow _; obtain ⟨g', cap', rfl⟩ := ownsRow_succ hown'; have b4 := below_append OWN.out hsz hgrow; have HB4 : Hid (Below w.heap.size wr w4) := b4; have OWN4 : Hid (w4.ownsRow w.heap.size 9 1 (.slice (some ⟨g', 0, none⟩) (j + 1) cap') (j + 1) (textVals (j + 1) xT)) := (by show World.ownsRow _ _ _ _ _ _ _; rw [← textVals_snoc]; exact hown'); clear b4 hown' hgrow t1)))
    go_roundg (N - (j + 1))
    case measure => omega
    case rel => exact ⟨j + 1, _, by omega, rfl, rfl, by go_num, OWN4.out, HB.out.trans HB4.out⟩
  case neg =>
    have hjn : j = N := by omega
    subst hjn
    obtain ⟨aX, cX, rfl, hrX, _, _⟩ := RowS.of_owns OWN.out
    have HRX : Hid (RowS wr aX j xT) := hrX
    clear hlt hj hrX
    go_wp2_with fail
    refine (HSo.out _ _ _ HRX.out).mono ?_
    rintro e w1 ⟨a1, c1, rfl, hp1, _, _, hb1⟩
    have HB1 : Hid (Below w.heap.size w w1) := below2 HB.out hb1
    have HP1 : Hid (PartsR w1 a1 k (Rc.someP fr xT)) := hp1
    clear hp1 hb1 OWN HRX
    go_upto_region 8 with fail
    obtain ⟨hx14, b14'⟩ := box_new12 w1 26 (.int .u64 (seq : Int)) (.int .i64 (row : Int)) (.slice a1 k c1)
    obtain ⟨w2, hw2⟩ : ∃ w2, w2 = w1.alloc (.cells #[.int .u64 (seq : Int), .int .i64 (row : Int), .slice a1 k c1] 26) := ⟨_, rfl⟩
    obtain ⟨b14, hb14⟩ : ∃ b14, b14 = w1.heap.size := ⟨_, rfl⟩
    rw [← hw2] at hx14 b14' ⊢
    rw [← hb14] at hx14 ⊢
    have HP2 : Hid (PartsR w2 a1 k (Rc.someP fr xT)) := HP1.out.below b14'
    have HB2 : Hid (Below w.heap.size w w2) := below2 HB1.out b14'
    have HX2 : Hid (BoxAt w2 b14 (.int .u64 (seq : Int)) (.int .i64 (row : Int)) (.slice a1 k c1)) := hx14
    obtain ⟨y0, y1, y2, _, _, _⟩ := hx14
    clear hw2 hb14 b14' HP1
    go_wp2_with fail
    refine (HE.out _ _ _ HP2.out).mono ?_
    rintro e w3 ⟨rfl, hb3⟩
    have HB3 : Hid (Below w.heap.size w w3) := below2 HB2.out hb3
    have HP3 : Hid (PartsR w3 a1 k (Rc.someP fr xT)) := HP2.out.below hb3
    have HX3 : Hid (BoxAt w3 b14 (.int .u64 (seq : Int)) (.int .i64 (row : Int)) (.slice a1 k c1)) := HX2.out.below hb3 HX2.out.lt
    clear hb3 y0 y1 y2
    go_wp2_with fail
    refine (HSh.out _).mono ?_
    rintro e w4 ⟨rfl, hb4⟩
    have HB4 : Hid (Below w.heap.size w w4) := below2 HB3.out hb4
    have HP4 : Hid (PartsR w4 a1 k (Rc.someP fr xT)) := HP3.out.below hb4
    have HX4 : Hid (BoxAt w4 b14 (.int .u64 (seq : Int)) (.int .i64 (row : Int)) (.slice a1 k c1)) := HX3.out.below hb4 HX3.out.lt
    clear hb4
    go_wp2
    go_ret
    exact ⟨rfl, HB4.out⟩

/-- RecordPlaces, over what is asked of the program -/
theorem places12_says (X : RecSays) (seq row fr many : Nat) (tw : Bool) (w : World) (h0 : seq < 18446744073709551616) (h1 : row < 256) (h2 : fr < 256) (h3 : many < 256) :
    Calls Try.prog 3 #[.int .u64 (seq : Int), .int .u8 (row : Int), .int .u8 (fr : Int), .int .u8 (many : Int), .bool tw] w fun e w' => e = .returned (.bool true) ∧ Below w.heap.size w w' := by
  by_cases h : many % 50 = 0
  · exact places12_none X seq row fr many tw w h0 h1 h2 h3 h
  · exact places12_some X seq row fr many tw w h0 h1 h2 h3 h
theorem places12_walk (X : RecSays) (w : World) (a0 : Int) (w0 : (Lit.int .u64 a0).wf = true) (a1 : Int) (w1 : (Lit.int .u8 a1).wf = true) (a2 : Int) (w2 : (Lit.int .u8 a2).wf = true) (a3 : Int) (w3 : (Lit.int .u8 a3).wf = true) (a4 : Bool) :
    Calls Try.prog 3 #[.int .u64 a0, .int .u8 a1, .int .u8 a2, .int .u8 a3, .bool a4] w fun e w' => e = .returned (.bool true) ∧ Below w.heap.size w w' := by
  obtain ⟨s, rfl, h0⟩ := nat12_u64 w0
  obtain ⟨r, rfl, h1⟩ := nat12_u8 w1
  obtain ⟨f, rfl, h2⟩ := nat12_u8 w2
  obtain ⟨m, rfl, h3⟩ := nat12_u8 w3
  exact places12_says X s r f m a4 w h0 h1 h2 h3
end Go.Proofs.Ytmikllmpinciiaa
namespace Go.Proofs.Ytmikllmpinciiaa.recordPlaces
open Go.ChangeShapes Go.WideShapes Go.ChangeAt Go.RowKit
open Go.ChangeMaps (open_string shut_string)

theorem walk (a0 : Int) (w0 : (Lit.int .u64 a0).wf = true) (a1 : Int) (w1 : (Lit.int .u8 a1).wf = true) (a2 : Int) (w2 : (Lit.int .u8 a2).wf = true) (a3 : Int) (w3 : (Lit.int .u8 a3).wf = true) (a4 : Bool) (w : World) :
    Calls Try.prog 3 #[.int .u64 a0, .int .u8 a1, .int .u8 a2, .int .u8 a3, .bool a4] w fun e w' => e = .returned (.bool true) ∧ Below w.heap.size w w' := places12_walk rec_says w a0 w0 a1 w1 a2 w2 a3 w3 a4

theorem own : ownKnob Try.prog.godebug = none := by kernel_rfl
set_option linter.unusedVariables false in
set_option maxRecDepth 100000 in
theorem lifted (os : Os) (started : os.Started) (H : Type) (enc : TypeId × Value → H) :
    ReturnsInHanded {} Try.checked os 3 .any (Rows.recordPlacesSpec.pre6 enc Try.prog Try.f3 Rows.recordPlacesRow.domain false) (Rows.recordPlacesSpec.post enc Try.prog Try.f3 false true false false) := by
  refine returnsInHanded_of_change (C := Try.checked) own started (by kernel_rfl) Try.func3
    (ChangeSpec.witness6 (enc := enc) (C := Try.checked) false ⟨#[], #[.int .u64 0, .int .u8 0, .int .u8 0, .int .u8 0, .bool false], []⟩ 8 (by kernel_rfl) (by kernel_rfl) (by kernel_rfl) (by kernel_rfl)) ?_
  intro W base args ds gs before hval0 hW hcnd _
  have hval : ∀ (j : Nat) t v, Try.f3.params[j]? = some t → args[j]? = some v → Value.okWide Try.prog W .any base t v := hval0
  have hW' := hW
  obtain ⟨p, q, hA0, hV, rfl, hfz, hnd⟩ := hW
  have hA : DataW.TrodAll enc Try.prog W 0 (fun _ => true) true Try.f3.params.toList args.toList ds p := hA0
  rw [Try.params3] at hA hval
  obtain ⟨v0, vs0, d0, ds0, p0, q0, hargs, rfl, rfl, h0, r0⟩ := trodAll_cons hA
  obtain ⟨v1, vs1, d1, ds1, p1, q1, rfl, rfl, rfl, h1, r1⟩ := trodAll_cons r0
  obtain ⟨v2, vs2, d2, ds2, p2, q2, rfl, rfl, rfl, h2, r2⟩ := trodAll_cons r1
  obtain ⟨v3, vs3, d3, ds3, p3, q3, rfl, rfl, rfl, h3, r3⟩ := trodAll_cons r2
  obtain ⟨v4, vs4, d4, ds4, p4, q4, rfl, rfl, rfl, h4, r4⟩ := trodAll_cons r3
  obtain ⟨rfl, rfl, rfl⟩ := trodAll_nil r4
  obtain rfl : args = #[v0, v1, v2, v3, v4] := by cases args; simp_all
  obtain ⟨rfl, rfl⟩ := trodVars_none hV
  obtain ⟨a0, rfl, rfl, rfl, w0⟩ := open_int Try.underlying22 (hval 0 22 v0 rfl rfl) h0
  obtain ⟨a1, rfl, rfl, rfl, w1⟩ := open_int Try.underlying5 (hval 1 5 v1 rfl rfl) h1
  obtain ⟨a2, rfl, rfl, rfl, w2⟩ := open_int Try.underlying5 (hval 2 5 v2 rfl rfl) h2
  obtain ⟨a3, rfl, rfl, rfl, w3⟩ := open_int Try.underlying5 (hval 3 5 v3 rfl rfl) h3
  obtain ⟨a4, rfl, rfl, rfl⟩ := open_bool Try.underlying4 (hval 4 4 v4 rfl rfl) h4
  clear hA0 hval0
  simp only [List.append_nil] at hW'
  refine (walk a0 w0 a1 w1 a2 w2 a3 w3 a4 W).mono fun e W' ⟨he, hg⟩ => ?_
  subst he
  exact ⟨_, rfl, _, _, _, [], [], [], hW', trodAll_mk1 (shut_bool Try.underlying4 _), (trodAll_cons_mk (shut_int Try.underlying22 w0) (trodAll_cons_mk (shut_int Try.underlying5 w1) (trodAll_cons_mk (shut_int Try.underlying5 w2) (trodAll_cons_mk (shut_int Try.underlying5 w3) (trodAll_cons_mk (shut_bool Try.underlying4 a4) trodAll_mk0))))), rfl, hg.frame _, fun h => by cases h⟩
/-- For every input the law returns true, and each argument reads as it did. -/
theorem proved : Rows.RecordPlacesSaid :=
  OpenClaim.holds_of_wide 3 Try.f3 rfl rfl rfl rfl rfl rfl rfl ⟨rfl, rfl, rfl, rfl, rfl⟩ rfl rfl rfl rfl rfl (by kernel_rfl) Try.func3 (by kernel_rfl)
    (of_decide_eq_true (by kernel_rfl)) (by unfold Func.isWrapper; first | (rw [if_pos (by decide +kernel)]; kernel_rfl) | (rw [if_neg (by decide +kernel)]; exact ⟨rfl, rfl⟩))
    (fun os started H enc _ => lifted os started H enc)
end Go.Proofs.Ytmikllmpinciiaa.recordPlaces
