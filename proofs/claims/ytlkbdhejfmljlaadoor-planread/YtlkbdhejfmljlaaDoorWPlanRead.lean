/- PlanRead. -/
import Derived.Test.YtlkbdhejfmljlaaDoorPlGood
import Derived.OpenShut
namespace Go.Proofs.YtlkbdhejfmljlaaDoor.planRead
open Go.RowKit
attribute [local go_sem] Oper.semAt_some

set_option maxRecDepth 100000 in
set_option maxHeartbeats 16000000 in
theorem core {w : World} (PS0 : PlanSays w) (A R C D q N k i j : Nat) (hA : (A : Int).tmod 7 = (q : Int)) (hqn : (2 : Int) + (q : Int) = (N : Int)) (hn2 : 2 ≤ N) (hn8 : N ≤ 8) (hA8 : A < 256) (hR8 : R < 256) (hC8 : C < 256) (hD8 : D < 256)
    (hRk : (R : Int).tmod ((N : Int) + 2) = (k : Int)) (hk : k < N + 2) (hCi : (C : Int).tmod ((N : Int) + 3) = (i : Int)) (hDj : (D : Int).tmod ((N : Int) + 3) = (j : Int)) (third : Bool) :
    Calls Tryd.prog 6 #[.int .u8 (A : Nat), .int .u8 (R : Nat), .int .u8 (C : Nat), .int .u8 (D : Nat), .bool third] w fun e w' => e = .returned (.bool true) ∧ Below w.heap.size w w' := by
  have SH : Hid (∀ W, Below w.heap.size w W → Calls Tryd.prog 8 #[] W fun e w' => e = .returned (.bool true) ∧ Below W.heap.size W w') := fun W hW => shown15_any PS0 W hW
  have PS : Hid (PlanSays w) := PS0
  have HK2 : Hid (k < N + 2) := hk
  have HTWO : Hid (∀ W, Calls Tryd.prog 16 #[.int .i64 (N : Int), .int .u8 (C : Nat), .int .u8 (D : Nat)] W fun r w' => ∃ v, r = .returned v ∧ Row15 W (Pl.twoT N i j) v w') := fun W => two15_any W N hn2 hn8 C D i j hC8 hD8 hCi hDj
  obtain ⟨hgood, hlen2⟩ := Pl.good_two (i := i) (k := j) hn2 hn8
  have HGD : Hid (Pl.Good N (Pl.twoT N i j)) := hgood
  clear PS0 hk hCi hDj hgood
  go_enter Tryd.func6, Tryd.ntmps6
  go_wp2_with fail
  refine (HTWO.out _).mono ?_
  rintro e w1 ⟨v, rfl, hrow1⟩
  obtain ⟨ga, gc, rfl, _, _⟩ := RowI.of_owns (k := .i64) hrow1.1
  obtain ⟨ln, hln⟩ : ∃ ln, ln = (Pl.twoT N i j).length := ⟨_, rfl⟩
  have HLN : Hid (ln = (Pl.twoT N i j).length) := hln
  rw [← hln] at hrow1 hlen2 ⊢
  have HROW1 : Hid (Row15 w (Pl.twoT N i j) (.slice ga ln gc) w1) := hrow1
  clear hrow1 hln HTWO
  cases third with
  | false =>
    obtain ⟨L, hL⟩ : ∃ L, L = Pl.twoT N i j := ⟨_, rfl⟩
    rw [← hL] at HGD HLN HROW1
    clear hL
    have hrow : RowI .i64 w1 ga L.length (fun j => L.getD j 0) := by
      have h := HROW1.out.1
      rw [← HLN.out] at h
      obtain ⟨a', c', e', hR', _⟩ := RowI.of_owns (k := .i64) h
      cases e'
      rw [← HLN.out]; exact hR'
    have hcap : L.length ≤ gc := by
      have h := HROW1.out.1
      rw [← HLN.out] at h
      rw [← HLN.out]
      exact ownsRow_cap h
    have HHAS : Hid (∀ W' (x : Int), Below w1.heap.size w1 W' → Calls Tryd.prog 17 #[.slice ga ln gc, .int .i64 x] W' fun r w' => r = .returned (.bool (Pl.hasB L x)) ∧ w' = W') := fun W' x hW => by
      have h := lhas15_any W' ga gc L (by have := HGD.out.len; omega) (hrow.below hW) x
      rwa [← HLN.out] at h
    have hread := PS.out.read w1 (HROW1.out.2) (N : Int) (k : Int) ga gc L ⟨by omega, by omega⟩ ⟨by omega, by have := HK2.out; omega⟩ hcap (by have := HGD.out.len; omega) hrow
    rw [← HLN.out] at hread
    obtain ⟨g, hg⟩ : ∃ g, Pl.hasB L (k : Int) = g := ⟨_, rfl⟩
    have HG : Hid (Pl.hasB L (k : Int) = g) := hg
    have BT : Hid (Below w.heap.size w w1) := HROW1.out.2
    cases g with
    | false =>
      obtain ⟨e1, e2⟩ := Pl.read_one HGD.out.roles HK2.out hg
      have HRD : Hid (Calls Tryd.prog 13 #[.int .i64 (N : Int), .int .i64 (k : Int), .slice ga ln gc] w1 (ReadQ [(k : Int)] 1 0 w1)) := hread.mono fun _ _ h => h.q e2 rfl e1
      clear hread hg e1 e2 hrow hcap
      go_wp2_with fail
      refine HRD.out.mono ?_
      rintro e w5 ⟨⟨ra, rc, rfl, hr⟩, b5⟩
      have HR5 : Hid (RowI .i64 w5 ra 1 (fun j => [(k : Int)].getD j 0)) := hr
      have B5 : Hid (Below w1.heap.size w1 w5) := b5
      clear hr b5 HRD
      go_wp2_with fail
      refine (SH.out _ (below2 BT.out B5.out)).mono ?_
      rintro e w6 ⟨rfl, b6⟩
      have HR6 : Hid (RowI .i64 w6 ra 1 (fun j => [(k : Int)].getD j 0)) := HR5.out.below b6
      have B6 : Hid (Below w1.heap.size w1 w6) := below2 B5.out b6
      clear b6 B5 HR5
      go_wp2_with fail
      refine (HHAS.out _ _ B6.out).mono ?_
      rw [HG.out]
      rintro e w7 ⟨rfl, rfl⟩
      have h2 := RowI.new .i64 w7 [(k : Int)] #[.int .i64 (k : Int)] 3 rfl
      have HR7 : Hid (RowI .i64 (w7.alloc (.cells #[.int .i64 (k : Int)] 3)) (some ⟨w7.heap.size, 0, none⟩) 1 (fun j => [(k : Int)].getD j 0)) := h2
      have BN : Hid (Below w7.heap.size w7 (w7.alloc (.cells #[.int .i64 (k : Int)] 3))) := (Below.refl _ w7).alloc (Nat.le_refl _) _
      clear h2
      go_wp2_with fail
      refine (same_rows ra (some ⟨w7.heap.size, 0, none⟩) 1 rc 1 (fun j => [(k : Int)].getD j 0) (by decide) _ (HR6.out.below BN.out) HR7.out).mono ?_
      rintro e w8 ⟨rfl, b8⟩
      have B8 : Hid (Below w.heap.size w w8) := below2 (below2 BT.out B6.out) (below2 BN.out b8)
      clear b8
      go_wp2
      go_ret
      exact ⟨rfl, B8.out⟩
    | true =>
      by_cases hl2 : ln ≤ 2
      · have hl2' : L.length ≤ 2 := by rw [← HLN.out]; exact hl2
        obtain ⟨e1, e2⟩ := Pl.read_left HGD.out.roles HK2.out hg hl2'
        have hcount := HGD.out.left hl2'
        obtain ⟨rn, hrn⟩ : ∃ rn, (Pl.leftT L (N + 2)).length = rn := ⟨_, rfl⟩
        rw [hrn, ← HLN.out] at hcount
        have HRN : Hid ((Pl.leftT L (N + 2)).length = rn) := hrn
        have HRD : Hid (Calls Tryd.prog 13 #[.int .i64 (N : Int), .int .i64 (k : Int), .slice ga ln gc] w1 (ReadQ (Pl.leftT L (N + 2)) rn 0 w1)) := hread.mono fun _ _ h => h.q e2 hrn e1
        have u1 : decide (2 < ln) = false := decide_eq_false (by omega)
        have u2 : decide ((2 : Int) < (ln : Int)) = false := decide_eq_false (by omega)
        clear hread hg e1 e2 hrow hcap hl2' hrn
        go_wp2_with fail
        refine HRD.out.mono ?_
        rintro e w5 ⟨⟨ra, rc, rfl, hr⟩, b5⟩
        have HR5 : Hid (RowI .i64 w5 ra rn (fun j => (Pl.leftT L (N + 2)).getD j 0)) := hr
        have B5 : Hid (Below w1.heap.size w1 w5) := b5
        clear hr b5 HRD
        go_wp2_with fail
        refine (SH.out _ (below2 BT.out B5.out)).mono ?_
        rintro e w6 ⟨rfl, b6⟩
        have HR6 : Hid (RowI .i64 w6 ra rn (fun j => (Pl.leftT L (N + 2)).getD j 0)) := HR5.out.below b6
        have B6 : Hid (Below w1.heap.size w1 w6) := below2 B5.out b6
        clear b6 B5 HR5
        go_wp2_with fail
        refine (HHAS.out _ _ B6.out).mono ?_
        rw [HG.out]
        rintro e w7 ⟨rfl, rfl⟩
        go_wp2_with fail
        go_loopg [17] rn (fun gg s17 wz => ∃ t : Nat, t ≤ rn ∧ gg = rn - t ∧ s17 = .int .i64 (t : Int) ∧ Below w7.heap.size w7 wz)
        case atStart => exact ⟨0, Nat.zero_le _, rfl, rfl, Below.refl _ _⟩
        case round =>
          obtain ⟨t, ht, rfl, rfl, hbz⟩ := hrel
          have BZ : Hid (Below w7.heap.size w7 wr) := hbz
          by_cases hlt : t < rn
          · obtain ⟨bb, bo, rfl, hc⟩ := HR6.out.below hbz t hlt
            dsimp only at hc
            have hn := Pl.left_not (L := L) (t := N + 2) (j := t) (by rw [HRN.out]; exact hlt)
            obtain ⟨y, hy⟩ : ∃ y, y = (Pl.leftT L (N + 2)).getD t 0 := ⟨_, rfl⟩
            rw [← hy] at hc hn
            have hcall := HHAS.out wr y (below2 B6.out hbz)
            rw [hn] at hcall
            have HCALL : Hid (Calls Tryd.prog 17 #[.slice ga ln gc, .int .i64 y] wr fun r w' => r = .returned (.bool false) ∧ w' = wr) := hcall
            clear hcall hn hy hbz
            go_wp2_with (go_at_call 17; refine HCALL.out.mono ?_; rintro e w8 ⟨rfl, rfl⟩)
            go_roundg (rn - (t + 1))
            case measure => omega
            case rel => exact ⟨t + 1, by omega, rfl, by go_num, BZ.out⟩
          · have BE : Hid (Below w.heap.size w wr) := below2 (below2 BT.out B6.out) hbz
            have hsub : IntKind.i64.wrap ((N : Int) + 2 - (ln : Int)) = (rn : Int) := by rw [IntKind.wrap_i64]; omega
            have hsub' : ((N : Int) + 2 - (ln : Int)) = (rn : Int) := by omega
            clear hbz hcount
            go_wp2
            go_ret
            exact ⟨rfl, BE.out⟩
      · have hl2' : ¬ L.length ≤ 2 := by rw [← HLN.out]; exact hl2
        obtain ⟨e1, e2⟩ := Pl.read_lost HGD.out.roles HK2.out hg hl2'
        have HRD : Hid (Calls Tryd.prog 13 #[.int .i64 (N : Int), .int .i64 (k : Int), .slice ga ln gc] w1 (ReadQ [] 0 60 w1)) := hread.mono fun _ _ h => h.q e2 rfl e1
        have u1 : decide (2 < ln) = true := decide_eq_true (by omega)
        have u2 : decide ((2 : Int) < (ln : Int)) = true := decide_eq_true (by omega)
        clear hread hg e1 e2 hrow hcap hl2' hl2
        go_wp2_with fail
        refine HRD.out.mono ?_
        rintro e w5 ⟨⟨ra, rc, rfl, hr⟩, b5⟩
        have B5 : Hid (Below w1.heap.size w1 w5) := b5
        clear hr b5 HRD
        go_wp2_with fail
        refine (SH.out _ (below2 BT.out B5.out)).mono ?_
        rintro e w6 ⟨rfl, b6⟩
        have B6 : Hid (Below w1.heap.size w1 w6) := below2 B5.out b6
        have BE : Hid (Below w.heap.size w w6) := below2 BT.out B6.out
        clear b6 B5
        go_wp2_with fail
        refine (HHAS.out _ _ B6.out).mono ?_
        rw [HG.out]
        rintro e w7 ⟨rfl, rfl⟩
        go_wp2
        go_ret
        exact ⟨rfl, BE.out⟩
  | true =>
    by_cases h2 : ln = 2
    · have t2 : ((ln : Int) == 2) = true := by rw [h2]; rfl
      subst h2
      have HLT : Hid (2 = (Pl.twoT N i j).length) := HLN.out
      clear HLN
      obtain ⟨i0, q1, q2, q3, q4⟩ := info_parts (show (Tryd.prog.info? 3).map (fun i => (i.zero, i.size, i.bytes)) = some (some (.int .i64 0), 1, 8) by kernel_rfl)
      have HI0 : Hid (Tryd.prog.info? 3 = some i0 ∧ i0.zero = some (.int .i64 0) ∧ i0.size = 1 ∧ i0.bytes = 8) := ⟨q1, q2, q3, q4⟩
      clear q1 q2 q3 q4
      go_wp2_with fail
      go_loopg [12, 14] (N + 2) (fun gg s12 s14 wr => ∃ t : Nat, t ≤ N + 2 ∧ gg = N + 2 - t ∧ s14 = .int .i64 (t : Int) ∧ ∃ L ga gc ln, s12 = .slice ga ln gc ∧ ln = L.length ∧ Row15 w L (.slice ga ln gc) wr ∧ Pl.Good N L ∧ ((ln = 2 ∧ L = Pl.twoT N i j) ∨ ln = 3))
      case atStart => exact ⟨0, Nat.zero_le _, rfl, rfl, _, _, _, _, rfl, HLT.out, HROW1.out, HGD.out, .inl ⟨rfl, rfl⟩⟩
      case round =>
        obtain ⟨t, ht, rfl, rfl, L, ga, gc, ln, rfl, hln, hA, hgd, hor⟩ := hrel
        clear HROW1 HGD
        have HA : Hid (Row15 w L (.slice ga ln gc) wr) := hA
        have HGD : Hid (Pl.Good N L) := hgd
        have HLN : Hid (ln = L.length) := hln
        have hsz := hA.2.size
        by_cases hlt : t < N + 2
        · have hi2 : (t : Int) < (N : Int) + 2 := by omega
          rcases hor with ⟨rfl, rfl⟩ | h3
          · obtain ⟨g, hg⟩ : ∃ g, Pl.hasB (Pl.twoT N i j) (t : Int) = g := ⟨_, rfl⟩
            have ow0 := hA.1
            rw [← hln] at ow0
            obtain ⟨_, _, e', hR', _⟩ := RowI.of_owns (k := .i64) ow0
            cases e'
            have hcall := lhas15_any wr ga gc (Pl.twoT N i j) (by rw [← hln]; omega) (by rw [← hln]; exact hR') (t : Int)
            rw [← hln, hg] at hcall
            have HCALL : Hid (Calls Tryd.prog 17 #[.slice ga 2 gc, .int .i64 (t : Int)] wr fun r w' => r = .returned (.bool g) ∧ w' = wr) := hcall
            have HG : Hid (Pl.hasB (Pl.twoT N i j) (t : Int) = g) := hg
            clear hcall hg hR' hA hgd hln ow0
            cases g with
            | false =>
              have HGN : Hid (Pl.Good N (Pl.twoT N i j ++ [(t : Int)])) := Pl.good_three hn2 hn8 HLT.out.symm hlt HG.out
              have ow := HA.out.1
              rw [← HLT.out] at ow
              have OW : Hid (wr.ownsRow w.heap.size 3 1 (.slice ga 2 gc) 2 (iV15 (Pl.twoT N i j))) := ow
              obtain ⟨q1, q2, q3, q4⟩ := HI0.out
              clear ow
              go_wp2_with (first | (go_at_call 17; refine HCALL.out.mono ?_; rintro e w2 ⟨rfl, rfl⟩) | (at_builtin; refine wpList_append_own _ rfl _ _ 23 rfl w.heap.size 3 i0 (.int .i64 0) 1 8 Tryd.underlying23 q1 q2 q3 q4 rfl (by decide) (.slice ga 2 gc) 2 (iV15 (Pl.twoT N i j)) rfl (OW.out.alloc _) ⟨_, 0, none⟩ 1 1 [.int .i64 (t : Int)] rfl rfl (cell_one_new _ _ _) (by simp [Value.oneCell']) (by unfold maxLen; omega) (by omega) (by simp; omega) ?_; go_loud (intro v' w3 hown' hgrow _; have R3 := HA.out.grown HLT.out hown' hgrow; obtain ⟨g', cap', rfl⟩ := ownsRow_succ hown')))
              have h3 : 3 = (Pl.twoT N i j ++ [(t : Int)]).length := by rw [List.length_append, ← HLT.out]; rfl
              go_roundg (N + 2 - (t + 1))
              case measure => omega
              case rel => exact ⟨t + 1, by omega, rfl, by go_num, _, _, _, 3, rfl, h3, R3, HGN.out, .inr rfl⟩
            | true =>
              go_wp2_with (go_at_call 17; refine HCALL.out.mono ?_; rintro e w2 ⟨rfl, rfl⟩)
              go_roundg (N + 2 - (t + 1))
              case measure => omega
              case rel => exact ⟨t + 1, by omega, rfl, by go_num, _, _, _, 2, rfl, HLT.out, HA.out, HGD.out, .inl ⟨rfl, rfl⟩⟩
          · have HROW1 := HA
            have u0 : decide (ln < 3) = false := decide_eq_false (by omega)
            have u0' : decide ((ln : Int) < 3) = false := decide_eq_false (by omega)
            have hl3 : ln ≤ 3 := by omega
            clear hA hgd hln hlt h3
            have hrow : RowI .i64 wr ga L.length (fun j => L.getD j 0) := by
              have h := HROW1.out.1
              rw [← HLN.out] at h
              obtain ⟨a', c', e', hR', _⟩ := RowI.of_owns (k := .i64) h
              cases e'
              rw [← HLN.out]; exact hR'
            have hcap : L.length ≤ gc := by
              have h := HROW1.out.1
              rw [← HLN.out] at h
              rw [← HLN.out]
              exact ownsRow_cap h
            have HHAS : Hid (∀ W' (x : Int), Below wr.heap.size wr W' → Calls Tryd.prog 17 #[.slice ga ln gc, .int .i64 x] W' fun r w' => r = .returned (.bool (Pl.hasB L x)) ∧ w' = W') := fun W' x hW => by
              have h := lhas15_any W' ga gc L (by have := HGD.out.len; omega) (hrow.below hW) x
              rwa [← HLN.out] at h
            have hread := PS.out.read wr (HROW1.out.2) (N : Int) (k : Int) ga gc L ⟨by omega, by omega⟩ ⟨by omega, by have := HK2.out; omega⟩ hcap (by have := HGD.out.len; omega) hrow
            rw [← HLN.out] at hread
            obtain ⟨g, hg⟩ : ∃ g, Pl.hasB L (k : Int) = g := ⟨_, rfl⟩
            have HG : Hid (Pl.hasB L (k : Int) = g) := hg
            have BT : Hid (Below w.heap.size w wr) := HROW1.out.2
            cases g with
            | false =>
              obtain ⟨e1, e2⟩ := Pl.read_one HGD.out.roles HK2.out hg
              have HRD : Hid (Calls Tryd.prog 13 #[.int .i64 (N : Int), .int .i64 (k : Int), .slice ga ln gc] wr (ReadQ [(k : Int)] 1 0 wr)) := hread.mono fun _ _ h => h.q e2 rfl e1
              clear hread hg e1 e2 hrow hcap
              go_wp2_with fail
              refine HRD.out.mono ?_
              rintro e w5 ⟨⟨ra, rc, rfl, hr⟩, b5⟩
              have HR5 : Hid (RowI .i64 w5 ra 1 (fun j => [(k : Int)].getD j 0)) := hr
              have B5 : Hid (Below wr.heap.size wr w5) := b5
              clear hr b5 HRD
              go_wp2_with fail
              refine (SH.out _ (below2 BT.out B5.out)).mono ?_
              rintro e w6 ⟨rfl, b6⟩
              have HR6 : Hid (RowI .i64 w6 ra 1 (fun j => [(k : Int)].getD j 0)) := HR5.out.below b6
              have B6 : Hid (Below wr.heap.size wr w6) := below2 B5.out b6
              clear b6 B5 HR5
              go_wp2_with fail
              refine (HHAS.out _ _ B6.out).mono ?_
              rw [HG.out]
              rintro e w7 ⟨rfl, rfl⟩
              have h2 := RowI.new .i64 w7 [(k : Int)] #[.int .i64 (k : Int)] 3 rfl
              have HR7 : Hid (RowI .i64 (w7.alloc (.cells #[.int .i64 (k : Int)] 3)) (some ⟨w7.heap.size, 0, none⟩) 1 (fun j => [(k : Int)].getD j 0)) := h2
              have BN : Hid (Below w7.heap.size w7 (w7.alloc (.cells #[.int .i64 (k : Int)] 3))) := (Below.refl _ w7).alloc (Nat.le_refl _) _
              clear h2
              go_wp2_with fail
              refine (same_rows ra (some ⟨w7.heap.size, 0, none⟩) 1 rc 1 (fun j => [(k : Int)].getD j 0) (by decide) _ (HR6.out.below BN.out) HR7.out).mono ?_
              rintro e w8 ⟨rfl, b8⟩
              have B8 : Hid (Below w.heap.size w w8) := below2 (below2 BT.out B6.out) (below2 BN.out b8)
              clear b8
              go_wp2
              go_ret
              exact ⟨rfl, B8.out⟩
            | true =>
              by_cases hl2 : ln ≤ 2
              · have hl2' : L.length ≤ 2 := by rw [← HLN.out]; exact hl2
                obtain ⟨e1, e2⟩ := Pl.read_left HGD.out.roles HK2.out hg hl2'
                have hcount := HGD.out.left hl2'
                obtain ⟨rn, hrn⟩ : ∃ rn, (Pl.leftT L (N + 2)).length = rn := ⟨_, rfl⟩
                rw [hrn, ← HLN.out] at hcount
                have HRN : Hid ((Pl.leftT L (N + 2)).length = rn) := hrn
                have HRD : Hid (Calls Tryd.prog 13 #[.int .i64 (N : Int), .int .i64 (k : Int), .slice ga ln gc] wr (ReadQ (Pl.leftT L (N + 2)) rn 0 wr)) := hread.mono fun _ _ h => h.q e2 hrn e1
                have u1 : decide (2 < ln) = false := decide_eq_false (by omega)
                have u2 : decide ((2 : Int) < (ln : Int)) = false := decide_eq_false (by omega)
                clear hread hg e1 e2 hrow hcap hl2' hrn
                go_wp2_with fail
                refine HRD.out.mono ?_
                rintro e w5 ⟨⟨ra, rc, rfl, hr⟩, b5⟩
                have HR5 : Hid (RowI .i64 w5 ra rn (fun j => (Pl.leftT L (N + 2)).getD j 0)) := hr
                have B5 : Hid (Below wr.heap.size wr w5) := b5
                clear hr b5 HRD
                go_wp2_with fail
                refine (SH.out _ (below2 BT.out B5.out)).mono ?_
                rintro e w6 ⟨rfl, b6⟩
                have HR6 : Hid (RowI .i64 w6 ra rn (fun j => (Pl.leftT L (N + 2)).getD j 0)) := HR5.out.below b6
                have B6 : Hid (Below wr.heap.size wr w6) := below2 B5.out b6
                clear b6 B5 HR5
                go_wp2_with fail
                refine (HHAS.out _ _ B6.out).mono ?_
                rw [HG.out]
                rintro e w7 ⟨rfl, rfl⟩
                go_wp2_with fail
                go_loopg [17] rn (fun gg s17 wz => ∃ t : Nat, t ≤ rn ∧ gg = rn - t ∧ s17 = .int .i64 (t : Int) ∧ Below w7.heap.size w7 wz)
                case atStart => exact ⟨0, Nat.zero_le _, rfl, rfl, Below.refl _ _⟩
                case round =>
                  obtain ⟨t, ht, rfl, rfl, hbz⟩ := hrel
                  have BZ : Hid (Below w7.heap.size w7 wr) := hbz
                  by_cases hlt : t < rn
                  · obtain ⟨bb, bo, rfl, hc⟩ := HR6.out.below hbz t hlt
                    dsimp only at hc
                    have hn := Pl.left_not (L := L) (t := N + 2) (j := t) (by rw [HRN.out]; exact hlt)
                    obtain ⟨y, hy⟩ : ∃ y, y = (Pl.leftT L (N + 2)).getD t 0 := ⟨_, rfl⟩
                    rw [← hy] at hc hn
                    have hcall := HHAS.out wr y (below2 B6.out hbz)
                    rw [hn] at hcall
                    have HCALL : Hid (Calls Tryd.prog 17 #[.slice ga ln gc, .int .i64 y] wr fun r w' => r = .returned (.bool false) ∧ w' = wr) := hcall
                    clear hcall hn hy hbz
                    go_wp2_with (go_at_call 17; refine HCALL.out.mono ?_; rintro e w8 ⟨rfl, rfl⟩)
                    go_roundg (rn - (t + 1))
                    case measure => omega
                    case rel => exact ⟨t + 1, by omega, rfl, by go_num, BZ.out⟩
                  · have BE : Hid (Below w.heap.size w wr) := below2 (below2 BT.out B6.out) hbz
                    have hsub : IntKind.i64.wrap ((N : Int) + 2 - (ln : Int)) = (rn : Int) := by rw [IntKind.wrap_i64]; omega
                    have hsub' : ((N : Int) + 2 - (ln : Int)) = (rn : Int) := by omega
                    clear hbz hcount
                    go_wp2
                    go_ret
                    exact ⟨rfl, BE.out⟩
              · have hl2' : ¬ L.length ≤ 2 := by rw [← HLN.out]; exact hl2
                obtain ⟨e1, e2⟩ := Pl.read_lost HGD.out.roles HK2.out hg hl2'
                have HRD : Hid (Calls Tryd.prog 13 #[.int .i64 (N : Int), .int .i64 (k : Int), .slice ga ln gc] wr (ReadQ [] 0 60 wr)) := hread.mono fun _ _ h => h.q e2 rfl e1
                have u1 : decide (2 < ln) = true := decide_eq_true (by omega)
                have u2 : decide ((2 : Int) < (ln : Int)) = true := decide_eq_true (by omega)
                clear hread hg e1 e2 hrow hcap hl2' hl2
                go_wp2_with fail
                refine HRD.out.mono ?_
                rintro e w5 ⟨⟨ra, rc, rfl, hr⟩, b5⟩
                have B5 : Hid (Below wr.heap.size wr w5) := b5
                clear hr b5 HRD
                go_wp2_with fail
                refine (SH.out _ (below2 BT.out B5.out)).mono ?_
                rintro e w6 ⟨rfl, b6⟩
                have B6 : Hid (Below wr.heap.size wr w6) := below2 B5.out b6
                have BE : Hid (Below w.heap.size w w6) := below2 BT.out B6.out
                clear b6 B5
                go_wp2_with fail
                refine (HHAS.out _ _ B6.out).mono ?_
                rw [HG.out]
                rintro e w7 ⟨rfl, rfl⟩
                go_wp2
                go_ret
                exact ⟨rfl, BE.out⟩
        · have hi2 : ¬ (t : Int) < (N : Int) + 2 := by omega
          have HROW1 := HA
          have hl3 : ln ≤ 3 := by omega
          clear hA hgd hln hlt hor
          have hrow : RowI .i64 wr ga L.length (fun j => L.getD j 0) := by
            have h := HROW1.out.1
            rw [← HLN.out] at h
            obtain ⟨a', c', e', hR', _⟩ := RowI.of_owns (k := .i64) h
            cases e'
            rw [← HLN.out]; exact hR'
          have hcap : L.length ≤ gc := by
            have h := HROW1.out.1
            rw [← HLN.out] at h
            rw [← HLN.out]
            exact ownsRow_cap h
          have HHAS : Hid (∀ W' (x : Int), Below wr.heap.size wr W' → Calls Tryd.prog 17 #[.slice ga ln gc, .int .i64 x] W' fun r w' => r = .returned (.bool (Pl.hasB L x)) ∧ w' = W') := fun W' x hW => by
            have h := lhas15_any W' ga gc L (by have := HGD.out.len; omega) (hrow.below hW) x
            rwa [← HLN.out] at h
          have hread := PS.out.read wr (HROW1.out.2) (N : Int) (k : Int) ga gc L ⟨by omega, by omega⟩ ⟨by omega, by have := HK2.out; omega⟩ hcap (by have := HGD.out.len; omega) hrow
          rw [← HLN.out] at hread
          obtain ⟨g, hg⟩ : ∃ g, Pl.hasB L (k : Int) = g := ⟨_, rfl⟩
          have HG : Hid (Pl.hasB L (k : Int) = g) := hg
          have BT : Hid (Below w.heap.size w wr) := HROW1.out.2
          cases g with
          | false =>
            obtain ⟨e1, e2⟩ := Pl.read_one HGD.out.roles HK2.out hg
            have HRD : Hid (Calls Tryd.prog 13 #[.int .i64 (N : Int), .int .i64 (k : Int), .slice ga ln gc] wr (ReadQ [(k : Int)] 1 0 wr)) := hread.mono fun _ _ h => h.q e2 rfl e1
            clear hread hg e1 e2 hrow hcap
            go_wp2_with fail
            refine HRD.out.mono ?_
            rintro e w5 ⟨⟨ra, rc, rfl, hr⟩, b5⟩
            have HR5 : Hid (RowI .i64 w5 ra 1 (fun j => [(k : Int)].getD j 0)) := hr
            have B5 : Hid (Below wr.heap.size wr w5) := b5
            clear hr b5 HRD
            go_wp2_with fail
            refine (SH.out _ (below2 BT.out B5.out)).mono ?_
            rintro e w6 ⟨rfl, b6⟩
            have HR6 : Hid (RowI .i64 w6 ra 1 (fun j => [(k : Int)].getD j 0)) := HR5.out.below b6
            have B6 : Hid (Below wr.heap.size wr w6) := below2 B5.out b6
            clear b6 B5 HR5
            go_wp2_with fail
            refine (HHAS.out _ _ B6.out).mono ?_
            rw [HG.out]
            rintro e w7 ⟨rfl, rfl⟩
            have h2 := RowI.new .i64 w7 [(k : Int)] #[.int .i64 (k : Int)] 3 rfl
            have HR7 : Hid (RowI .i64 (w7.alloc (.cells #[.int .i64 (k : Int)] 3)) (some ⟨w7.heap.size, 0, none⟩) 1 (fun j => [(k : Int)].getD j 0)) := h2
            have BN : Hid (Below w7.heap.size w7 (w7.alloc (.cells #[.int .i64 (k : Int)] 3))) := (Below.refl _ w7).alloc (Nat.le_refl _) _
            clear h2
            go_wp2_with fail
            refine (same_rows ra (some ⟨w7.heap.size, 0, none⟩) 1 rc 1 (fun j => [(k : Int)].getD j 0) (by decide) _ (HR6.out.below BN.out) HR7.out).mono ?_
            rintro e w8 ⟨rfl, b8⟩
            have B8 : Hid (Below w.heap.size w w8) := below2 (below2 BT.out B6.out) (below2 BN.out b8)
            clear b8
            go_wp2
            go_ret
            exact ⟨rfl, B8.out⟩
          | true =>
            by_cases hl2 : ln ≤ 2
            · have hl2' : L.length ≤ 2 := by rw [← HLN.out]; exact hl2
              obtain ⟨e1, e2⟩ := Pl.read_left HGD.out.roles HK2.out hg hl2'
              have hcount := HGD.out.left hl2'
              obtain ⟨rn, hrn⟩ : ∃ rn, (Pl.leftT L (N + 2)).length = rn := ⟨_, rfl⟩
              rw [hrn, ← HLN.out] at hcount
              have HRN : Hid ((Pl.leftT L (N + 2)).length = rn) := hrn
              have HRD : Hid (Calls Tryd.prog 13 #[.int .i64 (N : Int), .int .i64 (k : Int), .slice ga ln gc] wr (ReadQ (Pl.leftT L (N + 2)) rn 0 wr)) := hread.mono fun _ _ h => h.q e2 hrn e1
              have u1 : decide (2 < ln) = false := decide_eq_false (by omega)
              have u2 : decide ((2 : Int) < (ln : Int)) = false := decide_eq_false (by omega)
              clear hread hg e1 e2 hrow hcap hl2' hrn
              go_wp2_with fail
              refine HRD.out.mono ?_
              rintro e w5 ⟨⟨ra, rc, rfl, hr⟩, b5⟩
              have HR5 : Hid (RowI .i64 w5 ra rn (fun j => (Pl.leftT L (N + 2)).getD j 0)) := hr
              have B5 : Hid (Below wr.heap.size wr w5) := b5
              clear hr b5 HRD
              go_wp2_with fail
              refine (SH.out _ (below2 BT.out B5.out)).mono ?_
              rintro e w6 ⟨rfl, b6⟩
              have HR6 : Hid (RowI .i64 w6 ra rn (fun j => (Pl.leftT L (N + 2)).getD j 0)) := HR5.out.below b6
              have B6 : Hid (Below wr.heap.size wr w6) := below2 B5.out b6
              clear b6 B5 HR5
              go_wp2_with fail
              refine (HHAS.out _ _ B6.out).mono ?_
              rw [HG.out]
              rintro e w7 ⟨rfl, rfl⟩
              go_wp2_with fail
              go_loopg [17] rn (fun gg s17 wz => ∃ t : Nat, t ≤ rn ∧ gg = rn - t ∧ s17 = .int .i64 (t : Int) ∧ Below w7.heap.size w7 wz)
              case atStart => exact ⟨0, Nat.zero_le _, rfl, rfl, Below.refl _ _⟩
              case round =>
                obtain ⟨t, ht, rfl, rfl, hbz⟩ := hrel
                have BZ : Hid (Below w7.heap.size w7 wr) := hbz
                by_cases hlt : t < rn
                · obtain ⟨bb, bo, rfl, hc⟩ := HR6.out.below hbz t hlt
                  dsimp only at hc
                  have hn := Pl.left_not (L := L) (t := N + 2) (j := t) (by rw [HRN.out]; exact hlt)
                  obtain ⟨y, hy⟩ : ∃ y, y = (Pl.leftT L (N + 2)).getD t 0 := ⟨_, rfl⟩
                  rw [← hy] at hc hn
                  have hcall := HHAS.out wr y (below2 B6.out hbz)
                  rw [hn] at hcall
                  have HCALL : Hid (Calls Tryd.prog 17 #[.slice ga ln gc, .int .i64 y] wr fun r w' => r = .returned (.bool false) ∧ w' = wr) := hcall
                  clear hcall hn hy hbz
                  go_wp2_with (go_at_call 17; refine HCALL.out.mono ?_; rintro e w8 ⟨rfl, rfl⟩)
                  go_roundg (rn - (t + 1))
                  case measure => omega
                  case rel => exact ⟨t + 1, by omega, rfl, by go_num, BZ.out⟩
                · have BE : Hid (Below w.heap.size w wr) := below2 (below2 BT.out B6.out) hbz
                  have hsub : IntKind.i64.wrap ((N : Int) + 2 - (ln : Int)) = (rn : Int) := by rw [IntKind.wrap_i64]; omega
                  have hsub' : ((N : Int) + 2 - (ln : Int)) = (rn : Int) := by omega
                  clear hbz hcount
                  go_wp2
                  go_ret
                  exact ⟨rfl, BE.out⟩
            · have hl2' : ¬ L.length ≤ 2 := by rw [← HLN.out]; exact hl2
              obtain ⟨e1, e2⟩ := Pl.read_lost HGD.out.roles HK2.out hg hl2'
              have HRD : Hid (Calls Tryd.prog 13 #[.int .i64 (N : Int), .int .i64 (k : Int), .slice ga ln gc] wr (ReadQ [] 0 60 wr)) := hread.mono fun _ _ h => h.q e2 rfl e1
              have u1 : decide (2 < ln) = true := decide_eq_true (by omega)
              have u2 : decide ((2 : Int) < (ln : Int)) = true := decide_eq_true (by omega)
              clear hread hg e1 e2 hrow hcap hl2' hl2
              go_wp2_with fail
              refine HRD.out.mono ?_
              rintro e w5 ⟨⟨ra, rc, rfl, hr⟩, b5⟩
              have B5 : Hid (Below wr.heap.size wr w5) := b5
              clear hr b5 HRD
              go_wp2_with fail
              refine (SH.out _ (below2 BT.out B5.out)).mono ?_
              rintro e w6 ⟨rfl, b6⟩
              have B6 : Hid (Below wr.heap.size wr w6) := below2 B5.out b6
              have BE : Hid (Below w.heap.size w w6) := below2 BT.out B6.out
              clear b6 B5
              go_wp2_with fail
              refine (HHAS.out _ _ B6.out).mono ?_
              rw [HG.out]
              rintro e w7 ⟨rfl, rfl⟩
              go_wp2
              go_ret
              exact ⟨rfl, BE.out⟩
    · have t2 : ((ln : Int) == 2) = false := by rw [beq_eq_false_iff_ne]; omega
      obtain ⟨L, hL⟩ : ∃ L, L = Pl.twoT N i j := ⟨_, rfl⟩
      rw [← hL] at HGD HLN HROW1
      clear hL
      have hrow : RowI .i64 w1 ga L.length (fun j => L.getD j 0) := by
        have h := HROW1.out.1
        rw [← HLN.out] at h
        obtain ⟨a', c', e', hR', _⟩ := RowI.of_owns (k := .i64) h
        cases e'
        rw [← HLN.out]; exact hR'
      have hcap : L.length ≤ gc := by
        have h := HROW1.out.1
        rw [← HLN.out] at h
        rw [← HLN.out]
        exact ownsRow_cap h
      have HHAS : Hid (∀ W' (x : Int), Below w1.heap.size w1 W' → Calls Tryd.prog 17 #[.slice ga ln gc, .int .i64 x] W' fun r w' => r = .returned (.bool (Pl.hasB L x)) ∧ w' = W') := fun W' x hW => by
        have h := lhas15_any W' ga gc L (by have := HGD.out.len; omega) (hrow.below hW) x
        rwa [← HLN.out] at h
      have hread := PS.out.read w1 (HROW1.out.2) (N : Int) (k : Int) ga gc L ⟨by omega, by omega⟩ ⟨by omega, by have := HK2.out; omega⟩ hcap (by have := HGD.out.len; omega) hrow
      rw [← HLN.out] at hread
      obtain ⟨g, hg⟩ : ∃ g, Pl.hasB L (k : Int) = g := ⟨_, rfl⟩
      have HG : Hid (Pl.hasB L (k : Int) = g) := hg
      have BT : Hid (Below w.heap.size w w1) := HROW1.out.2
      cases g with
      | false =>
        obtain ⟨e1, e2⟩ := Pl.read_one HGD.out.roles HK2.out hg
        have HRD : Hid (Calls Tryd.prog 13 #[.int .i64 (N : Int), .int .i64 (k : Int), .slice ga ln gc] w1 (ReadQ [(k : Int)] 1 0 w1)) := hread.mono fun _ _ h => h.q e2 rfl e1
        clear hread hg e1 e2 hrow hcap
        go_wp2_with fail
        refine HRD.out.mono ?_
        rintro e w5 ⟨⟨ra, rc, rfl, hr⟩, b5⟩
        have HR5 : Hid (RowI .i64 w5 ra 1 (fun j => [(k : Int)].getD j 0)) := hr
        have B5 : Hid (Below w1.heap.size w1 w5) := b5
        clear hr b5 HRD
        go_wp2_with fail
        refine (SH.out _ (below2 BT.out B5.out)).mono ?_
        rintro e w6 ⟨rfl, b6⟩
        have HR6 : Hid (RowI .i64 w6 ra 1 (fun j => [(k : Int)].getD j 0)) := HR5.out.below b6
        have B6 : Hid (Below w1.heap.size w1 w6) := below2 B5.out b6
        clear b6 B5 HR5
        go_wp2_with fail
        refine (HHAS.out _ _ B6.out).mono ?_
        rw [HG.out]
        rintro e w7 ⟨rfl, rfl⟩
        have h2 := RowI.new .i64 w7 [(k : Int)] #[.int .i64 (k : Int)] 3 rfl
        have HR7 : Hid (RowI .i64 (w7.alloc (.cells #[.int .i64 (k : Int)] 3)) (some ⟨w7.heap.size, 0, none⟩) 1 (fun j => [(k : Int)].getD j 0)) := h2
        have BN : Hid (Below w7.heap.size w7 (w7.alloc (.cells #[.int .i64 (k : Int)] 3))) := (Below.refl _ w7).alloc (Nat.le_refl _) _
        clear h2
        go_wp2_with fail
        refine (same_rows ra (some ⟨w7.heap.size, 0, none⟩) 1 rc 1 (fun j => [(k : Int)].getD j 0) (by decide) _ (HR6.out.below BN.out) HR7.out).mono ?_
        rintro e w8 ⟨rfl, b8⟩
        have B8 : Hid (Below w.heap.size w w8) := below2 (below2 BT.out B6.out) (below2 BN.out b8)
        clear b8
        go_wp2
        go_ret
        exact ⟨rfl, B8.out⟩
      | true =>
        by_cases hl2 : ln ≤ 2
        · have hl2' : L.length ≤ 2 := by rw [← HLN.out]; exact hl2
          obtain ⟨e1, e2⟩ := Pl.read_left HGD.out.roles HK2.out hg hl2'
          have hcount := HGD.out.left hl2'
          obtain ⟨rn, hrn⟩ : ∃ rn, (Pl.leftT L (N + 2)).length = rn := ⟨_, rfl⟩
          rw [hrn, ← HLN.out] at hcount
          have HRN : Hid ((Pl.leftT L (N + 2)).length = rn) := hrn
          have HRD : Hid (Calls Tryd.prog 13 #[.int .i64 (N : Int), .int .i64 (k : Int), .slice ga ln gc] w1 (ReadQ (Pl.leftT L (N + 2)) rn 0 w1)) := hread.mono fun _ _ h => h.q e2 hrn e1
          have u1 : decide (2 < ln) = false := decide_eq_false (by omega)
          have u2 : decide ((2 : Int) < (ln : Int)) = false := decide_eq_false (by omega)
          clear hread hg e1 e2 hrow hcap hl2' hrn
          go_wp2_with fail
          refine HRD.out.mono ?_
          rintro e w5 ⟨⟨ra, rc, rfl, hr⟩, b5⟩
          have HR5 : Hid (RowI .i64 w5 ra rn (fun j => (Pl.leftT L (N + 2)).getD j 0)) := hr
          have B5 : Hid (Below w1.heap.size w1 w5) := b5
          clear hr b5 HRD
          go_wp2_with fail
          refine (SH.out _ (below2 BT.out B5.out)).mono ?_
          rintro e w6 ⟨rfl, b6⟩
          have HR6 : Hid (RowI .i64 w6 ra rn (fun j => (Pl.leftT L (N + 2)).getD j 0)) := HR5.out.below b6
          have B6 : Hid (Below w1.heap.size w1 w6) := below2 B5.out b6
          clear b6 B5 HR5
          go_wp2_with fail
          refine (HHAS.out _ _ B6.out).mono ?_
          rw [HG.out]
          rintro e w7 ⟨rfl, rfl⟩
          go_wp2_with fail
          go_loopg [17] rn (fun gg s17 wz => ∃ t : Nat, t ≤ rn ∧ gg = rn - t ∧ s17 = .int .i64 (t : Int) ∧ Below w7.heap.size w7 wz)
          case atStart => exact ⟨0, Nat.zero_le _, rfl, rfl, Below.refl _ _⟩
          case round =>
            obtain ⟨t, ht, rfl, rfl, hbz⟩ := hrel
            have BZ : Hid (Below w7.heap.size w7 wr) := hbz
            by_cases hlt : t < rn
            · obtain ⟨bb, bo, rfl, hc⟩ := HR6.out.below hbz t hlt
              dsimp only at hc
              have hn := Pl.left_not (L := L) (t := N + 2) (j := t) (by rw [HRN.out]; exact hlt)
              obtain ⟨y, hy⟩ : ∃ y, y = (Pl.leftT L (N + 2)).getD t 0 := ⟨_, rfl⟩
              rw [← hy] at hc hn
              have hcall := HHAS.out wr y (below2 B6.out hbz)
              rw [hn] at hcall
              have HCALL : Hid (Calls Tryd.prog 17 #[.slice ga ln gc, .int .i64 y] wr fun r w' => r = .returned (.bool false) ∧ w' = wr) := hcall
              clear hcall hn hy hbz
              go_wp2_with (go_at_call 17; refine HCALL.out.mono ?_; rintro e w8 ⟨rfl, rfl⟩)
              go_roundg (rn - (t + 1))
              case measure => omega
              case rel => exact ⟨t + 1, by omega, rfl, by go_num, BZ.out⟩
            · have BE : Hid (Below w.heap.size w wr) := below2 (below2 BT.out B6.out) hbz
              have hsub : IntKind.i64.wrap ((N : Int) + 2 - (ln : Int)) = (rn : Int) := by rw [IntKind.wrap_i64]; omega
              have hsub' : ((N : Int) + 2 - (ln : Int)) = (rn : Int) := by omega
              clear hbz hcount
              go_wp2
              go_ret
              exact ⟨rfl, BE.out⟩
        · have hl2' : ¬ L.length ≤ 2 := by rw [← HLN.out]; exact hl2
          obtain ⟨e1, e2⟩ := Pl.read_lost HGD.out.roles HK2.out hg hl2'
          have HRD : Hid (Calls Tryd.prog 13 #[.int .i64 (N : Int), .int .i64 (k : Int), .slice ga ln gc] w1 (ReadQ [] 0 60 w1)) := hread.mono fun _ _ h => h.q e2 rfl e1
          have u1 : decide (2 < ln) = true := decide_eq_true (by omega)
          have u2 : decide ((2 : Int) < (ln : Int)) = true := decide_eq_true (by omega)
          clear hread hg e1 e2 hrow hcap hl2' hl2
          go_wp2_with fail
          refine HRD.out.mono ?_
          rintro e w5 ⟨⟨ra, rc, rfl, hr⟩, b5⟩
          have B5 : Hid (Below w1.heap.size w1 w5) := b5
          clear hr b5 HRD
          go_wp2_with fail
          refine (SH.out _ (below2 BT.out B5.out)).mono ?_
          rintro e w6 ⟨rfl, b6⟩
          have B6 : Hid (Below w1.heap.size w1 w6) := below2 B5.out b6
          have BE : Hid (Below w.heap.size w w6) := below2 BT.out B6.out
          clear b6 B5
          go_wp2_with fail
          refine (HHAS.out _ _ B6.out).mono ?_
          rw [HG.out]
          rintro e w7 ⟨rfl, rfl⟩
          go_wp2
          go_ret
          exact ⟨rfl, BE.out⟩

theorem walk_of (w : World) (PS : PlanSays w) (a0 : Int) (w0 : (Lit.int .u8 a0).wf = true) (a1 : Int) (w1 : (Lit.int .u8 a1).wf = true) (a2 : Int) (w2 : (Lit.int .u8 a2).wf = true) (a3 : Int) (w3 : (Lit.int .u8 a3).wf = true) (a4 : Bool) :
    Calls Tryd.prog 6 #[.int .u8 a0, .int .u8 a1, .int .u8 a2, .int .u8 a3, .bool a4] w fun e w' => e = .returned (.bool true) ∧ Below w.heap.size w w' := by
  have h0 := bounds_u8 w0
  have h1 := bounds_u8 w1
  have h2 := bounds_u8 w2
  have h3 := bounds_u8 w3
  obtain ⟨A, rfl⟩ : ∃ A : Nat, a0 = (A : Int) := ⟨a0.toNat, by omega⟩
  obtain ⟨R, rfl⟩ : ∃ R : Nat, a1 = (R : Int) := ⟨a1.toNat, by omega⟩
  obtain ⟨C, rfl⟩ : ∃ C : Nat, a2 = (C : Int) := ⟨a2.toNat, by omega⟩
  obtain ⟨D, rfl⟩ : ∃ D : Nat, a3 = (D : Int) := ⟨a3.toNat, by omega⟩
  have tm : ∀ x y : Nat, (x : Int).tmod ((2 + A % 7 : Nat) + (y : Int)) = ((x % (2 + A % 7 + y) : Nat) : Int) := fun x y => by
    rw [Int.tmod_eq_emod_of_nonneg (by omega), ← Int.natCast_add, ← Int.natCast_emod]
  exact core PS A R C D (A % 7) (2 + A % 7) (R % (2 + A % 7 + 2)) (C % (2 + A % 7 + 3)) (D % (2 + A % 7 + 3)) (by rw [Int.tmod_eq_emod_of_nonneg (by omega)]; omega) (by omega) (by omega) (by omega) (by omega) (by omega) (by omega) (by omega)
    (tm R 2) (Nat.mod_lt _ (by omega)) (tm C 3) (tm D 3) a4
end Go.Proofs.YtlkbdhejfmljlaaDoor.planRead
