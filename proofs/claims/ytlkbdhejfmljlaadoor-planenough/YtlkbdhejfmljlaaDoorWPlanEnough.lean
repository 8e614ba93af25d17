/- PlanEnough. -/
import Derived.Test.YtlkbdhejfmljlaaDoorPlEnough
import Derived.Deep.CutBlock
import Derived.OpenShut
namespace Go.Proofs.YtlkbdhejfmljlaaDoor.planEnough
open Go.RowKit
attribute [local go_sem] Oper.semAt_some

/-- what the statement's own row says -/
def wr15 (m : Nat) (B : Nat → Bool) (i : Nat) : Bool := decide (i < m) && B i

set_option maxRecDepth 100000 in
set_option maxHeartbeats 16000000 in
theorem core {w : World} (PS0 : PlanSays w) (A C D q N i j : Nat) (hA : (A : Int).tmod 7 = (q : Int)) (hqn : (2 : Int) + (q : Int) = (N : Int)) (hn2 : 2 ≤ N) (hn8 : N ≤ 8) (hA8 : A < 256) (hC8 : C < 256) (hD8 : D < 256)
    (hCi : (C : Int).tmod ((N : Int) + 3) = (i : Int)) (hDj : (D : Int).tmod ((N : Int) + 3) = (j : Int)) (a1 : Option Addr) (m1 k1 : Nat) (B : Nat → Bool) (hm1 : m1 ≤ maxLen) (hB : RowB w a1 m1 B) :
    Calls Tryd.prog 5 #[.int .u8 (A : Nat), .slice a1 m1 k1, .int .u8 (C : Nat), .int .u8 (D : Nat)] w fun e w' => e = .returned (.bool true) ∧ Below w.heap.size w w' := by
  have SH : Hid (∀ W, Below w.heap.size w W → Calls Tryd.prog 8 #[] W fun e w' => e = .returned (.bool true) ∧ Below W.heap.size W w') := fun W hW => shown15_any PS0 W hW
  have PS : Hid (PlanSays w) := PS0
  have HTWO : Hid (∀ W, Calls Tryd.prog 16 #[.int .i64 (N : Int), .int .u8 (C : Nat), .int .u8 (D : Nat)] W fun r w' => ∃ v, r = .returned v ∧ Row15 W (Pl.twoT N i j) v w') := fun W => two15_any W N hn2 hn8 C D i j hC8 hD8 hCi hDj
  obtain ⟨hgood, hlen2⟩ := Pl.good_two (i := i) (k := j) hn2 hn8
  have HASK : Hid (Pl.Enough N (wr15 m1 B) (Pl.twoT N i j)) := Pl.enough hgood.roles hlen2
  have HLEN2 : Hid ((Pl.twoT N i j).length ≤ 2) := hlen2
  have HBR : Hid (∀ W, Below w.heap.size w W → RowB W a1 m1 B) := fun W hW => hB.below hW
  obtain ⟨i0, q1, q2, q3, q4⟩ := info_parts (show (Tryd.prog.info? 4).map (fun i => (i.zero, i.size, i.bytes)) = some (some (.bool false), 1, 1) by kernel_rfl)
  have HI0 : Hid (Tryd.prog.info? 4 = some i0 ∧ i0.zero = some (.bool false) ∧ i0.size = 1 ∧ i0.bytes = 1) := ⟨q1, q2, q3, q4⟩
  have A0 : Hid (RowO w (wr15 m1 B) 0 (.slice (some ⟨w.heap.size, 0, none⟩) 0 0) (w.alloc (.cells #[] 4))) := RowO.made _ _
  have hm1' : m1 ≤ 9223372036854775807 := by unfold maxLen at hm1; omega
  clear PS0 hgood hlen2 hCi hDj hB hm1 q1 q2 q3 q4
  go_enter Tryd.func5, Tryd.ntmps5
  go_wp2_with fail
  go_loopg [10, 11, 12] N (fun gg s10 s11 s12 wr => ∃ t : Nat, t ≤ N ∧ gg = N - t ∧ s12 = .int .i64 (t : Int) ∧ s11 = .bool (Pl.anyT N (wr15 m1 B) t) ∧ RowO w (wr15 m1 B) t s10 wr)
  case atStart => exact ⟨0, Nat.zero_le _, rfl, rfl, rfl, A0.out⟩
  case round =>
    obtain ⟨t, ht, rfl, rfl, rfl, hA⟩ := hrel
    clear A0
    have IS := Pl.anyT_succ (N := N) (B := wr15 m1 B) t
    obtain ⟨s, hs⟩ : ∃ s, s = Pl.anyT N (wr15 m1 B) t := ⟨_, rfl⟩
    have HIS : Hid (s = Pl.anyT N (wr15 m1 B) t) := hs
    rw [← hs] at IS ⊢
    clear hs
    obtain ⟨v, hv⟩ : ∃ v, v = u10 := ⟨u10, rfl⟩
    subst hv
    have HA : Hid (RowO w (wr15 m1 B) t v wr) := hA
    have hsz := hA.2.size
    by_cases hlt : t < N
    · have hi2 : (t : Int) < (N : Int) := by omega
      rw [decide_eq_true hlt] at IS
      obtain ⟨q1, q2, q3, q4⟩ := HI0.out
      by_cases htm : t < m1
      · obtain ⟨bb, bo, rfl, hcb⟩ := HBR.out wr hA.2 t htm
        obtain ⟨bi, hbi⟩ : ∃ bi, bi = B t := ⟨_, rfl⟩
        rw [← hbi] at hcb
        have hb : Hid (wr15 m1 B t = bi) := by show _ = _; unfold wr15; rw [decide_eq_true htm, ← hbi]; rfl
        have u1 : decide ((t : Int) < (m1 : Int)) = true := decide_eq_true (by omega)
        have u2 : decide (t < m1) = true := decide_eq_true htm
        clear hA hbi
        rw [hb.out] at IS
        have HS1 : Hid (Pl.anyT N (wr15 m1 B) (t + 1) = (s || (true && bi))) := IS
        clear IS
        cases s with
        | true =>
          go_wp2_with (at_builtin; refine wpList_append_own _ rfl _ _ 22 rfl w.heap.size 4 i0 (.bool false) 1 1 Tryd.underlying22 q1 q2 q3 q4 rfl (by decide) v t (bV (wr15 m1 B) t) rfl (HA.out.1.alloc _) ⟨wr.heap.size, 0, none⟩ 1 1 [.bool bi] rfl rfl (cell_one_new _ _ _) (by simp [Value.oneCell']) (by unfold maxLen; omega) (by omega) (by simp; omega) ?_; go_loud (intro v' w1 hown' hgrow _; have R1 := HA.out.grown hb.out hown' hgrow; obtain ⟨g', cap', rfl⟩ := ownsRow_succ hown'; obtain ⟨_, _, en, hcn⟩ := R1.rowB.1 t (Nat.lt_succ_self t); cases en; rw [hb.out, Nat.zero_add] at hcn))
          go_roundg (N - (t + 1))
          case measure => omega
          case rel => exact ⟨t + 1, by omega, rfl, by go_num, by rw [HS1.out]; rfl, R1⟩
        | false =>
          go_wp2_with (at_builtin; refine wpList_append_own _ rfl _ _ 22 rfl w.heap.size 4 i0 (.bool false) 1 1 Tryd.underlying22 q1 q2 q3 q4 rfl (by decide) v t (bV (wr15 m1 B) t) rfl (HA.out.1.alloc _) ⟨wr.heap.size, 0, none⟩ 1 1 [.bool bi] rfl rfl (cell_one_new _ _ _) (by simp [Value.oneCell']) (by unfold maxLen; omega) (by omega) (by simp; omega) ?_; go_loud (intro v' w1 hown' hgrow _; have R1 := HA.out.grown hb.out hown' hgrow; obtain ⟨g', cap', rfl⟩ := ownsRow_succ hown'; obtain ⟨_, _, en, hcn⟩ := R1.rowB.1 t (Nat.lt_succ_self t); cases en; rw [hb.out, Nat.zero_add] at hcn))
          go_roundg (N - (t + 1))
          case measure => omega
          case rel => exact ⟨t + 1, by omega, rfl, by go_num, by rw [HS1.out]; simp, R1⟩
      · have hb : Hid (wr15 m1 B t = false) := by show _ = _; unfold wr15; rw [decide_eq_false htm]; rfl
        have u1 : decide ((t : Int) < (m1 : Int)) = false := decide_eq_false (by omega)
        have u2 : decide (t < m1) = false := decide_eq_false htm
        clear htm hA
        rw [hb.out] at IS
        have HS1 : Hid (Pl.anyT N (wr15 m1 B) (t + 1) = (s || (true && false))) := IS
        clear IS
        cases s with
        | true =>
          go_wp2_with (at_builtin; refine wpList_append_own _ rfl _ _ 22 rfl w.heap.size 4 i0 (.bool false) 1 1 Tryd.underlying22 q1 q2 q3 q4 rfl (by decide) v t (bV (wr15 m1 B) t) rfl (HA.out.1.alloc _) ⟨wr.heap.size, 0, none⟩ 1 1 [.bool false] rfl rfl (cell_one_new _ _ _) (by simp [Value.oneCell']) (by unfold maxLen; omega) (by omega) (by simp; omega) ?_; go_loud (intro v' w1 hown' hgrow _; have R1 := HA.out.grown hb.out hown' hgrow; obtain ⟨g', cap', rfl⟩ := ownsRow_succ hown'; obtain ⟨_, _, en, hcn⟩ := R1.rowB.1 t (Nat.lt_succ_self t); cases en; rw [hb.out, Nat.zero_add] at hcn))
          go_roundg (N - (t + 1))
          case measure => omega
          case rel => exact ⟨t + 1, by omega, rfl, by go_num, by rw [HS1.out]; rfl, R1⟩
        | false =>
          go_wp2_with (at_builtin; refine wpList_append_own _ rfl _ _ 22 rfl w.heap.size 4 i0 (.bool false) 1 1 Tryd.underlying22 q1 q2 q3 q4 rfl (by decide) v t (bV (wr15 m1 B) t) rfl (HA.out.1.alloc _) ⟨wr.heap.size, 0, none⟩ 1 1 [.bool false] rfl rfl (cell_one_new _ _ _) (by simp [Value.oneCell']) (by unfold maxLen; omega) (by omega) (by simp; omega) ?_; go_loud (intro v' w1 hown' hgrow _; have R1 := HA.out.grown hb.out hown' hgrow; obtain ⟨g', cap', rfl⟩ := ownsRow_succ hown'; obtain ⟨_, _, en, hcn⟩ := R1.rowB.1 t (Nat.lt_succ_self t); cases en; rw [hb.out, Nat.zero_add] at hcn))
          go_roundg (N - (t + 1))
          case measure => omega
          case rel => exact ⟨t + 1, by omega, rfl, by go_num, by rw [HS1.out]; simp, R1⟩
    · have hi2 : ¬ (t : Int) < (N : Int) := by omega
      have htN : t = N := by omega
      rw [htN] at HA hA HIS
      clear IS
      obtain ⟨ga, gc, hgv⟩ := hA.head
      obtain ⟨f, hf⟩ : ∃ f, f = wr15 m1 B := ⟨_, rfl⟩
      rw [← hf] at HASK HA hA HIS
      subst hgv
      obtain ⟨hrow, hcap⟩ := hA.rowB
      have HROW : Hid (RowB wr ga N f ∧ N ≤ gc) := ⟨hrow, hcap⟩
      have BR : Hid (Below w.heap.size w wr) := hA.2
      clear hA HA hrow hcap hlt ht htN hf HBR HI0 hm1' hsz
      go_wp2_with fail
      refine (HTWO.out _).mono ?_
      rintro e w1 ⟨v, rfl, hrow1⟩
      obtain ⟨L, hL⟩ : ∃ L, L = Pl.twoT N i j := ⟨_, rfl⟩
      rw [← hL] at HASK HLEN2 hrow1
      obtain ⟨ln, hln⟩ : ∃ ln, ln = L.length := ⟨_, rfl⟩
      have HLN : Hid (ln = L.length) := hln
      have ow := hrow1.1
      rw [← hln] at ow
      obtain ⟨la, lc, rfl, hLR, _⟩ := RowI.of_owns (k := .i64) ow
      have hLc := ownsRow_cap ow
      have HL1 : Hid (RowI .i64 w1 la ln (fun j => L.getD j 0) ∧ ln ≤ lc) := ⟨hLR, hLc⟩
      have B1 : Hid (Below wr.heap.size wr w1) := hrow1.2
      have hRB1 := HROW.out.1.below hrow1.2
      have hch := PS.out.choose w1 (below2 BR.out hrow1.2) (N : Int) ga N gc f ⟨by omega, by omega⟩ (by omega) HROW.out.2 hRB1 la lc L (by rw [← hln]; exact hLc) (by have := HLEN2.out; omega) (by rw [← hln]; exact hLR)
      rw [← hln] at hch
      obtain ⟨cw, hcw⟩ : ∃ cw, Pl.chooseW (N : Int) N f L = cw := ⟨_, rfl⟩
      obtain ⟨cr, hcr⟩ : ∃ cr, Pl.chooseR (N : Int) N f L = cr := ⟨_, rfl⟩
      obtain ⟨cp, hcp⟩ : ∃ cp, Pl.chooseP (N : Int) N f L = cp := ⟨_, rfl⟩
      obtain ⟨rn, hrn⟩ : ∃ rn, cr.length = rn := ⟨_, rfl⟩
      obtain ⟨pn, hpn⟩ : ∃ pn, cp.length = pn := ⟨_, rfl⟩
      have HCH : Hid (Calls Tryd.prog 9 #[.int .i64 (N : Int), .slice ga N gc, .slice la ln lc] w1 (ChooseQ cw cr cp rn pn 0 w1)) := hch.mono fun _ _ h => h.q hcw hcr hcp hrn hpn HASK.out.err
      obtain ⟨_, k1, k2, k3, k4⟩ := HASK.out
      obtain ⟨l1, l2⟩ := Pl.short (n := (N : Int)) (m := N) (B := f) (L := L)
      rw [hcr, hrn] at l1
      rw [hcp, hpn] at l2
      rw [hcw, hcr, hcp, ← HIS.out] at k1
      rw [hcw, ← HIS.out] at k2
      rw [hcr, ← HIS.out] at k3
      rw [hcp, ← HIS.out] at k4
      have K1 : Hid (s = false → cw = 0 ∧ rn = 0 ∧ pn = 0) := fun e => ⟨(k1 e).1, by rw [← hrn, (k1 e).2.1]; rfl, by rw [← hpn, (k1 e).2.2]; rfl⟩
      have K2 : Hid (s = true → cw ≠ 0) := k2
      have K3 : Hid (s = true → ((((List.range (N + 2)).all (Pl.othB N f cr) || (List.range (N + 2)).all (Pl.ownB N f L cr)) || (List.range (N + 2)).all (Pl.allB L cr)) || (Pl.gone L N && Pl.gone L (N + 1))) = true) := k3
      have K4 : Hid (s = true → ∀ i, i < N + 2 → Pl.gone L i = false → (i < N → f i = true) → Pl.hasB cp (i : Int) = true) := k4
      have HRN : Hid (cr.length = rn) := hrn
      have HPN : Hid (cp.length = pn) := hpn
      clear k1 k2 k3 k4 hch hcw hcr hcp hrn hpn hRB1 hLR hLc ow hrow1 hln hL HASK HTWO
      go_wp2_with fail
      refine HCH.out.mono ?_
      rintro e w2 ⟨⟨ar, kr, aw, kw, rfl, hr, hw⟩, b2⟩
      have x13 := Box15.new w2 26 (.int .i64 cw) (.slice ar rn kr) (.slice aw pn kw)
      have ba : Below w2.heap.size w2 (w2.alloc (.cells #[.int .i64 cw, .slice ar rn kr, .slice aw pn kw] 26)) := (Below.refl _ w2).alloc (Nat.le_refl _) _
      have X13 : Hid (Box15 (w2.alloc (.cells #[.int .i64 cw, .slice ar rn kr, .slice aw pn kw] 26)) w2.heap.size (.int .i64 cw) (.slice ar rn kr) (.slice aw pn kw)) := x13
      have B2 : Hid (Below w1.heap.size w1 (w2.alloc (.cells #[.int .i64 cw, .slice ar rn kr, .slice aw pn kw] 26))) := below2 b2 ba
      have HR2 : Hid (RowI .i64 (w2.alloc (.cells #[.int .i64 cw, .slice ar rn kr, .slice aw pn kw] 26)) ar rn (fun j => cr.getD j 0) ∧ RowI .i64 (w2.alloc (.cells #[.int .i64 cw, .slice ar rn kr, .slice aw pn kw] 26)) aw pn (fun j => cp.getD j 0)) := ⟨hr.below ba, hw.below ba⟩
      clear hr hw b2 ba x13 HCH
      cases s with
      | false =>
        obtain ⟨y1, y2, y3⟩ := K1.out rfl
        have v0 : (cw == 0) = true := by rw [y1]; rfl
        have v1 : ((rn : Int) == 0) = true := by rw [y2]; rfl
        have v2 : ((pn : Int) == 0) = true := by rw [y3]; rfl
        clear y1 y2 y3
        go_wp2_with fail
        refine (SH.out _ (below2 BR.out (below2 B1.out B2.out))).mono ?_
        rintro e w3 ⟨rfl, b3⟩
        obtain ⟨z0, z1, z2, _, _, _⟩ := X13.out.below b3 X13.out.lt
        have BE : Hid (Below w.heap.size w w3) := below2 (below2 BR.out B1.out) (below2 B2.out b3)
        clear b3
        go_wp2
        go_ret
        exact ⟨rfl, BE.out⟩
      | true =>
        have v0 : (cw == 0) = false := by rw [beq_eq_false_iff_ne]; exact K2.out rfl
        go_wp2_with fail
        refine (SH.out _ (below2 BR.out (below2 B1.out B2.out))).mono ?_
        rintro e w3 ⟨rfl, b3⟩
        have hB3 : Below w1.heap.size w1 w3 := below2 B2.out b3
        have hBw : Below wr.heap.size wr w3 := below2 B1.out hB3
        have BW : Hid (Below w.heap.size w w3) := below2 BR.out hBw
        have HX : Hid (∀ W, Below w3.heap.size w3 W → Box15 W w2.heap.size (.int .i64 cw) (.slice ar rn kr) (.slice aw pn kw) ∧ RowI .i64 W ar rn (fun j => cr.getD j 0) ∧ RowI .i64 W aw pn (fun j => cp.getD j 0) ∧ RowB W ga N f ∧ RowI .i64 W la ln (fun j => L.getD j 0)) := fun W hW =>
          ⟨(X13.out.below b3 X13.out.lt).below hW (X13.out.below b3 X13.out.lt).lt, (HR2.out.1.below b3).below hW, (HR2.out.2.below b3).below hW, (HROW.out.1.below hBw).below hW, (HL1.out.1.below hB3).below hW⟩
        have HHAS : Hid (∀ W (x : Int), Below w3.heap.size w3 W → Calls Tryd.prog 17 #[.slice la ln lc, .int .i64 x] W fun r w' => r = .returned (.bool (Pl.hasB L x)) ∧ w' = W) := fun W x hW => by
          have h := lhas15_any W la lc L (by have := HLEN2.out; omega) (by rw [← HLN.out]; exact (HX.out W hW).2.2.2.2) x
          rwa [← HLN.out] at h
        have HRH : Hid (∀ W (x : Int), Below w3.heap.size w3 W → Calls Tryd.prog 17 #[.slice ar rn kr, .int .i64 x] W fun r w' => r = .returned (.bool (Pl.hasB cr x)) ∧ w' = W) := fun W x hW => by
          have h := lhas15_any W ar kr cr (by rw [HRN.out]; omega) (by rw [HRN.out]; exact (HX.out W hW).2.1) x
          rwa [HRN.out] at h
        have HPH : Hid (∀ W (x : Int), Below w3.heap.size w3 W → Calls Tryd.prog 17 #[.slice aw pn kw, .int .i64 x] W fun r w' => r = .returned (.bool (Pl.hasB cp x)) ∧ w' = W) := fun W x hW => by
          have h := lhas15_any W aw kw cp (by rw [HPN.out]; omega) (by rw [HPN.out]; exact (HX.out W hW).2.2.1) x
          rwa [HPN.out] at h
        clear b3 hB3 hBw X13 HR2 HROW HL1 B1 B2 BR
        go_wp2_with fail
        go_loopg [16, 17, 18, 19] (N + 2) (fun gg s16 s17 s18 s19 wz => ∃ t : Nat, t ≤ N + 2 ∧ gg = N + 2 - t ∧ s19 = .int .i64 (t : Int) ∧ s16 = .bool ((List.range t).all (Pl.othB N f cr)) ∧ s17 = .bool ((List.range t).all (Pl.ownB N f L cr)) ∧ s18 = .bool ((List.range t).all (Pl.allB L cr)) ∧ Below w3.heap.size w3 wz)
        case atStart => exact ⟨0, Nat.zero_le _, rfl, rfl, rfl, rfl, rfl, Below.refl _ _⟩
        case round =>
        obtain ⟨t, ht, rfl, rfl, rfl, rfl, rfl, hbz⟩ := hrel
        have BZ : Hid (Below w3.heap.size w3 wr) := hbz
        obtain ⟨⟨z0, z1, z2, _, _, _⟩, _, _, zb, _⟩ := HX.out wr hbz
        have IO := Pl.all_succ (p := Pl.othB N f cr) t
        have IU := Pl.all_succ (p := Pl.ownB N f L cr) t
        have IA := Pl.all_succ (p := Pl.allB L cr) t
        obtain ⟨o, ho⟩ : ∃ o, o = (List.range t).all (Pl.othB N f cr) := ⟨_, rfl⟩
        obtain ⟨u, hu⟩ : ∃ u, u = (List.range t).all (Pl.ownB N f L cr) := ⟨_, rfl⟩
        obtain ⟨a, ha⟩ : ∃ a, a = (List.range t).all (Pl.allB L cr) := ⟨_, rfl⟩
        have HO : Hid (o = (List.range t).all (Pl.othB N f cr)) := ho
        have HU : Hid (u = (List.range t).all (Pl.ownB N f L cr)) := hu
        have HA_ : Hid (a = (List.range t).all (Pl.allB L cr)) := ha
        rw [← ho, ← hu, ← ha]
        rw [← ho] at IO
        rw [← hu] at IU
        rw [← ha] at IA
        clear ho hu ha
        by_cases hlt : t < N + 2
        · have hi2 : (t : Int) < (N : Int) + 2 := by omega
          have hc1 := HRH.out wr (t : Int) hbz
          have hc2 := HHAS.out wr (t : Int) hbz
          have k4 := K4.out (by first | rfl | trivial) t hlt
          have hc3 := HPH.out wr (t : Int) hbz
          obtain ⟨bn, hbn⟩ : ∃ bn, Pl.hasB cr (t : Int) = bn := ⟨_, rfl⟩
          obtain ⟨g, hg⟩ : ∃ g, Pl.hasB L (t : Int) = g := ⟨_, rfl⟩
          have hg' : Pl.gone L t = g := hg
          rw [hbn] at hc1
          rw [hg] at hc2
          rw [hg'] at k4
          unfold Pl.othB at IO
          unfold Pl.ownB at IU
          unfold Pl.allB at IA
          rw [hbn] at IO IU IA
          rw [hg'] at IU IA
          have HC1 : Hid (Calls Tryd.prog 17 #[.slice ar rn kr, .int .i64 (t : Int)] wr fun r w' => r = .returned (.bool bn) ∧ w' = wr) := hc1
          have HC2 : Hid (Calls Tryd.prog 17 #[.slice la ln lc, .int .i64 (t : Int)] wr fun r w' => r = .returned (.bool g) ∧ w' = wr) := hc2
          have HOth : Hid ((List.range (t + 1)).all (Pl.othB N f cr) = (o && ((decide (N ≤ t) || f t) || bn))) := IO
          have HOwn : Hid ((List.range (t + 1)).all (Pl.ownB N f L cr) = (u && (((decide (N ≤ t) && g) || (decide (t < N) && !f t)) || bn))) := IU
          have HAll : Hid ((List.range (t + 1)).all (Pl.allB L cr) = (a && (g || bn))) := IA
          have HC3 : Hid (g = false → (t < N → f t = true) → Calls Tryd.prog 17 #[.slice aw pn kw, .int .i64 (t : Int)] wr fun r w' => r = .returned (.bool true) ∧ w' = wr) := fun e1 e2 => by
            have h := k4 e1 e2
            rw [h] at hc3
            exact hc3
          clear hc1 hc2 hc3 k4 hbn hg hg' IO IU IA hbz
          by_cases htN : t < N
          · obtain ⟨gb, go_, rfl, hcg⟩ := zb t htN
            obtain ⟨bi, hbi⟩ : ∃ bi, f t = bi := ⟨_, rfl⟩
            rw [hbi] at hcg HOth HOwn
            rw [decide_eq_true htN, decide_eq_false (show ¬ N ≤ t by omega)] at HOwn
            rw [decide_eq_false (show ¬ N ≤ t by omega)] at HOth
            have HC4 : Hid (g = false → bi = true → Calls Tryd.prog 17 #[.slice aw pn kw, .int .i64 (t : Int)] wr fun r w' => r = .returned (.bool true) ∧ w' = wr) := fun e1 e2 => HC3.out e1 (fun _ => hbi.trans e2)
            have w1_ : decide ((t : Int) < (N : Int)) = true := decide_eq_true (by omega)
            have w2_ : decide (t < N) = true := decide_eq_true htN
            have w3_ : decide ((N : Int) ≤ (t : Int)) = false := decide_eq_false (by omega)
            have w4_ : decide (N ≤ t) = false := decide_eq_false (by omega)
            clear hbi HC3 zb
            go_wp2_with fail
            refine HC1.out.mono ?_
            rintro e w8 ⟨rfl, h8⟩
            have h8' := h8.symm
            subst h8'
            clear h8
            go_wp2_with fail
            refine HC2.out.mono ?_
            rintro e w9 ⟨rfl, h9⟩
            have h9' := h9.symm
            subst h9'
            clear h9 HC1 HC2
            go_upto_region 23 with fail
            go_cut [16] from 101 to 182 (fun s16 wc => ∃ b' : Bool, s16 = .bool b' ∧ Hid (b' = (o && (bi || bn))) ∧ wc = wr)
            case first =>
              cases o <;> cases bi <;> cases bn <;> (go_wp2; go_meet; exact ⟨_, rfl, rfl, rfl⟩)
            case rest =>
            obtain ⟨oo, rfl, Hoo, hwq⟩ := hcut
            have hwq' := hwq.symm
            subst hwq'
            clear hwq
            go_upto_region 24 with fail
            go_cut [17] from 116 to 182 (fun s17 wc => ∃ b' : Bool, s17 = .bool b' ∧ Hid (b' = (u && (!bi || bn))) ∧ wc = wr)
            case first =>
              cases u <;> cases bi <;> cases bn <;> (go_wp2; go_meet; exact ⟨_, rfl, rfl, rfl⟩)
            case rest =>
            obtain ⟨uu, rfl, Huu, hwq⟩ := hcut
            have hwq' := hwq.symm
            subst hwq'
            clear hwq
            go_upto_region 25 with fail
            go_cut [18] from 140 to 182 (fun s18 wc => ∃ b' : Bool, s18 = .bool b' ∧ Hid (b' = (a && (g || bn))) ∧ wc = wr)
            case first =>
              cases a <;> cases g <;> cases bn <;> (go_wp2; go_meet; exact ⟨_, rfl, rfl, rfl⟩)
            case rest =>
            obtain ⟨aa, rfl, Haa, hwq⟩ := hcut
            have hwq' := hwq.symm
            subst hwq'
            clear hwq
            cases g <;> cases bi <;> as_aux_lemma =>
              (go_wp2_with (go_at_call 17; refine (HC4.out (by first | rfl | trivial) (by first | rfl | trivial)).mono ?_; rintro e w10 ⟨rfl, rfl⟩)
               go_roundg (N + 2 - (t + 1))
               case measure => omega
               case rel => exact ⟨t + 1, by omega, rfl, by go_num, by rw [HOth.out, Hoo.out]; rfl, by rw [HOwn.out, Huu.out]; rfl, by rw [HAll.out, Haa.out], BZ.out⟩)
          · rw [decide_eq_false htN, decide_eq_true (show N ≤ t by omega)] at HOwn
            rw [decide_eq_true (show N ≤ t by omega)] at HOth
            have HC4 : Hid (g = false → Calls Tryd.prog 17 #[.slice aw pn kw, .int .i64 (t : Int)] wr fun r w' => r = .returned (.bool true) ∧ w' = wr) := fun e1 => HC3.out e1 (fun h => absurd h htN)
            have w1_ : decide ((t : Int) < (N : Int)) = false := decide_eq_false (by omega)
            have w2_ : decide (t < N) = false := decide_eq_false htN
            have w3_ : decide ((N : Int) ≤ (t : Int)) = true := decide_eq_true (by omega)
            have w4_ : decide (N ≤ t) = true := decide_eq_true (by omega)
            clear htN HC3 zb
            go_wp2_with fail
            refine HC1.out.mono ?_
            rintro e w8 ⟨rfl, h8⟩
            have h8' := h8.symm
            subst h8'
            clear h8
            go_wp2_with fail
            refine HC2.out.mono ?_
            rintro e w9 ⟨rfl, h9⟩
            have h9' := h9.symm
            subst h9'
            clear h9 HC1 HC2
            go_upto_region 23 with fail
            go_cut [16] from 101 to 182 (fun s16 wc => ∃ b' : Bool, s16 = .bool b' ∧ Hid (b' = o) ∧ wc = wr)
            case first =>
              cases o <;> cases bn <;> (go_wp2; go_meet; exact ⟨_, rfl, rfl, rfl⟩)
            case rest =>
            obtain ⟨oo, rfl, Hoo, hwq⟩ := hcut
            have hwq' := hwq.symm
            subst hwq'
            clear hwq
            go_upto_region 24 with fail
            go_cut [17] from 116 to 182 (fun s17 wc => ∃ b' : Bool, s17 = .bool b' ∧ Hid (b' = (u && (g || bn))) ∧ wc = wr)
            case first =>
              cases u <;> cases g <;> cases bn <;> (go_wp2; go_meet; exact ⟨_, rfl, rfl, rfl⟩)
            case rest =>
            obtain ⟨uu, rfl, Huu, hwq⟩ := hcut
            have hwq' := hwq.symm
            subst hwq'
            clear hwq
            go_upto_region 25 with fail
            go_cut [18] from 140 to 182 (fun s18 wc => ∃ b' : Bool, s18 = .bool b' ∧ Hid (b' = (a && (g || bn))) ∧ wc = wr)
            case first =>
              cases a <;> cases g <;> cases bn <;> (go_wp2; go_meet; exact ⟨_, rfl, rfl, rfl⟩)
            case rest =>
            obtain ⟨aa, rfl, Haa, hwq⟩ := hcut
            have hwq' := hwq.symm
            subst hwq'
            clear hwq
            cases g <;> as_aux_lemma =>
              (go_wp2_with (go_at_call 17; refine (HC4.out (by first | rfl | trivial)).mono ?_; rintro e w10 ⟨rfl, rfl⟩)
               go_roundg (N + 2 - (t + 1))
               case measure => omega
               case rel => exact ⟨t + 1, by omega, rfl, by go_num, by rw [HOth.out, Hoo.out]; simp, by rw [HOwn.out, Huu.out]; rfl, by rw [HAll.out, Haa.out], BZ.out⟩)
        · have hi2 : ¬ (t : Int) < (N : Int) + 2 := by omega
          have htN : t = N + 2 := by omega
          rw [htN] at HO HU HA_
          have k3 := K3.out (by first | rfl | trivial)
          rw [← HO.out, ← HU.out, ← HA_.out] at k3
          have hc1 := HHAS.out wr (N : Int) hbz
          have hc2 := HHAS.out wr ((N : Int) + 1) hbz
          obtain ⟨b1, hb1⟩ : ∃ b1, Pl.hasB L (N : Int) = b1 := ⟨_, rfl⟩
          obtain ⟨b2, hb2⟩ : ∃ b2, Pl.hasB L ((N : Int) + 1) = b2 := ⟨_, rfl⟩
          rw [hb1] at hc1
          rw [hb2] at hc2
          have e1 : Pl.gone L N = b1 := hb1
          have e2 : Pl.gone L (N + 1) = b2 := hb2
          rw [e1, e2] at k3
          have HC1 : Hid (Calls Tryd.prog 17 #[.slice la ln lc, .int .i64 (N : Int)] wr fun r w' => r = .returned (.bool b1) ∧ w' = wr) := hc1
          have HC2 : Hid (Calls Tryd.prog 17 #[.slice la ln lc, .int .i64 ((N : Int) + 1)] wr fun r w' => r = .returned (.bool b2) ∧ w' = wr) := hc2
          have HK : Hid ((((o || u) || a) || (b1 && b2)) = true) := k3
          have BE : Hid (Below w.heap.size w wr) := below2 BW.out hbz
          clear hc1 hc2 hb1 hb2 e1 e2 k3 hbz htN IO IU IA HO HU HA_ zb
          cases o with
          | true =>
            go_wp2
            go_ret
            exact ⟨rfl, BE.out⟩
          | false =>
            cases u with
            | true =>
              go_wp2
              go_ret
              exact ⟨rfl, BE.out⟩
            | false =>
              cases a with
              | true =>
                go_wp2
                go_ret
                exact ⟨rfl, BE.out⟩
              | false =>
                cases b1 with
                | false => exact absurd HK.out (by cases b2 <;> decide)
                | true =>
                  cases b2 with
                  | false => exact absurd HK.out (by decide)
                  | true =>
                    go_wp2_with fail
                    refine HC1.out.mono ?_
                    rintro e w8 ⟨rfl, rfl⟩
                    go_wp2_with fail
                    refine HC2.out.mono ?_
                    rintro e w9 ⟨rfl, rfl⟩
                    go_wp2
                    go_ret
                    exact ⟨rfl, BE.out⟩

theorem walk_of (w : World) (PS : PlanSays w) (a0 : Int) (w0 : (Lit.int .u8 a0).wf = true) (a1 : Option Addr) (len1 cap1 : Nat) (B1 : Nat → Bool) (w1 : IsBools w a1 len1 cap1 B1) (a2 : Int) (w2 : (Lit.int .u8 a2).wf = true) (a3 : Int) (w3 : (Lit.int .u8 a3).wf = true) :
    Calls Tryd.prog 5 #[.int .u8 a0, .slice a1 len1 cap1, .int .u8 a2, .int .u8 a3] w fun e w' => e = .returned (.bool true) ∧ Below w.heap.size w w' := by
  have h0 := bounds_u8 w0
  have h2 := bounds_u8 w2
  have h3 := bounds_u8 w3
  obtain ⟨A, rfl⟩ : ∃ A : Nat, a0 = (A : Int) := ⟨a0.toNat, by omega⟩
  obtain ⟨C, rfl⟩ : ∃ C : Nat, a2 = (C : Int) := ⟨a2.toNat, by omega⟩
  obtain ⟨D, rfl⟩ : ∃ D : Nat, a3 = (D : Int) := ⟨a3.toNat, by omega⟩
  have tm : ∀ x y : Nat, (x : Int).tmod ((2 + A % 7 : Nat) + (y : Int)) = ((x % (2 + A % 7 + y) : Nat) : Int) := fun x y => by
    rw [Int.tmod_eq_emod_of_nonneg (by omega), ← Int.natCast_add, ← Int.natCast_emod]
  exact core PS A C D (A % 7) (2 + A % 7) (C % (2 + A % 7 + 3)) (D % (2 + A % 7 + 3)) (by rw [Int.tmod_eq_emod_of_nonneg (by omega)]; omega) (by omega) (by omega) (by omega) (by omega) (by omega) (by omega)
    (tm C 3) (tm D 3) a1 len1 cap1 B1 w1.row.1 w1.rowB
end Go.Proofs.YtlkbdhejfmljlaaDoor.planEnough
