/- PlanLost. -/
import Derived.Test.YtlkbdhejfmljlaaDoorPlBest
import Derived.OpenShut
namespace Go.Proofs.YtlkbdhejfmljlaaDoor.planLost
open Go.RowKit
attribute [local go_sem] Oper.semAt_some

/-- what the statement's own row says -/
def wr15 (m : Nat) (B : Nat → Bool) (i : Nat) : Bool := decide (i < m) && B i

set_option maxRecDepth 100000 in
set_option maxHeartbeats 16000000 in
theorem core {w : World} (PS0 : PlanSays w) (A C D q N i j : Nat) (hA : (A : Int).tmod 7 = (q : Int)) (hqn : (2 : Int) + (q : Int) = (N : Int)) (hn2 : 2 ≤ N) (hn8 : N ≤ 8) (hA8 : A < 256) (hC8 : C < 256) (hD8 : D < 256)
    (hCi : (C : Int).tmod ((N : Int) + 3) = (i : Int)) (hDj : (D : Int).tmod ((N : Int) + 3) = (j : Int)) (a1 : Option Addr) (m1 k1 : Nat) (B : Nat → Bool) (hm1 : m1 ≤ maxLen) (hB : RowB w a1 m1 B) :
    Calls Tryd.prog 4 #[.int .u8 (A : Nat), .slice a1 m1 k1, .int .u8 (C : Nat), .int .u8 (D : Nat)] w fun e w' => e = .returned (.bool true) ∧ Below w.heap.size w w' := by
  have SH : Hid (∀ W, Below w.heap.size w W → Calls Tryd.prog 8 #[] W fun e w' => e = .returned (.bool true) ∧ Below W.heap.size W w') := fun W hW => shown15_any PS0 W hW
  have PS : Hid (PlanSays w) := PS0
  have HTWO : Hid (∀ W, Calls Tryd.prog 16 #[.int .i64 (N : Int), .int .u8 (C : Nat), .int .u8 (D : Nat)] W fun r w' => ∃ v, r = .returned v ∧ Row15 W (Pl.twoT N i j) v w') := fun W => two15_any W N hn2 hn8 C D i j hC8 hD8 hCi hDj
  obtain ⟨hgood, hlen2⟩ := Pl.good_two (i := i) (k := j) hn2 hn8
  have HASK : Hid (Pl.Asked N (wr15 m1 B) (Pl.twoT N i j)) := Pl.asked hgood.roles hlen2
  have HLEN2 : Hid ((Pl.twoT N i j).length ≤ 2) := hlen2
  have HBR : Hid (∀ W, Below w.heap.size w W → RowB W a1 m1 B) := fun W hW => hB.below hW
  obtain ⟨i0, q1, q2, q3, q4⟩ := info_parts (show (Tryd.prog.info? 4).map (fun i => (i.zero, i.size, i.bytes)) = some (some (.bool false), 1, 1) by kernel_rfl)
  have HI0 : Hid (Tryd.prog.info? 4 = some i0 ∧ i0.zero = some (.bool false) ∧ i0.size = 1 ∧ i0.bytes = 1) := ⟨q1, q2, q3, q4⟩
  have A0 : Hid (RowO w (wr15 m1 B) 0 (.slice (some ⟨w.heap.size, 0, none⟩) 0 0) (w.alloc (.cells #[] 4))) := RowO.made _ _
  have hm1' : m1 ≤ 9223372036854775807 := by unfold maxLen at hm1; omega
  clear PS0 hgood hlen2 hCi hDj hB hm1 q1 q2 q3 q4
  go_enter Tryd.func4, Tryd.ntmps4
  go_wp2_with fail
  go_loopg [10, 11] N (fun gg s10 s11 wr => ∃ t : Nat, t ≤ N ∧ gg = N - t ∧ s11 = .int .i64 (t : Int) ∧ RowO w (wr15 m1 B) t s10 wr)
  case atStart => exact ⟨0, Nat.zero_le _, rfl, rfl, A0.out⟩
  case round =>
    obtain ⟨t, ht, rfl, rfl, hA⟩ := hrel
    clear A0
    obtain ⟨v, hv⟩ : ∃ v, v = u10 := ⟨u10, rfl⟩
    subst hv
    have HA : Hid (RowO w (wr15 m1 B) t v wr) := hA
    have hsz := hA.2.size
    by_cases hlt : t < N
    · have hi2 : (t : Int) < (N : Int) := by omega
      obtain ⟨q1, q2, q3, q4⟩ := HI0.out
      by_cases htm : t < m1
      · obtain ⟨bb, bo, rfl, hcb⟩ := HBR.out wr hA.2 t htm
        obtain ⟨bi, hbi⟩ : ∃ bi, bi = B t := ⟨_, rfl⟩
        rw [← hbi] at hcb
        have hb : Hid (wr15 m1 B t = bi) := by show _ = _; unfold wr15; rw [decide_eq_true htm, ← hbi]; rfl
        have u1 : decide ((t : Int) < (m1 : Int)) = true := decide_eq_true (by omega)
        have u2 : decide (t < m1) = true := decide_eq_true htm
        clear hA hbi
        go_wp2_with (at_builtin; refine wpList_append_own _ rfl _ _ 22 rfl w.heap.size 4 i0 (.bool false) 1 1 Tryd.underlying22 q1 q2 q3 q4 rfl (by decide) v t (bV (wr15 m1 B) t) rfl (HA.out.1.alloc _) ⟨wr.heap.size, 0, none⟩ 1 1 [.bool bi] rfl rfl (cell_one_new _ _ _) (by simp [Value.oneCell']) (by unfold maxLen; omega) (by omega) (by simp; omega) ?_; go_loud (intro v' w1 hown' hgrow _; have R1 := HA.out.grown hb.out hown' hgrow; obtain ⟨g', cap', rfl⟩ := ownsRow_succ hown'))
        go_roundg (N - (t + 1))
        case measure => omega
        case rel => exact ⟨t + 1, by omega, rfl, by go_num, R1⟩
      · have hb : Hid (wr15 m1 B t = false) := by show _ = _; unfold wr15; rw [decide_eq_false htm]; rfl
        have u1 : decide ((t : Int) < (m1 : Int)) = false := decide_eq_false (by omega)
        have u2 : decide (t < m1) = false := decide_eq_false htm
        clear htm hA
        go_wp2_with (at_builtin; refine wpList_append_own _ rfl _ _ 22 rfl w.heap.size 4 i0 (.bool false) 1 1 Tryd.underlying22 q1 q2 q3 q4 rfl (by decide) v t (bV (wr15 m1 B) t) rfl (HA.out.1.alloc _) ⟨wr.heap.size, 0, none⟩ 1 1 [.bool false] rfl rfl (cell_one_new _ _ _) (by simp [Value.oneCell']) (by unfold maxLen; omega) (by omega) (by simp; omega) ?_; go_loud (intro v' w1 hown' hgrow _; have R1 := HA.out.grown hb.out hown' hgrow; obtain ⟨g', cap', rfl⟩ := ownsRow_succ hown'))
        go_roundg (N - (t + 1))
        case measure => omega
        case rel => exact ⟨t + 1, by omega, rfl, by go_num, R1⟩
    · have hi2 : ¬ (t : Int) < (N : Int) := by omega
      have htN : t = N := by omega
      rw [htN] at HA hA
      obtain ⟨ga, gc, hgv⟩ := hA.head
      obtain ⟨f, hf⟩ : ∃ f, f = wr15 m1 B := ⟨_, rfl⟩
      rw [← hf] at HASK HA hA
      subst hgv
      obtain ⟨hrow, hcap⟩ := hA.rowB
      have HROW : Hid (RowB wr ga N f ∧ N ≤ gc) := ⟨hrow, hcap⟩
      have BR : Hid (Below w.heap.size w wr) := hA.2
      clear hA HA hrow hcap hlt ht htN hf HBR HI0 hm1' hsz
      go_wp2_with fail
      refine (HTWO.out _).mono ?_
      rintro e w1 ⟨v, rfl, hrow1⟩
      obtain ⟨L, hL⟩ : ∃ L, L = Pl.twoT N i j := ⟨_, rfl⟩
      rw [← hL] at HASK HLEN2 hrow1
      obtain ⟨ln, hln⟩ : ∃ ln, ln = L.length := ⟨_, rfl⟩
      have HLN : Hid (ln = L.length) := hln
      have ow := hrow1.1
      rw [← hln] at ow
      obtain ⟨la, lc, rfl, hLR, _⟩ := RowI.of_owns (k := .i64) ow
      have hLc := ownsRow_cap ow
      have HL1 : Hid (RowI .i64 w1 la ln (fun j => L.getD j 0) ∧ ln ≤ lc) := ⟨hLR, hLc⟩
      have B1 : Hid (Below wr.heap.size wr w1) := hrow1.2
      have hRB1 := HROW.out.1.below hrow1.2
      have hch := PS.out.choose w1 (below2 BR.out hrow1.2) (N : Int) ga N gc f ⟨by omega, by omega⟩ (by omega) HROW.out.2 hRB1 la lc L (by rw [← hln]; exact hLc) (by have := HLEN2.out; omega) (by rw [← hln]; exact hLR)
      rw [← hln] at hch
      obtain ⟨cw, hcw⟩ : ∃ cw, Pl.chooseW (N : Int) N f L = cw := ⟨_, rfl⟩
      obtain ⟨cr, hcr⟩ : ∃ cr, Pl.chooseR (N : Int) N f L = cr := ⟨_, rfl⟩
      obtain ⟨cp, hcp⟩ : ∃ cp, Pl.chooseP (N : Int) N f L = cp := ⟨_, rfl⟩
      obtain ⟨rn, hrn⟩ : ∃ rn, cr.length = rn := ⟨_, rfl⟩
      obtain ⟨pn, hpn⟩ : ∃ pn, cp.length = pn := ⟨_, rfl⟩
      have HCH : Hid (Calls Tryd.prog 9 #[.int .i64 (N : Int), .slice ga N gc, .slice la ln lc] w1 (ChooseQ cw cr cp rn pn 0 w1)) := hch.mono fun _ _ h => h.q hcw hcr hcp hrn hpn HASK.out.err
      obtain ⟨_, k1, k2, k3, k4, k5⟩ := HASK.out
      obtain ⟨l1, l2⟩ := Pl.short (n := (N : Int)) (m := N) (B := f) (L := L)
      rw [hcr, hrn] at k1 k2 k4 l1
      rw [hcp, hpn] at k3 l2
      rw [hcw] at k4
      have K1 : Hid (∀ j, j < rn → Pl.hasB L (cr.getD j 0) = false) := k1
      have K2 : Hid (∀ j, 0 < j → j < rn → cr.getD (j - 1) 0 < cr.getD j 0) := k2
      have K3 : Hid (∀ j, j < pn → Pl.hasB L (cp.getD j 0) = false ∧ ∃ i : Nat, cp.getD j 0 = (i : Int) ∧ (i < N → f i = true)) := k3
      have K4 : Hid (∀ s : Nat, s < 4 → Pl.costB (N : Int) N f L ((s : Int) + 1) = true → cw ≠ 0 → rn ≤ Pl.costN (N : Int) N f L ((s : Int) + 1) ∧ (Pl.costN (N : Int) N f L ((s : Int) + 1) = rn → cw ≤ (s : Int) + 1)) := k4
      have K5 : Hid (Pl.costB (N : Int) N f L 4 = true) := k5
      clear k1 k2 k3 k4 k5 hch hcw hcr hcp hrn hpn hRB1 hLR hLc ow hrow1 hln hL HASK HTWO
      go_wp2_with fail
      refine HCH.out.mono ?_
      rintro e w2 ⟨⟨ar, kr, aw, kw, rfl, hr, hw⟩, b2⟩
      have x13 := Box15.new w2 26 (.int .i64 cw) (.slice ar rn kr) (.slice aw pn kw)
      have ba : Below w2.heap.size w2 (w2.alloc (.cells #[.int .i64 cw, .slice ar rn kr, .slice aw pn kw] 26)) := (Below.refl _ w2).alloc (Nat.le_refl _) _
      have X13 : Hid (Box15 (w2.alloc (.cells #[.int .i64 cw, .slice ar rn kr, .slice aw pn kw] 26)) w2.heap.size (.int .i64 cw) (.slice ar rn kr) (.slice aw pn kw)) := x13
      have B2 : Hid (Below w1.heap.size w1 (w2.alloc (.cells #[.int .i64 cw, .slice ar rn kr, .slice aw pn kw] 26))) := below2 b2 ba
      have HR2 : Hid (RowI .i64 (w2.alloc (.cells #[.int .i64 cw, .slice ar rn kr, .slice aw pn kw] 26)) ar rn (fun j => cr.getD j 0) ∧ RowI .i64 (w2.alloc (.cells #[.int .i64 cw, .slice ar rn kr, .slice aw pn kw] 26)) aw pn (fun j => cp.getD j 0)) := ⟨hr.below ba, hw.below ba⟩
      clear hr hw b2 ba x13 HCH
      go_wp2_with fail
      refine (SH.out _ (below2 BR.out (below2 B1.out B2.out))).mono ?_
      rintro e w3 ⟨rfl, b3⟩
      have hB3 : Below w1.heap.size w1 w3 := below2 B2.out b3
      have hBw : Below wr.heap.size wr w3 := below2 B1.out hB3
      have BW : Hid (Below w.heap.size w w3) := below2 BR.out hBw
      have HX : Hid (∀ W, Below w3.heap.size w3 W → Box15 W w2.heap.size (.int .i64 cw) (.slice ar rn kr) (.slice aw pn kw) ∧ RowI .i64 W ar rn (fun j => cr.getD j 0) ∧ RowI .i64 W aw pn (fun j => cp.getD j 0) ∧ RowB W ga N f ∧ RowI .i64 W la ln (fun j => L.getD j 0)) := fun W hW =>
        ⟨(X13.out.below b3 X13.out.lt).below hW (X13.out.below b3 X13.out.lt).lt, (HR2.out.1.below b3).below hW, (HR2.out.2.below b3).below hW, (HROW.out.1.below hBw).below hW, (HL1.out.1.below hB3).below hW⟩
      have HHAS : Hid (∀ W (x : Int), Below w3.heap.size w3 W → Calls Tryd.prog 17 #[.slice la ln lc, .int .i64 x] W fun r w' => r = .returned (.bool (Pl.hasB L x)) ∧ w' = W) := fun W x hW => by
        have h := lhas15_any W la lc L (by have := HLEN2.out; omega) (by rw [← HLN.out]; exact (HX.out W hW).2.2.2.2) x
        rwa [← HLN.out] at h
      have HCOST : Hid (∀ W (way : Int), I64 way → Below w3.heap.size w3 W → Calls Tryd.prog 11 #[.int .i64 (N : Int), .slice ga N gc, .slice la ln lc, .int .i64 way] W (Same15 W (.tuple #[.int .i64 (Pl.costN (N : Int) N f L way : Nat), .bool (Pl.costB (N : Int) N f L way)]))) := fun W way hway hW => by
        have h := PS.out.cost W (below2 BW.out hW) (N : Int) ga N gc f ⟨by omega, by omega⟩ (by omega) HROW.out.2 (HX.out W hW).2.2.2.1 la lc L (by rw [← HLN.out]; exact HL1.out.2) (by have := HLEN2.out; omega) (by rw [← HLN.out]; exact (HX.out W hW).2.2.2.2) way hway
        rwa [← HLN.out] at h
      clear b3 hB3 hBw X13 HR2 HROW HL1 B1 B2 BR
      go_wp2_with fail
      go_loopg [15] rn (fun gg s15 wz => ∃ t : Nat, t ≤ rn ∧ gg = rn - t ∧ s15 = .int .i64 (t : Int) ∧ Below w3.heap.size w3 wz)
      case atStart => exact ⟨0, Nat.zero_le _, rfl, rfl, Below.refl _ _⟩
      case round =>
      obtain ⟨t, ht, rfl, rfl, hbz⟩ := hrel
      have BZ : Hid (Below w3.heap.size w3 wr) := hbz
      obtain ⟨⟨z0, z1, z2, _, _, _⟩, zr, _, _, _⟩ := HX.out wr hbz
      by_cases hlt : t < rn
      · obtain ⟨bb, bo, rfl, hc⟩ := zr t hlt
        dsimp only at hc
        have hn := K1.out t hlt
        obtain ⟨y, hy⟩ : ∃ y, y = cr.getD t 0 := ⟨_, rfl⟩
        have HCALL : Hid (∀ q, Calls Tryd.prog 17 #[.slice la ln lc, .int .i64 y] (wr.drewN q) fun r w' => r = .returned (.bool false) ∧ w' = wr.drewN q) := fun q => by
          have h := HHAS.out (wr.drewN q) y (below_drewN hbz q)
          rwa [hy, hn, ← hy] at h
        have hi2 : (t : Int) < (rn : Int) := by omega
        rw [← hy] at hc hn
        by_cases h0 : 0 < t
        · obtain ⟨s, rfl⟩ : ∃ s, t = s + 1 := ⟨t - 1, by omega⟩
          obtain ⟨_, _, e, hc0⟩ := zr s (by omega)
          cases e
          dsimp only at hc0
          have hasc := K2.out (s + 1) (by omega) hlt
          rw [Nat.add_sub_cancel, ← hy] at hasc
          obtain ⟨x, hx⟩ : ∃ x, x = cr.getD s 0 := ⟨_, rfl⟩
          rw [← hx] at hc0 hasc
          have u1 : decide (y ≤ x) = false := decide_eq_false (by omega)
          have u2 : IntKind.i64.wrap ((s : Int) + 1 - 1) = (s : Int) := by rw [IntKind.wrap_i64]; omega
          clear hbz hn hy hx hasc zr h0
          go_wp2_with fail
          go_quiet ((go_at_call 17; refine Calls.quiet_of_same (HCALL.out _)))
          go_wp2_with fail
          rename_i nq
          go_roundg (rn - (s + 1 + 1))
          case measure => omega
          case rel => exact ⟨s + 1 + 1, by omega, rfl, by go_num, below_drewN BZ.out _⟩
        · have u1 : decide ((0 : Int) < (t : Int)) = false := decide_eq_false (by omega)
          have u2 : decide (0 < t) = false := decide_eq_false h0
          have u3 : ¬ (0 : Int) < (t : Int) := by omega
          clear hbz hn hy zr h0
          go_wp2_with fail
          go_quiet ((go_at_call 17; refine Calls.quiet_of_same (HCALL.out _)))
          go_wp2_with fail
          rename_i nq
          go_roundg (rn - (t + 1))
          case measure => omega
          case rel => exact ⟨t + 1, by omega, rfl, by go_num, below_drewN BZ.out _⟩
      · have hi2 : ¬ (t : Int) < (rn : Int) := by omega
        clear hbz zr
        go_wp2_with fail
        go_loopg [16] pn (fun gg s16 wz => ∃ t : Nat, t ≤ pn ∧ gg = pn - t ∧ s16 = .int .i64 (t : Int) ∧ Below w3.heap.size w3 wz)
        case atStart => exact ⟨0, Nat.zero_le _, rfl, rfl, BZ.out⟩
        case round =>
        clear z0 z1 z2 BZ hlt ht hi2
        obtain ⟨t, ht, rfl, rfl, hbz⟩ := hrel
        have BZ : Hid (Below w3.heap.size w3 wr) := hbz
        obtain ⟨⟨z0, z1, z2, _, _, _⟩, _, zw, zb, _⟩ := HX.out wr hbz
        by_cases hlt : t < pn
        · obtain ⟨bb, bo, rfl, hc⟩ := zw t hlt
          dsimp only at hc
          obtain ⟨hn, y, hy, hyb⟩ := K3.out t hlt
          rw [hy] at hc hn
          have hcall := HHAS.out wr (y : Int) hbz
          rw [hn] at hcall
          have HCALL : Hid (Calls Tryd.prog 17 #[.slice la ln lc, .int .i64 (y : Int)] wr fun r w' => r = .returned (.bool false) ∧ w' = wr) := hcall
          have hi2 : (t : Int) < (pn : Int) := by omega
          by_cases hyN : y < N
          · obtain ⟨gb, go_, rfl, hcg⟩ := zb y hyN
            rw [hyb hyN] at hcg
            have u1 : decide ((y : Int) < (N : Int)) = true := decide_eq_true (by omega)
            have u2 : decide (y < N) = true := decide_eq_true hyN
            clear hcall hn hy hyb hbz zw zb
            go_wp2_with (go_at_call 17; refine HCALL.out.mono ?_; rintro e w8 ⟨rfl, rfl⟩)
            go_roundg (pn - (t + 1))
            case measure => omega
            case rel => exact ⟨t + 1, by omega, rfl, by go_num, BZ.out⟩
          · have u1 : decide ((y : Int) < (N : Int)) = false := decide_eq_false (by omega)
            have u2 : decide (y < N) = false := decide_eq_false hyN
            clear hcall hn hy hyb hbz zw zb
            go_wp2_with (go_at_call 17; refine HCALL.out.mono ?_; rintro e w8 ⟨rfl, rfl⟩)
            go_roundg (pn - (t + 1))
            case measure => omega
            case rel => exact ⟨t + 1, by omega, rfl, by go_num, BZ.out⟩
        · have hi2 : ¬ (t : Int) < (pn : Int) := by omega
          clear hbz zw zb
          go_wp2_with fail
          go_loopg [17] 5 (fun gg s17 wz => ∃ t : Nat, t ≤ 4 ∧ gg = 5 - t ∧ s17 = .int .i64 ((t : Int) + 1) ∧ Below w3.heap.size w3 wz)
          case atStart => exact ⟨0, Nat.zero_le _, rfl, rfl, BZ.out⟩
          case round =>
          clear z0 z1 z2 BZ hlt ht hi2
          obtain ⟨t, ht, rfl, rfl, hbz⟩ := hrel
          have BZ : Hid (Below w3.heap.size w3 wr) := hbz
          by_cases hlt : t < 4
          · have hi4 : ((t : Int) + 1) ≤ 4 := by omega
            have k4 := K4.out t hlt
            have hco := HCOST.out wr ((t : Int) + 1) ⟨by omega, by omega⟩ hbz
            obtain ⟨cn, hcn⟩ : ∃ cn, Pl.costN (N : Int) N f L ((t : Int) + 1) = cn := ⟨_, rfl⟩
            obtain ⟨cb, hcb⟩ : ∃ cb, Pl.costB (N : Int) N f L ((t : Int) + 1) = cb := ⟨_, rfl⟩
            rw [hcn, hcb] at hco k4
            have HCO : Hid (Calls Tryd.prog 11 #[.int .i64 (N : Int), .slice ga N gc, .slice la ln lc, .int .i64 ((t : Int) + 1)] wr (Same15 wr (.tuple #[.int .i64 (cn : Nat), .bool cb]))) := hco
            have KK : Hid (cb = true → cw ≠ 0 → rn ≤ cn ∧ (cn = rn → cw ≤ (t : Int) + 1)) := k4
            clear hbz k4 hco hcn hcb
            go_wp2_with fail
            refine HCO.out.mono ?_
            rintro e w8 ⟨rfl, b8⟩
            have hb8 : Below w3.heap.size w3 w8 := below2 BZ.out b8
            have BY : Hid (Below w3.heap.size w3 w8) := hb8
            obtain ⟨⟨z0, z1, z2, _, _, _⟩, _, _, _, _⟩ := HX.out w8 hb8
            clear b8 hb8 HCO
            cases cb with
            | false =>
              go_wp2_with fail
              go_roundg (5 - (t + 1))
              case measure => omega
              case rel => exact ⟨t + 1, by omega, rfl, by go_num, BY.out⟩
            | true =>
              by_cases hz : cw = 0
              · have v0 : (cw != 0) = false := by rw [hz]; rfl
                clear hz
                go_wp2_with fail
                go_roundg (5 - (t + 1))
                case measure => omega
                case rel => exact ⟨t + 1, by omega, rfl, by go_num, BY.out⟩
              · have v0 : (cw != 0) = true := by rw [bne_iff_ne]; exact hz
                obtain ⟨g1, g2⟩ := KK.out rfl hz
                have v1 : decide ((cn : Int) < (rn : Int)) = false := decide_eq_false (by omega)
                have v2 : decide (cn < rn) = false := decide_eq_false (by omega)
                by_cases he : cn = rn
                · have v3 : ((cn : Int) == (rn : Int)) = true := by rw [he]; simp
                  have v4 : decide ((t : Int) + 1 < cw) = false := decide_eq_false (by have := g2 he; omega)
                  clear g1 g2 hz he
                  go_wp2_with fail
                  go_roundg (5 - (t + 1))
                  case measure => omega
                  case rel => exact ⟨t + 1, by omega, rfl, by go_num, BY.out⟩
                · have v3 : ((cn : Int) == (rn : Int)) = false := by rw [beq_eq_false_iff_ne]; omega
                  clear g1 g2 hz he
                  go_wp2_with fail
                  go_roundg (5 - (t + 1))
                  case measure => omega
                  case rel => exact ⟨t + 1, by omega, rfl, by go_num, BY.out⟩
          · have hi4 : ¬ ((t : Int) + 1) ≤ 4 := by omega
            have hco := HCOST.out wr 4 ⟨by decide, by decide⟩ hbz
            rw [K5.out] at hco
            obtain ⟨cn, hcn⟩ : ∃ cn, Pl.costN (N : Int) N f L 4 = cn := ⟨_, rfl⟩
            rw [hcn] at hco
            have HCO : Hid (Calls Tryd.prog 11 #[.int .i64 (N : Int), .slice ga N gc, .slice la ln lc, .int .i64 4] wr (Same15 wr (.tuple #[.int .i64 (cn : Nat), .bool true]))) := hco
            have BE : Hid (Below w.heap.size w wr) := below2 BW.out hbz
            clear hbz hco hcn
            go_wp2_with fail
            refine HCO.out.mono ?_
            rintro e w8 ⟨rfl, b8⟩
            have B8 : Hid (Below w.heap.size w w8) := below2 BE.out b8
            clear b8
            go_wp2
            go_ret
            exact ⟨rfl, B8.out⟩

theorem walk_of (w : World) (PS : PlanSays w) (a0 : Int) (w0 : (Lit.int .u8 a0).wf = true) (a1 : Option Addr) (len1 cap1 : Nat) (B1 : Nat → Bool) (w1 : IsBools w a1 len1 cap1 B1) (a2 : Int) (w2 : (Lit.int .u8 a2).wf = true) (a3 : Int) (w3 : (Lit.int .u8 a3).wf = true) :
    Calls Tryd.prog 4 #[.int .u8 a0, .slice a1 len1 cap1, .int .u8 a2, .int .u8 a3] w fun e w' => e = .returned (.bool true) ∧ Below w.heap.size w w' := by
  have h0 := bounds_u8 w0
  have h2 := bounds_u8 w2
  have h3 := bounds_u8 w3
  obtain ⟨A, rfl⟩ : ∃ A : Nat, a0 = (A : Int) := ⟨a0.toNat, by omega⟩
  obtain ⟨C, rfl⟩ : ∃ C : Nat, a2 = (C : Int) := ⟨a2.toNat, by omega⟩
  obtain ⟨D, rfl⟩ : ∃ D : Nat, a3 = (D : Int) := ⟨a3.toNat, by omega⟩
  have tm : ∀ x y : Nat, (x : Int).tmod ((2 + A % 7 : Nat) + (y : Int)) = ((x % (2 + A % 7 + y) : Nat) : Int) := fun x y => by
    rw [Int.tmod_eq_emod_of_nonneg (by omega), ← Int.natCast_add, ← Int.natCast_emod]
  exact core PS A C D (A % 7) (2 + A % 7) (C % (2 + A % 7 + 3)) (D % (2 + A % 7 + 3)) (by rw [Int.tmod_eq_emod_of_nonneg (by omega)]; omega) (by omega) (by omega) (by omega) (by omega) (by omega) (by omega)
    (tm C 3) (tm D 3) a1 len1 cap1 B1 w1.row.1 w1.rowB
end Go.Proofs.YtlkbdhejfmljlaaDoor.planLost
