/- For every room, every keys and every pinned one the law LruHolds returns true: there are never more keys than there is room for; a pinned one never goes; the last one that was put is there (up to the law's own bound on lengths; beyond it the law says nothing). No condition. -/
import Derived.Test.YtmmhfkohfijlaaaLrHold
import Derived.Deep.LoopGhost
import Derived.BigQuiet
import Derived.Deep.QuietTactic
import Derived.ProofKit
import Derived.OpenShut
import Derived.Below
import Derived.ChangeOld
namespace Go.Proofs.Ytmmhfkohfijlaaa.lruHolds
open Go.ChangeShapes Go.WideShapes Go.ChangeAt Go.RowKit Lr

set_option maxRecDepth 100000 in
set_option maxHeartbeats 1000000 in
theorem walk_big (r : Int) (a : Option Addr) (n cap : Nat) (p : Int) (hn : 300 < n) (w : World) :
    Calls Try.prog 4 #[.int .u8 r, .slice a n cap, .int .u8 p] w fun e w' => e = .returned (.bool true) ∧ Below w.heap.size w w' := by
  have hn' : (300 : Int) < (n : Int) := by omega
  go_enter Try.func4, Try.ntmps4
  go_wp2_with fail
  refine (shown14_any w).mono ?_
  rintro e w1 ⟨rfl, b1⟩
  go_wp2
  go_ret
  exact ⟨rfl, b1⟩

theorem first_hold (room : Nat) (hr : 2 ≤ room) (p : Int) : put room [] p = [(p, 0)] ∧ putE room [] p = 0 ∧ pins [(p, 0)] p = 0 ∧ pinE [(p, 0)] p = 0 ∧ pin [(p, 0)] p = [(p, 1)] ∧ Hold p [(p, 1)] := by
  have h0 : idx [(p, 0)] p = 0 := by simp [idx]
  have h1 : idx [(p, 1)] p = 0 := by simp [idx]
  have e0 : idx [] p = 0 := rfl
  refine ⟨?_, ?_, ?_, ?_, ?_, ⟨by rw [h1]; simp, fun x hx => ?_⟩⟩
  · unfold put; rw [e0, if_neg (by simp), if_pos (by simp; omega)]
  · unfold putE; rw [e0, if_neg (by simp), if_pos (by simp; omega)]
  · simp [pins, h0]
  · simp [pinE, h0]
  · simp [pin, pinTo, h0, pins]
  · rw [List.mem_singleton.1 hx]; simp

set_option maxRecDepth 100000 in
set_option maxHeartbeats 8000000 in
theorem core (R q n : Nat) (hR : (R : Int).tmod 60 = (q : Int)) (hqn : (2 : Int) + (q : Int) = (n : Int)) (hn2 : 2 ≤ n) (hn64 : n ≤ 64) (hR8 : R < 256) (rows : List Nat) (hl : rows.length ≤ 300) (hl8 : ∀ j, rows.getD j 0 < 256) (a : Option Addr) (cap : Nat) (P : Nat) (hP : P < 256) (w : World)
    (hr : RowI .u8 w a rows.length (fun j => ((rows.getD j 0 : Nat) : Int))) :
    Calls Try.prog 4 #[.int .u8 (R : Nat), .slice a rows.length cap, .int .u8 (P : Nat)] w fun e w' => e = .returned (.bool true) ∧ Below w.heap.size w w' := by
  obtain ⟨N, hN⟩ : ∃ N, N = rows.length := ⟨_, rfl⟩
  rw [← hN] at hl hr ⊢
  have HR : Hid (RowI .u8 w a N (fun j => ((rows.getD j 0 : Nat) : Int))) := hr
  have H8 : Hid (∀ j, rows.getD j 0 < 256) := hl8
  have HN2 : Hid (2 ≤ n) := hn2
  have hn300 : ¬ (300 : Int) < (N : Int) := by omega
  have HF := first_hold n hn2 (P : Int)
  have HOP : Hid (Ok (P : Int)) := ok_nat P (by omega)
  clear hN hr hl8 hn2
  go_enter Try.func4, Try.ntmps4
  go_wp2_with fail
  refine (shown14_any w).mono ?_
  rintro e w1 ⟨rfl, b1⟩
  have B1 : Hid (Below w.heap.size w w1) := b1
  clear b1
  go_wp2_with fail
  refine (New_mine n w.heap.size (by have := HN2.out; omega) hn64 w1 B1.out.size).mono ?_
  rintro e w2 ⟨p, rfl, m2, b2⟩
  have M2 : Hid (Lr.Mine w2 w.heap.size p n []) := m2
  have B2 : Hid (Below w.heap.size w w2) := B1.out.trans b2
  clear m2 b2 B1
  go_wp2_with fail
  refine (Put_mine M2.out HOP.out).mono ?_
  rw [HF.1, HF.2.1]
  generalize putG n [] (P : Int) = G0
  generalize putW n [] (P : Int) = W0
  rintro e w3 ⟨rfl, m3, b3⟩
  have M3 : Hid (Lr.Mine w3 w.heap.size p n [((P : Int), 0)]) := m3
  have B3 : Hid (Below w.heap.size w w3) := B2.out.trans b3
  clear m3 b3 M2 B2
  go_wp2_with fail
  refine (Pin_mine M3.out HOP.out (by rw [HF.2.2.1]; decide)).mono ?_
  rw [HF.2.2.2.1, HF.2.2.2.2.1]
  rintro e w4 ⟨rfl, m4, b4⟩
  have M4 : Hid (Lr.Mine w4 w.heap.size p n [((P : Int), 1)]) := m4
  have B4 : Hid (Below w.heap.size w w4) := B3.out.trans b4
  have HH : Hid (Hold (P : Int) [((P : Int), 1)]) := HF.2.2.2.2.2
  clear m4 b4 M3 B3 HF
  go_wp2_with fail
  go_loopg [13, 14, 15, 16, 17] N (fun g i x y z t wr => ∃ (j : Nat) (l : L), j ≤ N ∧ g = N - j ∧ i = .int .i64 (j : Int) ∧ Lr.Mine wr w.heap.size p n l ∧ Hold (P : Int) l ∧ Below w.heap.size w wr)
  case atStart => exact ⟨0, _, Nat.zero_le _, rfl, rfl, M4.out, HH.out, B4.out⟩
  case round =>
    obtain ⟨j, l, hj, rfl, rfl, m, hh, b⟩ := hrel
    have M : Hid (Lr.Mine wr w.heap.size p n l) := m
    have HL : Hid (Hold (P : Int) l) := hh
    have B : Hid (Below w.heap.size w wr) := b
    clear M4 B4 HH hh
    by_cases hlt : j < N
    · obtain ⟨kb, ko, rfl, ck⟩ := HR.out j hlt
      dsimp only at ck
      have klt := World.block_lt_of_cell? w _ ck
      have ck0 := (b.cell (p := ⟨kb, ko + j, none⟩) klt).trans ck
      obtain ⟨k, hk⟩ : ∃ k, k = rows.getD j 0 := ⟨_, rfl⟩
      have hk8 : k < 256 := by rw [hk]; exact H8.out j
      rw [← hk] at ck ck0
      have HP := HL.out.put m.ok HN2.out (k : Int)
      have HPut : Hid (Hold (P : Int) (put n l (k : Int)) ∧ 0 < (put n l (k : Int)).length ∧ (keys (put n l (k : Int))).getD 0 0 = (k : Int)) := ⟨HP.2.2.1, HP.2.2.2.1, HP.2.2.2.2⟩
      have hne := HP.2.1
      have hpe := HP.1
      have HC : Hid (w.cell? ⟨kb, ko + j, none⟩ = some (.int .u8 ((k : Nat) : Int)) ∧ kb < w.heap.size) := ⟨ck, klt⟩
      clear m b hk HP ck klt
      go_wp2_with fail
      refine (Put_mine M.out (k := (k : Int)) (ok_nat k (by omega))).mono ?_
      rw [hpe]
      obtain ⟨G, hG⟩ : ∃ G, G = putG n l (k : Int) := ⟨_, rfl⟩
      obtain ⟨W, hW⟩ : ∃ W, W = putW n l (k : Int) := ⟨_, rfl⟩
      obtain ⟨l1, hl1⟩ : ∃ l1, l1 = put n l (k : Int) := ⟨_, rfl⟩
      rw [← hG, ← hW, ← hl1]
      rw [← hW, ← hG] at hne
      rw [← hl1] at HPut
      rintro e v1 ⟨rfl, m1, b1⟩
      have M1 : Hid (Lr.Mine v1 w.heap.size p n l1) := m1
      have B1 : Hid (Below w.heap.size w v1) := B.out.trans b1
      clear m1 b1 ck0 hpe hG hW hl1
      go_wp2_with fail
      refine (Keys_mine M1.out).mono ?_
      have hpos := HPut.out.2.1
      have hle : l1.length ≤ n := M1.out.ok.full
      obtain ⟨K, hK⟩ : ∃ K, K = l1.length := ⟨_, rfl⟩
      rw [← hK] at hpos hle ⊢
      rintro e v2 ⟨⟨ka, kc, rfl, hkr, _⟩, m2, b2⟩
      obtain ⟨rb, ro, rfl, cr⟩ := hkr 0 hpos
      dsimp only at cr
      rw [HPut.out.2.2, Nat.add_zero] at cr
      have M2 : Hid (Lr.Mine v2 w.heap.size p n l1) := m2
      have hb2 : Below w.heap.size w v2 := B1.out.trans (b2.mono B1.out.size)
      have B2 : Hid (Below w.heap.size w v2) := hb2
      have ck2 : v2.cell? ⟨kb, ko + j, none⟩ = some (.int .u8 ((k : Nat) : Int)) := (hb2.cell (p := ⟨kb, ko + j, none⟩) HC.out.2).trans HC.out.1
      have HPin : ∀ q, Calls Try.prog 14 #[.pointer (some ⟨p, 0, none⟩), .int .i64 (P : Int)] (v2.drewN q) fun r w' => r = .returned (.int .i64 1) ∧ w' = v2.drewN q := fun q => by
        have := Pinned_any (LruAt.drewN M2.out.1 q) HOP.out
        rwa [HPut.out.1.pinned] at this
      have HDr : ∀ q, Calls Try.prog 18 #[.pointer (some ⟨p, 0, none⟩), .int .i64 (P : Int)] (v2.drewN q) fun r w' => r = .returned (.int .i64 5) ∧ w' = v2.drewN q := fun q =>
        Drop_pinned (LruAt.drewN M2.out.1 q) HPut.out.1.has (by rw [HPut.out.1.pinned]; decide)
      have HPin : Hid (∀ q, Calls Try.prog 14 #[.pointer (some ⟨p, 0, none⟩), .int .i64 (P : Int)] (v2.drewN q) fun r w' => r = .returned (.int .i64 1) ∧ w' = v2.drewN q) := HPin
      have HDr : Hid (∀ q, Calls Try.prog 18 #[.pointer (some ⟨p, 0, none⟩), .int .i64 (P : Int)] (v2.drewN q) fun r w' => r = .returned (.int .i64 5) ∧ w' = v2.drewN q) := HDr
      have t1 : decide (n < K) = false := decide_eq_false (by omega)
      have t0 : decide ((n : Int) < (K : Int)) = false := decide_eq_false (by omega)
      have t2 : ((K : Int) == 0) = false := by rw [beq_eq_false_iff_ne]; omega
      clear m2 b2 hb2 hkr hK hle
      cases W with
      | false =>
        clear hne
        go_wp2_with fail
        go_quiet ((first | (go_at_call 14; refine Calls.quiet_of_same (HPin.out _)) | (go_at_call 18; refine Calls.quiet_of_same (HDr.out _))))
        go_wp2_with fail
        go_roundg (N - (j + 1))
        case measure => omega
        case rel => exact ⟨j + 1, l1, by omega, rfl, by go_num, ⟨M2.out.1.drewN nq, M2.out.2⟩, HPut.out.1, below_drewN B2.out _⟩
      | true =>
        have t3 : (G == (P : Int)) = false := beq_false_of_ne (hne rfl)
        clear hne
        go_wp2_with fail
        go_quiet ((first | (go_at_call 14; refine Calls.quiet_of_same (HPin.out _)) | (go_at_call 18; refine Calls.quiet_of_same (HDr.out _))))
        go_wp2_with fail
        go_roundg (N - (j + 1))
        case measure => omega
        case rel => exact ⟨j + 1, l1, by omega, rfl, by go_num, ⟨M2.out.1.drewN nq, M2.out.2⟩, HPut.out.1, below_drewN B2.out _⟩
    · have hx : ¬ (j : Int) < (N : Int) := by omega
      obtain ⟨g1, g2, g3, g4, g5, g6⟩ := HL.out.gone m.ok
      have G1 : Hid (unpinE l (P : Int) = 0) := g1
      have G2 : Hid (pins (unpin l (P : Int)) (P : Int) = 0) := g2
      have G3 : Hid (unpinE (unpin l (P : Int)) (P : Int) = 5) := g3
      have G4 : Hid (unpin (unpin l (P : Int)) (P : Int) = unpin l (P : Int)) := g4
      have G5 : Hid (dropE (unpin l (P : Int)) (P : Int) = 0) := g5
      have G6 : Hid (∀ l', l' = drop (unpin l (P : Int)) (P : Int) → dropE l' (P : Int) = 3 ∧ drop l' (P : Int) = l' ∧ Lr.has l' (P : Int) = false) := g6
      clear g1 g2 g3 g4 g5 g6 m b hlt
      go_wp2_with fail
      refine (Unpin_mine M.out HOP.out (by rw [HL.out.pinned]; decide)).mono ?_
      rw [G1.out]
      rintro e v1 ⟨rfl, m1, b1⟩
      obtain ⟨l1, hl1⟩ : ∃ l1, l1 = unpin l (P : Int) := ⟨_, rfl⟩
      rw [← hl1] at m1 G2 G3 G4 G5 G6
      have M1 : Hid (Lr.Mine v1 w.heap.size p n l1) := m1
      have B1 : Hid (Below w.heap.size w v1) := B.out.trans b1
      clear m1 b1 hl1 G1 hx
      go_wp2_with fail
      refine (Unpin_mine M1.out HOP.out (by rw [G2.out]; decide)).mono ?_
      rw [G3.out, G4.out]
      rintro e v2 ⟨rfl, m2, b2⟩
      have M2 : Hid (Lr.Mine v2 w.heap.size p n l1) := m2
      have B2 : Hid (Below w.heap.size w v2) := B1.out.trans b2
      clear m2 b2
      go_wp2_with fail
      refine (Drop_mine M2.out HOP.out).mono ?_
      rw [G5.out]
      rintro e v3 ⟨rfl, m3, b3⟩
      obtain ⟨l2, hl2⟩ : ∃ l2, l2 = drop l1 (P : Int) := ⟨_, rfl⟩
      rw [← hl2] at m3
      obtain ⟨q1, q2, q3⟩ := G6.out l2 hl2
      have Q1 : Hid (dropE l2 (P : Int) = 3) := q1
      have Q2 : Hid (drop l2 (P : Int) = l2) := q2
      have Q3 : Hid (Lr.has l2 (P : Int) = false) := q3
      have M3 : Hid (Lr.Mine v3 w.heap.size p n l2) := m3
      have B3 : Hid (Below w.heap.size w v3) := B2.out.trans b3
      clear m3 b3 hl2 q1 q2 q3
      go_wp2_with fail
      refine (Drop_mine M3.out HOP.out).mono ?_
      rw [Q1.out, Q2.out]
      rintro e v4 ⟨rfl, m4, b4⟩
      have M4 : Hid (Lr.Mine v4 w.heap.size p n l2) := m4
      have B4 : Hid (Below w.heap.size w v4) := B3.out.trans b4
      clear m4 b4
      go_wp2_with fail
      refine (Get_mine M4.out HOP.out).mono ?_
      rw [Q3.out]
      rintro e v5 ⟨rfl, _, b5⟩
      have B5 : Hid (Below w.heap.size w v5) := B4.out.trans b5
      clear b5
      go_wp2
      go_ret
      exact ⟨rfl, B5.out⟩

theorem walk (w : World) (a0 : Int) (w0 : (Lit.int .u8 a0).wf = true) (a1 : Option Addr) (len1 cap1 : Nat) (z1 : List Int) (w1 : IsRow .u8 w a1 len1 cap1 z1) (a2 : Int) (w2 : (Lit.int .u8 a2).wf = true) :
    Calls Try.prog 4 #[.int .u8 a0, .slice a1 len1 cap1, .int .u8 a2] w fun e w' => e = .returned (.bool true) ∧ Below w.heap.size w w' := by
  by_cases hb : 300 < len1
  · exact walk_big a0 a1 len1 cap1 a2 hb w
  · obtain ⟨rows, hlen, _, h8, hrow⟩ := w1.rowN 256 (by decide) (fun x hx => by have := bounds_u8 hx; omega)
    subst hlen
    have h1 := bounds_u8 w0
    have h2 := bounds_u8 w2
    obtain ⟨R, rfl⟩ : ∃ R : Nat, a0 = (R : Int) := ⟨a0.toNat, by omega⟩
    obtain ⟨P, rfl⟩ : ∃ P : Nat, a2 = (P : Int) := ⟨a2.toNat, by omega⟩
    exact core R (R % 60) (2 + R % 60) (by rw [Int.tmod_eq_emod_of_nonneg (by omega)]; omega) (by omega) (by omega) (by omega) (by omega) rows (by omega) h8 a1 cap1 P (by omega) w hrow

theorem own : ownKnob Try.prog.godebug = none := by kernel_rfl
theorem laidOut : laidOutB Try.prog = true := by kernel_rfl
set_option linter.unusedVariables false in
set_option maxRecDepth 100000 in
theorem lifted (os : Os) (started : os.Started) (H : Type) (enc : TypeId × Value → H) :
    ReturnsInHanded {} Try.checked os 4 .any (Rows.lruHoldsSpec.pre6 enc Try.prog Try.f4 Rows.lruHoldsRow.domain false) (Rows.lruHoldsSpec.post enc Try.prog Try.f4 false true false false) := by
  refine returnsInHanded_of_change (C := Try.checked) own started (by kernel_rfl) Try.func4
    (ChangeSpec.witness6 (enc := enc) (C := Try.checked) false ⟨#[], #[.int .u8 0, .slice none 0 0, .int .u8 0], []⟩ 8 (by kernel_rfl) (by kernel_rfl) (by kernel_rfl) (by kernel_rfl)) ?_
  intro W base args ds gs before hval0 hW hcnd _
  have hval : ∀ (j : Nat) t v, Try.f4.params[j]? = some t → args[j]? = some v → Value.okWide Try.prog W .any base t v := hval0
  have hW' := hW
  obtain ⟨p, q, hA0, hV, rfl, hfz, hnd⟩ := hW
  have hA : DataW.TrodAll enc Try.prog W 0 (fun _ => true) true Try.f4.params.toList args.toList ds p := hA0
  rw [Try.params4] at hA hval
  obtain ⟨v0, vs0, d0, ds0, p0, q0, hargs, rfl, rfl, h0, r0⟩ := trodAll_cons hA
  obtain ⟨v1, vs1, d1, ds1, p1, q1, rfl, rfl, rfl, h1, r1⟩ := trodAll_cons r0
  obtain ⟨v2, vs2, d2, ds2, p2, q2, rfl, rfl, rfl, h2, r2⟩ := trodAll_cons r1
  obtain ⟨rfl, rfl, rfl⟩ := trodAll_nil r2
  obtain rfl : args = #[v0, v1, v2] := by cases args; simp_all
  obtain ⟨rfl, rfl⟩ := trodVars_none hV
  obtain ⟨a0, rfl, rfl, rfl, w0⟩ := open_int Try.underlying5 (hval 0 5 v0 rfl rfl) h0
  obtain ⟨a1, len1, cap1, rfl⟩ := okWide_slice Try.underlying38 (hval 1 38 v1 rfl rfl)
  have k1 := h1
  have lt1 : ∀ x ∈ p1, x.block < W.heap.size := by obtain ⟨m, hm⟩ := k1; exact DataW.trod_lt m _ _ _ hm
  obtain ⟨z1, w1⟩ : ∃ zs, IsRow .u8 W a1 len1 cap1 zs := by
    obtain ⟨fuel, hf⟩ := h1
    rcases open_ints Try.underlying38 Try.underlying5 (by kernel_rfl) hf with ⟨hcs, _⟩ | ⟨x, l, c, zs, hcs, _, hl, hm, hz, _, hcell, hwz⟩
    · simp [Value.cells] at hcs
      obtain ⟨rfl, rfl, rfl⟩ := hcs
      exact ⟨[], .inl ⟨rfl, rfl, rfl, rfl⟩⟩
    · simp [Value.cells] at hcs
      obtain ⟨rfl, rfl, rfl⟩ := hcs
      exact ⟨zs, .inr ⟨_, rfl, hl, hm, by simpa using hz, hcell, hwz⟩⟩
  obtain ⟨a2, rfl, rfl, rfl, w2⟩ := open_int Try.underlying5 (hval 2 5 v2 rfl rfl) h2
  clear hA0 hval0
  simp only [List.append_nil] at hW'
  refine (walk W a0 w0 a1 len1 cap1 z1 w1 a2 w2).mono fun e W' ⟨he, hg⟩ => ?_
  subst he
  exact ⟨_, rfl, _, _, _, [], _, [], hW', trodAll_mk1 (shut_bool Try.underlying4 _), (trodAll_cons_mk (shut_int Try.underlying5 w0) (trodAll_cons_mk (Below.trod laidOut (by kernel_rfl) (of_decide_eq_true (by kernel_rfl)) k1 hg lt1) (trodAll_cons_mk (shut_int Try.underlying5 w2) trodAll_mk0))), rfl, hg.frame _, fun h => by cases h⟩
/-- For every input the law returns true, and each argument reads as it did. -/
theorem proved : Rows.LruHoldsSaid :=
  OpenClaim.holds_of_wide 4 Try.f4 rfl rfl rfl rfl rfl rfl rfl ⟨rfl, rfl, rfl, rfl, rfl⟩ rfl rfl rfl rfl rfl (by kernel_rfl) Try.func4 (by kernel_rfl)
    (of_decide_eq_true (by kernel_rfl)) (by unfold Func.isWrapper; first | (rw [if_pos (by decide +kernel)]; kernel_rfl) | (rw [if_neg (by decide +kernel)]; exact ⟨rfl, rfl⟩))
    (fun os started H enc _ => lifted os started H enc)
end Go.Proofs.Ytmmhfkohfijlaaa.lruHolds
