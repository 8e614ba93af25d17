/- The walks of pack: widths, fitting numbers, sizes; the iterator that goes through numbers and widths. -/
import Derived.Test.YtmikllmpinciiaaKitRow
import Derived.Test.YtmikllmpinciiaaPackMath
namespace Go.Proofs.Ytmikllmpinciiaa
open Go.RowKit

theorem may_any (x : Int) (w : World) :
    Calls Try.prog 36 #[.int .i64 x] w fun e w' => e = .returned (.bool (Pk.may x)) ∧ w' = w := by
  by_cases h1 : 1 ≤ x
  · by_cases h2 : x ≤ 8
    · have E : Hid (Pk.may x = true) := (Pk.may_iff x).2 ⟨h1, h2⟩
      go_enter Try.func36, Try.ntmps36
      go_wp2
      go_ret
      exact ⟨ret_bool E.out.symm, rfl⟩
    · have E : Hid (Pk.may x = false) := by show _ = _; simp [Pk.may, h2]
      go_enter Try.func36, Try.ntmps36
      go_wp2
      go_ret
      exact ⟨ret_bool E.out.symm, rfl⟩
  · have E : Hid (Pk.may x = false) := by show _ = _; simp [Pk.may, h1]
    go_enter Try.func36, Try.ntmps36
    go_wp2
    go_ret
    exact ⟨ret_bool E.out.symm, rfl⟩

theorem Pk.shr_nat (n k : Nat) : (n : Int) / 2 ^ (8 * k) = ((n / 256 ^ k : Nat) : Int) := by
  rw [Pk.pow256]; simp
theorem Pk.shr_zero (n k : Nat) (h : Pk.may k = true) : ((n : Int) / 2 ^ (8 * k) == 0) = Pk.fits n k := by
  rw [Pk.shr_nat, Bool.eq_iff_iff, beq_iff_eq, Pk.fits_iff]
  have hp : 0 < 256 ^ k := Nat.pow_pos (by decide)
  rw [Pk.may_iff] at h
  constructor
  · intro e
    refine ⟨h, ?_⟩
    have e' : n / 256 ^ k = 0 := by omega
    rw [Nat.div_eq_zero_iff] at e'
    show n < 256 ^ k
    omega
  · rintro ⟨_, e⟩
    have e' : n / 256 ^ k = 0 := Nat.div_eq_of_lt e
    omega
theorem Fits_any (n : Nat) (_hn : n < 18446744073709551616) (x : Int) (w : World) :
    Calls Try.prog 37 #[.int .u64 n, .int .i64 x] w fun e w' => e = .returned (.bool (Pk.fits n x)) ∧ w' = w := by
  cases hm : Pk.may x with
  | false =>
    have E : Hid (Pk.fits n x = false) := by show _ = _; simp [Pk.fits, hm]
    go_enter Try.func37, Try.ntmps37
    go_wp2_with fail
    refine (may_any _ _).mono ?_
    rintro e w' ⟨rfl, rfl⟩
    rw [hm]
    go_wp2
    go_ret
    exact ⟨ret_bool E.out.symm, rfl⟩
  | true =>
    obtain ⟨h1, h2⟩ := (Pk.may_iff x).1 hm
    obtain ⟨k, rfl⟩ := Int.eq_ofNat_of_zero_le (show 0 ≤ x by omega)
    have E : Hid (((n : Int) / 2 ^ (8 * k) == 0) = Pk.fits n k) := Pk.shr_zero n k hm
    go_enter Try.func37, Try.ntmps37
    go_wp2_with fail
    refine (may_any _ _).mono ?_
    rintro e w' ⟨rfl, rfl⟩
    rw [hm]
    go_wp2
    go_ret
    exact ⟨ret_bool E.out, rfl⟩

set_option maxRecDepth 100000 in
set_option maxHeartbeats 400000 in
theorem fitting_any (l : List Nat) (ws : List Int) (hl : l.length = ws.length) (hm : ws.length ≤ 64) (hf : ∀ j, l.getD j 0 < 18446744073709551616) (a b : Option Addr) (ca cb : Nat) (w : World)
    (ha : RowI .u64 w a l.length (fun j => (l.getD j 0 : Nat))) (hb : RowI .i64 w b ws.length (fun j => ws.getD j 0)) :
    Calls Try.prog 27 #[.slice a l.length ca, .slice b ws.length cb] w fun e w' => e = .returned (.bool (Pk.fitAll l ws)) ∧ w' = w := by
  obtain ⟨m, hm0⟩ : ∃ m, m = ws.length := ⟨_, rfl⟩
  rw [hl] at ha ⊢
  rw [← hm0] at hm ha hb ⊢
  have Hm : Hid (m = ws.length) := hm0
  clear hm0 hl
  go_enter Try.func27, Try.ntmps27
  go_wp2
  go_loop [9] (fun i => ∃ k : Nat, k ≤ m ∧ i = .int .i64 k ∧ ∀ j, j < k → Pk.fits (l.getD j 0) (ws.getD j 0) = true) (fun i => m - (intOf i).toNat)
  case atStart => exact ⟨0, Nat.zero_le _, rfl, fun j hj => absurd hj (Nat.not_lt_zero _)⟩
  case round =>
    obtain ⟨k, hk, rfl, hall⟩ := hrel
    have Hall : Hid (∀ j, j < k → Pk.fits (l.getD j 0) (ws.getD j 0) = true) := hall
    clear hall
    by_cases hlt : k < m
    · obtain ⟨b1, o1, rfl, hc1⟩ := ha k hlt
      obtain ⟨b2, o2, rfl, hc2⟩ := hb k hlt
      have hfk := hf k
      obtain ⟨n, hn⟩ : ∃ n, l.getD k 0 = n := ⟨_, rfl⟩
      obtain ⟨x, hx⟩ : ∃ x, ws.getD k 0 = x := ⟨_, rfl⟩
      simp only [hn, hx] at hc1 hc2 hfk
      have Hn : Hid (l.getD k 0 = n) := hn
      have Hx : Hid (ws.getD k 0 = x) := hx
      have Ha : Hid (RowI .u64 w (some ⟨b1, o1, none⟩) m (fun j => (l.getD j 0 : Nat))) := ha
      have Hb : Hid (RowI .i64 w (some ⟨b2, o2, none⟩) m (fun j => ws.getD j 0)) := hb
      have Hf : Hid (∀ j, l.getD j 0 < 18446744073709551616) := hf
      clear hn hx ha hb hf
      cases hfit : Pk.fits n x with
      | false =>
        go_wp2_with fail
        refine (Fits_any n hfk x _).mono ?_
        rintro e w' ⟨rfl, rfl⟩
        rw [hfit]
        go_wp2
        go_ret
        exact ⟨ret_bool (Pk.fitAll_not (j := k) (by rw [← Hm.out]; exact hlt) (by rw [Hn.out, Hx.out]; exact hfit)).symm, rfl⟩
      | true =>
        go_wp2_with fail
        refine (Fits_any n hfk x _).mono ?_
        rintro e w' ⟨rfl, rfl⟩
        rw [hfit]
        go_wp2
        go_round
        case rel =>
          refine ⟨k + 1, by omega, by go_num, fun j hj => ?_⟩
          by_cases e : j = k
          · subst e; rw [Hn.out, Hx.out]; exact hfit
          · exact Hall.out j (by omega)
        case measure => simp [intOf]; omega
    · have hkk : k = m := by omega
      have E : Hid (Pk.fitAll l ws = true) := (Pk.fitAll_iff _ _).2 (by rw [← Hm.out, ← hkk]; exact Hall.out)
      clear hkk
      go_wp2
      go_ret
      exact ⟨ret_bool E.out.symm, rfl⟩

set_option maxRecDepth 100000 in
set_option maxHeartbeats 400000 in
theorem Size_any (ws : List Int) (hlen : ws.length ≤ maxLen) (b : Option Addr) (cb : Nat) (w : World) (hb : RowI .i64 w b ws.length (fun j => ws.getD j 0)) :
    Calls Try.prog 26 #[.slice b ws.length cb] w fun e w' => e = .returned (.tuple #[.int .i64 (Pk.sizeN ws), .int .i64 (Pk.sizeE ws)]) ∧ w' = w := by
  unfold maxLen at hlen
  obtain ⟨m, hm0⟩ : ∃ m, m = ws.length := ⟨_, rfl⟩
  rw [← hm0] at hlen hb ⊢
  have Hm : Hid (m = ws.length) := hm0
  by_cases h64 : 64 < m
  · have h64' : (64 : Int) < (m : Int) := by omega
    have hbad : Pk.okW ws = false := Pk.okW_long (by omega)
    have E1 : Hid (Pk.sizeN ws = 0) := Pk.sizeN_no hbad
    have E2 : Hid (Pk.sizeE ws = 1) := Pk.sizeE_no hbad
    clear hm0 hbad
    go_enter Try.func26, Try.ntmps26
    go_wp2
    go_ret2
    exact ⟨ret_two (by rw [E1.out]; rfl) (by rw [E2.out]; rfl), rfl⟩
  · have h64' : ¬ (64 : Int) < (m : Int) := by omega
    clear hm0
    go_enter Try.func26, Try.ntmps26
    go_wp2
    go_loop [4, 12] (fun s i => ∃ k : Nat, k ≤ m ∧ s = .int .i64 (Pk.offs ws k : Nat) ∧ i = .int .i64 k ∧ Pk.offs ws k ≤ 8 * k ∧ ∀ j, j < k → 1 ≤ ws.getD j 0 ∧ ws.getD j 0 ≤ 8) (fun _ i => m - (intOf i).toNat)
    case atStart => exact ⟨0, Nat.zero_le _, rfl, rfl, Nat.le_refl _, fun j hj => absurd hj (Nat.not_lt_zero _)⟩
    case round =>
      obtain ⟨k, hk, rfl, rfl, ho, hall⟩ := hrel
      have Hall : Hid (∀ j, j < k → 1 ≤ ws.getD j 0 ∧ ws.getD j 0 ≤ 8) := hall
      clear hall
      by_cases hlt : k < m
      · obtain ⟨b2, o2, rfl, hc2⟩ := hb k hlt
        obtain ⟨x, hx⟩ : ∃ x, ws.getD k 0 = x := ⟨_, rfl⟩
        simp only [hx] at hc2
        have Hx : Hid (ws.getD k 0 = x) := hx
        have Hb : Hid (RowI .i64 w (some ⟨b2, o2, none⟩) m (fun j => ws.getD j 0)) := hb
        clear hx hb
        cases hmay : Pk.may x with
        | false =>
          have hbad : Pk.okW ws = false := Pk.okW_not (j := k) (by rw [← Hm.out]; exact hlt) (by rw [Hx.out]; exact hmay)
          have E1 : Hid (Pk.sizeN ws = 0) := Pk.sizeN_no hbad
          have E2 : Hid (Pk.sizeE ws = 1) := Pk.sizeE_no hbad
          clear hbad
          go_wp2_with fail
          refine (may_any x _).mono ?_
          rintro e w' ⟨rfl, rfl⟩
          rw [hmay]
          go_wp2
          go_ret2
          exact ⟨ret_two (by rw [E1.out]; rfl) (by rw [E2.out]; rfl), rfl⟩
        | true =>
          obtain ⟨hx1, hx8⟩ := (Pk.may_iff x).1 hmay
          have E : Hid ((Pk.offs ws (k + 1) : Int) = (Pk.offs ws k : Int) + x) := by
            show _ = _
            have : Pk.offs ws (k + 1) = Pk.offs ws k + (ws.getD k 0).toNat := rfl
            rw [this, Hx.out]; omega
          obtain ⟨o, ho2⟩ : ∃ o, Pk.offs ws k = o := ⟨_, rfl⟩
          have E' : Hid ((Pk.offs ws (k + 1) : Int) = (o : Int) + x) := by rw [← ho2]; exact E
          rw [ho2] at ho ⊢
          clear E ho2
          go_wp2_with fail
          refine (may_any x _).mono ?_
          rintro e w' ⟨rfl, rfl⟩
          rw [hmay]
          go_wp2
          go_round
          case rel =>
            refine ⟨k + 1, by omega, by rw [E'.out], by go_num, by have := E'.out; omega, fun j hj => ?_⟩
            by_cases e : j = k
            · subst e; rw [Hx.out]; exact ⟨hx1, hx8⟩
            · exact Hall.out j (by omega)
          case measure => simp [intOf]; omega
      · have hkk : k = m := by omega
        have hok : Pk.okW ws = true := Pk.okW_of (by rw [← Hm.out]; omega) (by rw [← Hm.out, ← hkk]; exact Hall.out)
        have E1 : Hid (Pk.sizeN ws = (Pk.offs ws k : Nat)) := by show _ = _; rw [Pk.sizeN_yes hok, hkk, Hm.out]
        have E2 : Hid (Pk.sizeE ws = 0) := Pk.sizeE_yes hok
        clear hkk hok
        go_wp2
        go_ret2
        exact ⟨ret_two (by rw [E1.out]; rfl) (by rw [E2.out]; rfl), rfl⟩
end Go.Proofs.Ytmikllmpinciiaa
