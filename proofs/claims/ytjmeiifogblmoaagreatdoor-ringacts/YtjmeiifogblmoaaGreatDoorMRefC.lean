/- Several texts in one. The walks of the document's own answers for pack. The walk of the document's own answer for pack: unpacking. -/
import Derived.Test.YtjmeiifogblmoaaGreatDoorMPackA
import Derived.RegionTactic
import Derived.ChangeAlike
import Derived.BigRegion
import Derived.BigQuiet
import Derived.Deep.QuietTactic
import Derived.Deep.RegionHeld3
namespace Go.Proofs.YtjmeiifogblmoaaGreatDoor
open Go.RowKit

theorem Pk.shr_step (N k : Nat) : ((N / 256 ^ k : Nat) : Int) / 256 = ((N / 256 ^ (k + 1) : Nat) : Int) := by
  rw [Nat.pow_succ, ← Nat.div_div_eq_div_mul]; simp
theorem Pk.fits_dec (N k : Nat) (h : Pk.may k = true) : (((N / 256 ^ k : Nat) : Int) == 0) = Pk.fits N k := by
  rw [← Pk.shr_nat]; exact Pk.shr_zero N k h

set_option maxRecDepth 100000 in
set_option maxHeartbeats 400000 in
theorem refFits_any (n : Nat) (hn : n < 18446744073709551616) (x : Int) (w : World) :
    Calls Tryz.prog 119 #[.int .u64 n, .int .i64 x] w fun e w' => e = .returned (.bool (Pk.fits n x)) ∧ w' = w := by
  cases hm : Pk.may x with
  | false =>
    have E : Hid (Pk.fits n x = false) := by show _ = _; simp [Pk.fits, hm]
    by_cases h1 : x < 1
    · clear hm
      go_enter Tryz.func119, Tryz.ntmps119
      go_wp2
      go_ret
      exact ⟨ret_bool E.out.symm, rfl⟩
    · have h2 : 8 < x := by
        cases e : decide (x ≤ 8) with
        | false => simpa using e
        | true =>
          have : Pk.may x = true := (Pk.may_iff x).2 ⟨by omega, by simpa using e⟩
          rw [this] at hm; cases hm
      clear hm
      go_enter Tryz.func119, Tryz.ntmps119
      go_wp2
      go_ret
      exact ⟨ret_bool E.out.symm, rfl⟩
  | true =>
    obtain ⟨h1, h2⟩ := (Pk.may_iff x).1 hm
    obtain ⟨k, rfl⟩ := Int.eq_ofNat_of_zero_le (show 0 ≤ x by omega)
    have E : Hid ((((n / 256 ^ k : Nat) : Int) == 0) = Pk.fits n k) := Pk.fits_dec n k hm
    have h1' : ¬ (k : Int) < 1 := by omega
    have h2' : ¬ (8 : Int) < (k : Int) := by omega
    clear hm
    go_enter Tryz.func119, Tryz.ntmps119
    go_wp2
    go_loop [0, 5] (fun v i => ∃ j X : Nat, j ≤ k ∧ X = n / 256 ^ j ∧ v = .int .u64 X ∧ i = .int .i64 j) (fun _ i => k - (intOf i).toNat)
    case atStart => exact ⟨0, n, by omega, by simp, rfl, rfl⟩
    case round =>
      obtain ⟨j, X, hj, hX, rfl, rfl⟩ := hrel
      have hX64 : X < 18446744073709551616 := Nat.lt_of_le_of_lt (by rw [hX]; exact Nat.div_le_self _ _) hn
      by_cases hlt : j < k
      · have HX : Hid (((X : Int)) / 256 = ((n / 256 ^ (j + 1) : Nat) : Int)) := by show _ = _; rw [hX]; exact Pk.shr_step n j
        clear hX
        go_wp2
        go_round
        case rel => exact ⟨j + 1, _, by omega, rfl, by rw [← HX.out], by go_num⟩
        case measure => simp [intOf]; omega
      · have hjk : j = k := by omega
        have HX : Hid (((X : Int) == 0) = Pk.fits n k) := by show _ = _; rw [hX, hjk]; exact E.out
        clear hX hjk
        go_wp2
        go_ret
        exact ⟨ret_bool HX.out, rfl⟩

set_option maxRecDepth 100000 in
set_option maxHeartbeats 400000 in
theorem refSize_any (ws : List Int) (hlen : ws.length ≤ maxLen) (b : Option Addr) (cb : Nat) (w : World) (hb : RowI .i64 w b ws.length (fun j => ws.getD j 0)) :
    Calls Tryz.prog 97 #[.slice b ws.length cb] w fun e w' => e = .returned (.tuple #[.int .i64 (Pk.sizeN ws), .int .i64 (Pk.sizeE ws)]) ∧ w' = w := by
  unfold maxLen at hlen
  obtain ⟨m, hm0⟩ : ∃ m, m = ws.length := ⟨_, rfl⟩
  rw [← hm0] at hlen hb ⊢
  have Hm : Hid (m = ws.length) := hm0
  by_cases h64 : 64 < m
  · have h64' : (64 : Int) < (m : Int) := by omega
    have hbad : Pk.okW ws = false := Pk.okW_long (by omega)
    have E1 : Hid (Pk.sizeN ws = 0) := Pk.sizeN_no hbad
    have E2 : Hid (Pk.sizeE ws = 1) := Pk.sizeE_no hbad
    clear hm0 hbad
    go_enter Tryz.func97, Tryz.ntmps97
    go_wp2
    go_ret2
    exact ⟨ret_two (by rw [E1.out]; rfl) (by rw [E2.out]; rfl), rfl⟩
  · have h64' : ¬ (64 : Int) < (m : Int) := by omega
    clear hm0
    go_enter Tryz.func97, Tryz.ntmps97
    go_wp2
    go_loop [4, 5] (fun s i => ∃ k : Nat, k ≤ m ∧ s = .int .i64 (Pk.offs ws k : Nat) ∧ i = .int .i64 k ∧ Pk.offs ws k ≤ 8 * k ∧ ∀ j, j < k → 1 ≤ ws.getD j 0 ∧ ws.getD j 0 ≤ 8) (fun _ i => m - (intOf i).toNat)
    case atStart => exact ⟨0, Nat.zero_le _, rfl, rfl, Nat.le_refl _, fun j hj => absurd hj (Nat.not_lt_zero _)⟩
    case round =>
      obtain ⟨k, hk, rfl, rfl, ho, hall⟩ := hrel
      have Hall : Hid (∀ j, j < k → 1 ≤ ws.getD j 0 ∧ ws.getD j 0 ≤ 8) := hall
      clear hall
      by_cases hlt : k < m
      · obtain ⟨b2, o2, rfl, hc2⟩ := hb k hlt
        obtain ⟨x, hx⟩ : ∃ x, ws.getD k 0 = x := ⟨_, rfl⟩
        simp only [hx] at hc2
        have Hx : Hid (ws.getD k 0 = x) := hx
        have Hb : Hid (RowI .i64 w (some ⟨b2, o2, none⟩) m (fun j => ws.getD j 0)) := hb
        clear hx hb
        cases hmay : Pk.may x with
        | false =>
          have hbad : Pk.okW ws = false := Pk.okW_not (j := k) (by rw [← Hm.out]; exact hlt) (by rw [Hx.out]; exact hmay)
          have E1 : Hid (Pk.sizeN ws = 0) := Pk.sizeN_no hbad
          have E2 : Hid (Pk.sizeE ws = 1) := Pk.sizeE_no hbad
          by_cases h1 : x < 1
          · clear hbad hmay
            go_wp2
            go_ret2
            exact ⟨ret_two (by rw [E1.out]; rfl) (by rw [E2.out]; rfl), rfl⟩
          · have h2 : 8 < x := by
              cases e : decide (x ≤ 8) with
              | false => simpa using e
              | true =>
                have : Pk.may x = true := (Pk.may_iff x).2 ⟨by omega, by simpa using e⟩
                rw [this] at hmay; cases hmay
            clear hbad hmay
            go_wp2
            go_ret2
            exact ⟨ret_two (by rw [E1.out]; rfl) (by rw [E2.out]; rfl), rfl⟩
        | true =>
          obtain ⟨hx1, hx8⟩ := (Pk.may_iff x).1 hmay
          have E : Hid ((Pk.offs ws (k + 1) : Int) = (Pk.offs ws k : Int) + x) := by
            show _ = _
            have : Pk.offs ws (k + 1) = Pk.offs ws k + (ws.getD k 0).toNat := rfl
            rw [this, Hx.out]; omega
          obtain ⟨o, ho2⟩ : ∃ o, Pk.offs ws k = o := ⟨_, rfl⟩
          have E' : Hid ((Pk.offs ws (k + 1) : Int) = (o : Int) + x) := by rw [← ho2]; exact E
          rw [ho2] at ho ⊢
          have g1 : ¬ x < 1 := by omega
          have g2 : ¬ 8 < x := by omega
          clear E ho2 hmay
          go_wp2
          go_round
          case rel =>
            refine ⟨k + 1, by omega, by rw [E'.out], by go_num, by have := E'.out; omega, fun j hj => ?_⟩
            by_cases e : j = k
            · subst e; rw [Hx.out]; exact ⟨hx1, hx8⟩
            · exact Hall.out j (by omega)
          case measure => simp [intOf]; omega
      · have hkk : k = m := by omega
        have hok : Pk.okW ws = true := Pk.okW_of (by rw [← Hm.out]; omega) (by rw [← Hm.out, ← hkk]; exact Hall.out)
        have E1 : Hid (Pk.sizeN ws = (Pk.offs ws k : Nat)) := by show _ = _; rw [Pk.sizeN_yes hok, hkk, Hm.out]
        have E2 : Hid (Pk.sizeE ws = 0) := Pk.sizeE_yes hok
        clear hkk hok
        go_wp2
        go_ret2
        exact ⟨ret_two (by rw [E1.out]; rfl) (by rw [E2.out]; rfl), rfl⟩

set_option maxRecDepth 100000 in
set_option maxHeartbeats 400000 in
theorem refEncode_size (l : List Nat) (ws : List Int) (hok : Pk.okW ws = false) (hlen : ws.length ≤ maxLen) (a b : Option Addr) (la ca cb : Nat) (w : World)
    (hb : RowI .i64 w b ws.length (fun j => ws.getD j 0)) :
    Calls Tryz.prog 85 #[.slice a la ca, .slice b ws.length cb] w fun e w' => e = .returned (.tuple #[.string (Pk.encS l ws), .int .i64 (Pk.encE l ws)]) ∧ Below w.heap.size w w' := by
  have hE1 := Pk.sizeE_no hok
  have E1 : Hid (Pk.encE l ws = 1) := Pk.encE_size hok
  have E2 : Hid (Pk.encS l ws = ByteArray.empty) := by show _ = _; unfold Pk.encS; rw [Pk.enc_size hok]; rfl
  go_enter Tryz.func85, Tryz.ntmps85
  go_wp2_with fail
  refine (refSize_any ws hlen b cb _ hb).mono ?_
  rintro e w' ⟨rfl, rfl⟩
  rw [hE1]
  go_wp2
  go_ret2
  exact ⟨ret_two (by rw [E2.out]; rfl) (by rw [E1.out]; rfl), Below.refl _ _⟩

set_option maxRecDepth 100000 in
set_option maxHeartbeats 400000 in
theorem refEncode_count (l : List Nat) (ws : List Int) (hok : Pk.okW ws = true) (hne : l.length ≠ ws.length) (_hl : l.length ≤ maxLen) (a b : Option Addr) (ca cb : Nat) (w : World)
    (hb : RowI .i64 w b ws.length (fun j => ws.getD j 0)) :
    Calls Tryz.prog 85 #[.slice a l.length ca, .slice b ws.length cb] w fun e w' => e = .returned (.tuple #[.string (Pk.encS l ws), .int .i64 (Pk.encE l ws)]) ∧ Below w.heap.size w w' := by
  have hE1 := Pk.sizeE_yes hok
  have h64 := Pk.okW_len hok
  unfold maxLen at _hl
  have E1 : Hid (Pk.encE l ws = 1) := Pk.encE_count hok hne
  have E2 : Hid (Pk.encS l ws = ByteArray.empty) := by show _ = _; unfold Pk.encS; rw [Pk.enc_count hne]; rfl
  have hne2 : ((l.length : Int) == (ws.length : Int)) = false := by rw [beq_eq_false_iff_ne]; omega
  go_enter Tryz.func85, Tryz.ntmps85
  go_wp2_with fail
  refine (refSize_any ws (by unfold maxLen; omega) b cb _ hb).mono ?_
  rintro e w' ⟨rfl, rfl⟩
  rw [hE1]
  go_wp2
  go_ret2
  exact ⟨ret_two (by rw [E2.out]; rfl) (by rw [E1.out]; rfl), Below.refl _ _⟩

set_option maxRecDepth 100000 in
set_option maxHeartbeats 2000000 in
theorem refEncode_fit (l : List Nat) (ws : List Int) (hok : Pk.okW ws = true) (hl : l.length = ws.length) (hf : ∀ j, l.getD j 0 < 18446744073709551616) (a b : Option Addr) (ca cb : Nat) (w : World)
    (ha : RowI .u64 w a l.length (fun j => (l.getD j 0 : Nat))) (hb : RowI .i64 w b ws.length (fun j => ws.getD j 0)) :
    Calls Tryz.prog 85 #[.slice a l.length ca, .slice b ws.length cb] w fun e w' => e = .returned (.tuple #[.string (Pk.encS l ws), .int .i64 (Pk.encE l ws)]) ∧ Below w.heap.size w w' := by
  have hE1 := Pk.sizeE_yes hok
  have h64 := Pk.okW_len hok
  have hoffs : ∀ i, i ≤ ws.length → _ := fun i hi => Pk.offs_le hok hi
  have hat : ∀ k, k < ws.length → _ := fun k hk => Pk.wd_le hok hk
  have hne2 : ((l.length : Int) == (ws.length : Int)) = true := by rw [hl]; simp
  obtain ⟨m, hm0⟩ : ∃ m, m = ws.length := ⟨_, rfl⟩
  rw [hl, ← hm0] at ha ⊢
  rw [← hm0] at h64 hb
  have Hm : Hid (m = ws.length) := hm0
  have Hl : Hid (l.length = ws.length) := hl
  have Hok : Hid (Pk.okW ws = true) := hok
  obtain ⟨i0, hi, hz0, hz1, hz2⟩ := info_parts (show (Tryz.prog.info? 5).map (fun i => (i.zero, i.size, i.bytes)) = some (some (.int .u8 0), 1, 1) from info_u8)
  rw [hl, ← hm0] at hne2
  have hrs := refSize_any ws (by unfold maxLen; omega) b cb w (by rw [← hm0]; exact hb)
  rw [← hm0] at hrs
  have Hrs : Hid (Calls Tryz.prog 97 #[.slice b m cb] w fun e w' => e = .returned (.tuple #[.int .i64 (Pk.sizeN ws), .int .i64 (Pk.sizeE ws)]) ∧ w' = w) := hrs
  clear hl hok hm0 hrs
  go_enter Tryz.func85, Tryz.ntmps85
  go_wp2_with fail
  refine Hrs.out.mono ?_
  rintro e w' ⟨rfl, rfl⟩
  rw [hE1]
  go_wp2
  go_loopw [8, 9] (fun o i wr => ∃ k : Nat, k ≤ m ∧ i = .int .i64 k ∧ (wr.ownsRow w'.heap.size 5 1 o (Pk.offs ws k) (byteVals (Pk.encP l ws k 0)) ∧ Below w'.heap.size w' wr) ∧ ∀ j, j < k → Pk.fits (l.getD j 0) (ws.getD j 0) = true) (fun _ i _ => m - (intOf i).toNat)
  case atStart =>
    exact ⟨0, Nat.zero_le _, rfl, ⟨by simpa [Pk.encP, Pk.offs, Pk.bytesOf, byteVals] using World.ownsRow_made (base := w'.heap.size) (e := 5) (size := 1) w' #[] 0 (Nat.le_refl _) (by decide) rfl, (Below.refl _ _).alloc (Nat.le_refl _) _⟩, fun j hj => absurd hj (Nat.not_lt_zero _)⟩
  case round =>
    obtain ⟨k, hk, rfl, ⟨hown, hB⟩, hall⟩ := hrel
    have Hall : Hid (∀ j, j < k → Pk.fits (l.getD j 0) (ws.getD j 0) = true) := hall
    have Hown : Hid (wr.ownsRow w'.heap.size 5 1 u8 (Pk.offs ws k) (byteVals (Pk.encP l ws k 0))) := hown
    have HB : Hid (Below w'.heap.size w' wr) := hB
    by_cases hlt : k < m
    · obtain ⟨b1, o1, rfl, hc1'⟩ := ha k hlt
      obtain ⟨b2, o2, rfl, hc2'⟩ := hb k hlt
      have hb1 := World.block_lt_of_cell? w' _ hc1'
      have hb2 := World.block_lt_of_cell? w' _ hc2'
      obtain ⟨g1, g8, gx⟩ := hat k (by rw [← Hm.out]; exact hlt)
      have hfk := hf k
      obtain ⟨n, hn⟩ : ∃ n, l.getD k 0 = n := ⟨_, rfl⟩
      obtain ⟨x, hx⟩ : ∃ x, Pk.wd ws k = x := ⟨_, rfl⟩
      rw [hx] at g1 g8 gx
      simp only [hn, ← gx] at hc1' hc2' hfk
      have hc1 := (hB.cell (p := ⟨b1, o1 + k, none⟩) hb1).trans hc1'
      have hc2 := (hB.cell (p := ⟨b2, o2 + k, none⟩) hb2).trans hc2'
      have Hn : Hid (l.getD k 0 = n) := hn
      have Hx : Hid (Pk.wd ws k = x) := hx
      have Hgx : Hid ((x : Int) = ws.getD k 0) := gx
      have hok8 := hoffs k (by rw [← Hm.out]; omega)
      obtain ⟨o8, ho8⟩ : ∃ o8, Pk.offs ws k = o8 := ⟨_, rfl⟩
      have Ho8 : Hid (Pk.offs ws k = o8) := ho8
      rw [ho8] at hok8
      clear hn hx gx ho8 hown hB hall
      cases hfit : Pk.fits n x with
      | false =>
        have hnot : Pk.fitAll l ws = false := Pk.fitAll_not (j := k) (by rw [← Hm.out]; exact hlt) (by rw [Hn.out, ← Hgx.out]; exact hfit)
        have E1 : Hid (Pk.encE l ws = 30) := Pk.encE_unfit Hok.out Hl.out hnot
        have E2 : Hid (Pk.encS l ws = ByteArray.empty) := by show _ = _; unfold Pk.encS; rw [Pk.enc_unfit hnot]; rfl
        clear hnot
        go_wp2
        go_quiet ((go_at_call 119; refine Calls.quiet_of_same (refFits_any n hfk x _)))
        go_wp2
        go_ret2
        exact ⟨ret_two (by rw [E2.out]; rfl) (by rw [E1.out]; rfl), below_drewN HB.out _⟩
      | true =>
        go_wp2
        go_quiet ((go_at_call 119; refine Calls.quiet_of_same (refFits_any n hfk x _)))
        go_wp2
        rw [hfit]
        go_loopw [8, 10] (fun o t wr2 => ∃ j : Nat, j ≤ x ∧ t = .int .i64 j ∧ wr2.ownsRow w'.heap.size 5 1 o (o8 + j) (byteVals (Pk.encP l ws k j)) ∧ Below w'.heap.size w' wr2) (fun _ t _ => x - (intOf t).toNat)
        case atStart => exact ⟨0, Nat.zero_le _, rfl, by rw [← Ho8.out]; exact Hown.out, below_drewN HB.out _⟩
        case round =>
          obtain ⟨j, hj, rfl, hown2, hB2⟩ := hrel
          have hcc1 := (hB2.cell (p := ⟨b1, o1 + k, none⟩) hb1).trans hc1'
          have hcc2 := (hB2.cell (p := ⟨b2, o2 + k, none⟩) hb2).trans hc2'
          have hB2s := hB2.size
          have HB2 : Hid (Below w'.heap.size w' wr) := hB2
          clear hB2
          by_cases hjx : j < x
          · have hbyte : (n : Int) / 2 ^ (8 * j) % 256 = ((Pk.byteAt n j).toNat : Int) := by rw [Pk.shr_nat, Pk.byteAt_toNat]; omega
            have hj512 : o8 + j + 1 ≤ 1024 := by omega
            go_wp2_with (at_builtin; refine wpList_append_own _ rfl _ _ 44 rfl w'.heap.size 5 i0 (.int .u8 0) 1 1 Tryz.underlying44 hi hz0 hz1 hz2 rfl (by decide) u8 (o8 + j) (byteVals (Pk.encP l ws k j)) rfl (hown2.alloc _) ⟨wr.heap.size, 0, none⟩ 1 1 [.int .u8 ((Pk.byteAt n j).toNat : Int)] rfl rfl (cell_one_new _ _ _) (by simp [Value.oneCell']) (by unfold maxLen; omega) (by omega) (by simp; omega) ?_; intro v' w1 hown' hgrow _; obtain ⟨g', cap', rfl⟩ := ownsRow_succ hown')
            have hb1' := below_append hown2 hB2s hgrow
            go_roundw
            case rel =>
              have hr : ∃ j_1 : Nat, j_1 ≤ x ∧ Value.int .i64 ((j : Int) + 1) = Value.int .i64 (j_1 : Int) ∧ w1.ownsRow w'.heap.size 5 1 (.slice (some ⟨g', 0, none⟩) (o8 + j + 1) cap') (o8 + j_1) (byteVals (Pk.encP l ws k j_1)) ∧ Below w'.heap.size w' w1 := ⟨j + 1, by omega, by go_num, by rw [Pk.encP_succ, ← byteVals_snoc, Hn.out]; exact hown', HB2.out.trans hb1'⟩
              first | exact hr | ((repeat apply Exists.intro); exact ⟨hr, rfl⟩)
            case measure => simp [intOf]; omega
          · have hjx' : j = x := by omega
            have Ho : Hid (wr.ownsRow w'.heap.size 5 1 u8 (Pk.offs ws (k + 1)) (byteVals (Pk.encP l ws (k + 1) 0))) := by
              have e : Pk.offs ws (k + 1) = o8 + j := by show Pk.offs ws k + Pk.wd ws k = _; rw [Ho8.out, Hx.out, hjx']
              show World.ownsRow _ _ _ _ _ _ _
              rw [e, ← Pk.encP_next, Hx.out, ← hjx']; exact hown2
            clear hjx'
            go_wp2
            go_roundw
            case rel =>
              refine ⟨k + 1, by omega, by go_num, ⟨Ho.out, HB2.out⟩, fun i hi => ?_⟩
              by_cases e : i = k
              · subst e; rw [Hn.out, ← Hgx.out]; exact hfit
              · exact Hall.out i (by omega)
            case measure => simp [intOf]; omega
    · have hkm : k = m := by omega
      have hfit : Pk.fitAll l ws = true := (Pk.fitAll_iff _ _).2 (by rw [← Hm.out, ← hkm]; exact hall)
      have E1 : Hid (Pk.encE l ws = 0) := Pk.encE_yes Hok.out Hl.out hfit
      have E2 : Hid (Pk.encS l ws = ⟨(Pk.encP l ws k 0).toArray⟩) := by show _ = _; unfold Pk.encS; rw [Pk.enc_yes Hok.out Hl.out hfit, hkm, Hm.out]
      have hcv := ownsBytes_back (P := Tryz.prog) hown 44 9 5 Tryz.underlying44 Tryz.underlying5 Tryz.underlying9
      obtain ⟨q, hq⟩ : ∃ q : ByteArray, q = ⟨(Pk.encP l ws k 0).toArray⟩ := ⟨_, rfl⟩
      rw [← hq] at hcv
      have Hq : Hid (q = ⟨(Pk.encP l ws k 0).toArray⟩) := hq
      clear hkm hfit hq hown hall hB
      go_wp2
      go_ret2
      exact ⟨ret_two (by rw [E2.out, ← Hq.out]; rfl) (by rw [E1.out]; rfl), HB.out⟩
end Go.Proofs.YtjmeiifogblmoaaGreatDoor

namespace Go.Proofs.YtjmeiifogblmoaaGreatDoor
open Go.RowKit

theorem refEncode_any (l : List Nat) (ws : List Int) (hl : l.length ≤ maxLen) (hlen : ws.length ≤ maxLen) (hf : ∀ j, l.getD j 0 < 18446744073709551616) (a b : Option Addr) (ca cb : Nat) (w : World)
    (ha : RowI .u64 w a l.length (fun j => (l.getD j 0 : Nat))) (hb : RowI .i64 w b ws.length (fun j => ws.getD j 0)) :
    Calls Tryz.prog 85 #[.slice a l.length ca, .slice b ws.length cb] w fun e w' => e = .returned (.tuple #[.string (Pk.encS l ws), .int .i64 (Pk.encE l ws)]) ∧ Below w.heap.size w w' := by
  cases hok : Pk.okW ws with
  | false => exact refEncode_size l ws hok hlen a b _ ca cb w hb
  | true =>
    by_cases hc : l.length = ws.length
    · exact refEncode_fit l ws hok hc hf a b ca cb w ha hb
    · exact refEncode_count l ws hok hc hl a b ca cb w hb

set_option maxRecDepth 100000 in
set_option maxHeartbeats 400000 in
theorem refDecode_size (s : ByteArray) (ws : List Int) (hok : Pk.okW ws = false) (hlen : ws.length ≤ maxLen) (b : Option Addr) (cb : Nat) (w : World)
    (hb : RowI .i64 w b ws.length (fun j => ws.getD j 0)) :
    Calls Tryz.prog 55 #[.string s, .slice b ws.length cb] w (DecAns s.data.toList ws w) := by
  have hE1 := Pk.sizeE_no hok
  have E1 : Hid (Pk.decE s.data.toList ws = 1) := Pk.decE_size hok
  have E2 : Hid (Pk.dec s.data.toList ws = []) := Pk.dec_size hok
  go_enter Tryz.func55, Tryz.ntmps55
  go_wp2_with fail
  refine (refSize_any ws hlen b cb _ hb).mono ?_
  rintro e w' ⟨rfl, rfl⟩
  rw [hE1]
  go_wp2
  go_ret2
  exact ⟨none, 0, ret_two (by rw [E2.out]; rfl) (by rw [E1.out]; rfl), by rw [E2.out]; exact RowI.nil _ _ _ _, Below.refl _ _⟩

set_option maxRecDepth 100000 in
set_option maxHeartbeats 400000 in
theorem refDecode_short (s : ByteArray) (ws : List Int) (hok : Pk.okW ws = true) (hne : s.size ≠ Pk.offs ws ws.length) (_hs : s.size ≤ maxLen) (b : Option Addr) (cb : Nat) (w : World)
    (hb : RowI .i64 w b ws.length (fun j => ws.getD j 0)) :
    Calls Tryz.prog 55 #[.string s, .slice b ws.length cb] w (DecAns s.data.toList ws w) := by
  have hE1 := Pk.sizeE_yes hok
  have hN1 := Pk.sizeN_yes hok
  have h64 := Pk.okW_len hok
  have hoffs := Pk.offs_le hok (Nat.le_refl _)
  unfold maxLen at _hs
  have E1 : Hid (Pk.decE s.data.toList ws = 31) := Pk.decE_short hok (by simpa using hne)
  have E2 : Hid (Pk.dec s.data.toList ws = []) := Pk.dec_short (by simpa using hne)
  have hne2 : ((s.size : Int) == (Pk.offs ws ws.length : Nat)) = false := by rw [beq_eq_false_iff_ne]; omega
  go_enter Tryz.func55, Tryz.ntmps55
  go_wp2_with fail
  refine (refSize_any ws (by unfold maxLen; omega) b cb _ hb).mono ?_
  rintro e w' ⟨rfl, rfl⟩
  rw [hE1, hN1]
  go_wp2
  go_ret2
  exact ⟨none, 0, ret_two (by rw [E2.out]; rfl) (by rw [E1.out]; rfl), by rw [E2.out]; exact RowI.nil _ _ _ _, Below.refl _ _⟩

/-- the numbers ahead of number i -/
def Pk.decP (s : List UInt8) (ws : List Int) (i : Nat) : List Int := (List.range i).map fun j => ((Pk.num s (Pk.offs ws j) (Pk.wd ws j) : Nat) : Int)
theorem Pk.decP_succ (s : List UInt8) (ws : List Int) (i : Nat) : Pk.decP s ws (i + 1) = Pk.decP s ws i ++ [((Pk.num s (Pk.offs ws i) (Pk.wd ws i) : Nat) : Int)] := by simp [Pk.decP, List.range_succ]

set_option maxRecDepth 100000 in
set_option maxHeartbeats 2000000 in
theorem refDecode_yes (s : ByteArray) (ws : List Int) (hok : Pk.okW ws = true) (hsz : s.size = Pk.offs ws ws.length) (b : Option Addr) (cb : Nat) (w : World)
    (hb : RowI .i64 w b ws.length (fun j => ws.getD j 0)) :
    Calls Tryz.prog 55 #[.string s, .slice b ws.length cb] w (DecAns s.data.toList ws w) := by
  have hE1 := Pk.sizeE_yes hok
  have hN1 := Pk.sizeN_yes hok
  have h64 := Pk.okW_len hok
  have hoffs : ∀ i, i ≤ ws.length → _ := fun i hi => Pk.offs_le hok hi
  have hat : ∀ k, k < ws.length → _ := fun k hk => Pk.wd_le hok hk
  have hsl : s.data.toList.length = Pk.offs ws ws.length := by simpa using hsz
  have E1 : Hid (Pk.decE s.data.toList ws = 0) := Pk.decE_yes hok hsl
  have E2 : Hid ((Pk.dec s.data.toList ws).length = ws.length) := Pk.dec_length hok hsl
  have E3 : Hid (∀ i, i < ws.length → (Pk.dec s.data.toList ws).getD i 0 = Pk.num s.data.toList (Pk.offs ws i) (Pk.wd ws i)) := fun i hi => Pk.dec_at hok hsl hi
  have hne2 : ((s.size : Int) == (Pk.offs ws ws.length : Nat)) = true := by rw [hsz]; simp
  have Hsz : Hid (s.size = Pk.offs ws ws.length) := hsz
  obtain ⟨m, hm0⟩ : ∃ m, m = ws.length := ⟨_, rfl⟩
  have Hm : Hid (m = ws.length) := hm0
  have hrs := refSize_any ws (by unfold maxLen; omega) b cb w hb
  rw [← hm0] at h64 hb hrs hne2 hN1 ⊢
  have Hrs : Hid (Calls Tryz.prog 97 #[.slice b m cb] w fun e w' => e = .returned (.tuple #[.int .i64 (Pk.sizeN ws), .int .i64 (Pk.sizeE ws)]) ∧ w' = w) := hrs
  obtain ⟨i0, hi, hz0, hz1, hz2⟩ := info_parts (show (Tryz.prog.info? 57).map (fun i => (i.zero, i.size, i.bytes)) = some (some (.int .u64 0), 1, 8) by kernel_rfl)
  clear hsz hsl hm0 hrs hok
  go_enter Tryz.func55, Tryz.ntmps55
  go_wp2_with fail
  refine Hrs.out.mono ?_
  rintro e w' ⟨rfl, rfl⟩
  rw [hE1, hN1]
  go_wp2
  go_loopw [8, 9, 10] (fun o p i wr => ∃ k : Nat, k ≤ m ∧ i = .int .i64 k ∧ p = .int .i64 (Pk.offs ws k : Nat) ∧ wr.ownsRow w'.heap.size 57 1 o k ((Pk.decP s.data.toList ws k).map (Value.int .u64)) ∧ Below w'.heap.size w' wr) (fun _ _ i _ => m - (intOf i).toNat)
  case atStart =>
    exact ⟨0, Nat.zero_le _, rfl, rfl, World.ownsRow_made (base := w'.heap.size) (e := 57) (size := 1) w' #[] 0 (Nat.le_refl _) (by decide) rfl, (Below.refl _ _).alloc (Nat.le_refl _) _⟩
  case round =>
    obtain ⟨k, hk, rfl, rfl, hown, hB⟩ := hrel
    have Hown : Hid (wr.ownsRow w'.heap.size 57 1 u8 k ((Pk.decP s.data.toList ws k).map (Value.int .u64))) := hown
    have HB : Hid (Below w'.heap.size w' wr) := hB
    have hBs := hB.size
    by_cases hlt : k < m
    · obtain ⟨b2, o2, rfl, hc2'⟩ := hb k hlt
      have hb2 := World.block_lt_of_cell? w' _ hc2'
      obtain ⟨g1, g8, gx⟩ := hat k (by rw [← Hm.out]; exact hlt)
      have hok8 := hoffs k (by rw [← Hm.out]; omega)
      have hend : Pk.offs ws k + Pk.wd ws k ≤ s.size := by rw [Hsz.out]; exact Pk.offs_mono ws (show k + 1 ≤ ws.length by rw [← Hm.out]; exact hlt)
      obtain ⟨x, hx⟩ : ∃ x, Pk.wd ws k = x := ⟨_, rfl⟩
      obtain ⟨o8, ho8⟩ : ∃ o8, Pk.offs ws k = o8 := ⟨_, rfl⟩
      rw [hx] at g1 g8 gx
      rw [hx, ho8] at hend
      rw [ho8] at hok8 ⊢
      simp only [← gx] at hc2'
      have hc2 := (hB.cell (p := ⟨b2, o2 + k, none⟩) hb2).trans hc2'
      have Hx : Hid (Pk.wd ws k = x) := hx
      have Ho8 : Hid (Pk.offs ws k = o8) := ho8
      clear hx gx ho8 hB
      go_wp2
      go_loop [11, 12] (fun v t => ∃ j X : Nat, j ≤ x ∧ t = .int .i64 j ∧ v = .int .u64 X ∧ X = Pk.num s.data.toList o8 j) (fun _ t => x - (intOf t).toNat)
      case atStart => exact ⟨0, 0, Nat.zero_le _, rfl, rfl, rfl⟩
      case round =>
        obtain ⟨j, X, hj, rfl, rfl, hX⟩ := hrel
        by_cases hjx : j < x
        · have hin : o8 + j < s.size := by omega
          have hX64 : X < 18446744073709551616 := by rw [hX]; exact Nat.lt_of_lt_of_le (Pk.num_lt _ _ _) (Pk.pow256_le (by omega))
          have hor := Pk.or_byte X (s[o8 + j]) j hX64 (by omega)
          have HX : Hid (X ||| s[o8 + j].toNat <<< (8 * j) = Pk.num s.data.toList o8 (j + 1)) := by
            show _ = _
            rw [← Pk.num_or, hX, List.getD_eq_getElem?_getD, List.getElem?_eq_getElem (by simpa using hin)]; rfl
          clear hX
          go_wp2
          go_round
          case rel => exact ⟨j + 1, _, by omega, by go_num, rfl, HX.out⟩
          case measure => simp [intOf]; omega
        · have hjx' : j = x := by omega
          have HX : Hid (X = Pk.num s.data.toList (Pk.offs ws k) (Pk.wd ws k)) := by show _ = _; rw [hX, Ho8.out, Hx.out, hjx']
          have hk64 : k ≤ 64 := by omega
          clear hX hjx'
          go_wp2_with (at_builtin; refine wpList_append_own _ rfl _ _ 104 rfl w'.heap.size 57 i0 (.int .u64 0) 1 8 Tryz.underlying104 hi hz0 hz1 hz2 rfl (by decide) u8 k ((Pk.decP s.data.toList ws k).map (Value.int .u64)) rfl (Hown.out.alloc _) ⟨wr.heap.size, 0, none⟩ 1 1 [.int .u64 (X : Nat)] rfl rfl (cell_one_new _ _ _) (by simp [Value.oneCell']) (by unfold maxLen; omega) (by omega) (by simp; omega) ?_; intro v' w1 hown' hgrow _; obtain ⟨g', cap', rfl⟩ := ownsRow_succ hown'; have hb1' := below_append Hown.out hBs hgrow; have hcc1 := (hb1'.cell (p := ⟨b2, o2 + k, none⟩) hb2).trans hc2)
          go_roundw
          case rel =>
            have e : Pk.offs ws (k + 1) = o8 + x := by show Pk.offs ws k + Pk.wd ws k = _; rw [Ho8.out, Hx.out]
            have hr : ∃ k_1 : Nat, k_1 ≤ m ∧ Value.int .i64 ((k : Int) + 1) = Value.int .i64 (k_1 : Int) ∧ Value.int .i64 ((o8 : Int) + (x : Int)) = Value.int .i64 (Pk.offs ws k_1 : Nat) ∧ w1.ownsRow w'.heap.size 57 1 (.slice (some ⟨g', 0, none⟩) (k + 1) cap') k_1 ((Pk.decP s.data.toList ws k_1).map (Value.int .u64)) ∧ Below w'.heap.size w' w1 :=
              ⟨k + 1, by omega, by go_num, by rw [e]; go_num, by rw [Pk.decP_succ, ← map_snoc, ← HX.out]; exact hown', HB.out.trans hb1'⟩
            first | exact hr | ((repeat apply Exists.intro); exact ⟨hr, rfl, rfl, rfl⟩)
          case measure => simp [intOf]; omega
    · have hkm : k = m := by omega
      subst hkm
      obtain ⟨a, cap, rfl, hrow, _⟩ := RowI.of_owns hown
      clear hB
      go_wp2
      go_ret2
      refine ⟨a, cap, ret_two (by rw [E2.out, ← Hm.out]; rfl) (by rw [E1.out]; rfl), ?_, HB.out⟩
      rw [E2.out, ← Hm.out]
      refine hrow.mono (Nat.le_refl _) fun j hj => ?_
      rw [E3.out j (by rw [← Hm.out]; exact hj)]
      simp [Pk.decP, hj]

theorem refDecode_any (s : ByteArray) (ws : List Int) (hs : s.size ≤ maxLen) (hlen : ws.length ≤ maxLen) (b : Option Addr) (cb : Nat) (w : World)
    (hb : RowI .i64 w b ws.length (fun j => ws.getD j 0)) :
    Calls Tryz.prog 55 #[.string s, .slice b ws.length cb] w (DecAns s.data.toList ws w) := by
  cases hok : Pk.okW ws with
  | false => exact refDecode_size s ws hok hlen b cb w hb
  | true =>
    by_cases hc : s.size = Pk.offs ws ws.length
    · exact refDecode_yes s ws hok hc b cb w hb
    · exact refDecode_short s ws hok hc hs b cb w hb

theorem Pk.sh_enc : Pk.encS [1, 515] [1, 2] = ⟨#[1, 3, 2]⟩ := by decide +kernel
theorem Pk.sh_encE : Pk.encE [1, 515] [1, 2] = 0 := by decide +kernel
theorem Pk.sh_fits : Pk.fits 255 1 = true := by decide +kernel

end Go.Proofs.YtjmeiifogblmoaaGreatDoor
