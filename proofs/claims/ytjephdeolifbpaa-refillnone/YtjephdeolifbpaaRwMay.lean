/- The walks of the program's own May, and of what it asks. -/
import Derived.Test.YtjephdeolifbpaaRwMath
import Derived.Test.YtjephdeolifbpaaRef06May2
namespace Go.Proofs.Ytjephdeolifbpaa
open Go.RowKit

set_option maxRecDepth 100000 in
set_option maxHeartbeats 1000000 in
theorem Index_ints (n : Nat) (L : Nat → Int) (hn : n ≤ 1000000) (a : Option Addr) (cap : Nat) (x : Int) (w : World) (hr : RowI .i64 w a n L) :
    Calls Try.prog 55 #[.slice a n cap, .int .i64 x] w fun e w' => (∃ z : Int, e = .returned (.int .i64 z) ∧ ((Rf.hasF n L x = true ∧ 0 ≤ z ∧ z ≤ 1000000) ∨ (Rf.hasF n L x = false ∧ z = -1))) ∧ w' = w := by
  go_enter Try.func55, Try.ntmps55
  go_wp2
  go_loopg [8] n (fun gg i wr => ∃ k : Nat, k ≤ n ∧ gg = n - k ∧ i = .int .i64 k ∧ wr = w ∧ Rf.hasF k L x = false)
  case atStart => exact ⟨0, Nat.zero_le _, rfl, rfl, rfl, rfl⟩
  case round =>
    obtain ⟨k, hk, rfl, rfl, rfl, hh⟩ := hrel
    have HH : Hid (Rf.hasF k L x = false) := hh
    clear hh
    by_cases hkn : k < n
    · obtain ⟨b, o, rfl, hc⟩ := hr k hkn
      obtain ⟨y, hy⟩ : ∃ y, L k = y := ⟨_, rfl⟩
      rw [hy] at hc
      have HY : Hid (L k = y) := hy
      clear hy
      by_cases he : x = y
      · have he' : (x == y) = true := by rw [beq_iff_eq]; exact he
        have E : Hid (Rf.hasF n L x = true) := Rf.hasF_yes hkn (by rw [HY.out]; exact he.symm)
        clear he
        go_wp2
        go_ret
        exact ⟨⟨(k : Int), rfl, .inl ⟨E.out, by omega, by omega⟩⟩, rfl⟩
      · have he' : (x == y) = false := by rw [beq_eq_false_iff_ne]; exact he
        have E : Hid (Rf.hasF (k + 1) L x = false) := by
          have h2 : (y == x) = false := by rw [beq_eq_false_iff_ne]; exact Ne.symm he
          show _ = _; rw [Rf.hasF_succ, HH.out, HY.out, h2]; rfl
        clear he
        go_wp2
        go_roundg (n - (k + 1))
        case measure => omega
        case rel => exact ⟨k + 1, by omega, rfl, by go_num, rfl, E.out⟩
    · have hkk : k = n := by omega
      subst hkk
      go_wp2
      go_ret
      exact ⟨⟨-1, rfl, .inr ⟨HH.out, rfl⟩⟩, rfl⟩

set_option maxRecDepth 100000 in
set_option maxHeartbeats 1000000 in
theorem Contains_ints (n : Nat) (L : Nat → Int) (hn : n ≤ 1000000) (a : Option Addr) (cap : Nat) (x : Int) (w : World) (hr : RowI .i64 w a n L) :
    Calls Try.prog 34 #[.slice a n cap, .int .i64 x] w fun e w' => e = .returned (.bool (Rf.hasF n L x)) ∧ w' = w := by
  have h := Index_ints n L hn a cap x w hr
  go_enter Try.func34, Try.ntmps34
  go_wp2_with fail
  refine h.mono ?_
  rintro e w' ⟨⟨z, rfl, hz⟩, hw⟩
  subst w'
  clear h
  rcases hz with ⟨hh, h0, h1⟩ | ⟨hh, rfl⟩
  · have E : Hid (Rf.hasF n L x = true) := hh
    clear hh
    have h2 : decide ((0 : Int) ≤ z) = true := decide_eq_true h0
    go_wp2
    go_ret
    exact ⟨ret_bool (by rw [E.out]), rfl⟩
  · have E : Hid (Rf.hasF n L x = false) := hh
    clear hh
    go_wp2
    go_ret
    exact ⟨ret_bool (by rw [E.out]), rfl⟩

set_option maxRecDepth 100000 in
set_option maxHeartbeats 4000000 in
theorem placed_any (n : Nat) (_hn : n ≤ 1000000) (ln : Nat) (L : Nat → Int) (hln : ln ≤ 1000000) (b : Option Addr) (capb : Nat) (hcapb : ln ≤ capb) (w : World) (hl : RowI .i64 w b ln L) :
    Calls Try.prog 28 #[.slice b ln capb, .int .i64 (n : Nat)] w fun e w' => e = .returned (.bool (Rf.okL n ln L)) ∧ w' = w := by
  go_enter Try.func28, Try.ntmps28
  go_wp2
  go_loopg [9] ln (fun gg i wr => ∃ k : Nat, k ≤ ln ∧ gg = ln - k ∧ i = .int .i64 k ∧ wr = w ∧ ∀ j, j < k → 0 ≤ L j ∧ L j < (n : Int) ∧ Rf.hasF j L (L j) = false)
  case atStart => exact ⟨0, Nat.zero_le _, rfl, rfl, rfl, fun j hj => absurd hj (Nat.not_lt_zero _)⟩
  case round =>
    obtain ⟨k, hk, rfl, rfl, rfl, hv⟩ := hrel
    have HV : Hid (∀ j, j < k → 0 ≤ L j ∧ L j < (n : Int) ∧ Rf.hasF j L (L j) = false) := hv
    clear hv
    by_cases hkn : k < ln
    · obtain ⟨b0, o0, rfl, hc⟩ := hl k hkn
      have hsl := run_slice_ints (some ⟨b0, o0, none⟩) ln capb k (by omega)
      have hHas := Contains_ints k L (by omega) (some ⟨b0, o0, none⟩) capb (L k) wr (hl.mono (Nat.le_of_lt hkn) fun _ _ => rfl)
      obtain ⟨y, hy⟩ : ∃ y, L k = y := ⟨_, rfl⟩
      have HY : Hid (L k = y) := hy
      rw [hy] at hc hHas
      clear hy
      by_cases y0 : y < 0
      · have E : Hid (Rf.okL n ln L = false) := Rf.okL_no hkn (by rw [HY.out]; omega)
        clear hHas
        go_wp2
        go_ret
        exact ⟨ret_bool E.out.symm, rfl⟩
      · by_cases yn : (n : Int) ≤ y
        · have E : Hid (Rf.okL n ln L = false) := Rf.okL_no hkn (by rw [HY.out]; omega)
          clear hHas
          go_wp2
          go_ret
          exact ⟨ret_bool E.out.symm, rfl⟩
        · cases hh : Rf.hasF k L y with
          | true =>
            have E : Hid (Rf.okL n ln L = false) := Rf.okL_no hkn (by rw [HY.out, hh]; simp)
            rw [hh] at hHas
            clear hh
            go_wp2_with fail
            refine hHas.mono ?_
            rintro e w' ⟨rfl, hw⟩
            subst w'
            go_wp2
            go_ret
            exact ⟨ret_bool E.out.symm, rfl⟩
          | false =>
            have HV2 : Hid (∀ j, j < k + 1 → 0 ≤ L j ∧ L j < (n : Int) ∧ Rf.hasF j L (L j) = false) := fun j hj => by
              by_cases e : j = k
              · subst e; rw [HY.out]; exact ⟨by omega, by omega, hh⟩
              · exact HV.out j (by omega)
            rw [hh] at hHas
            clear hh
            go_wp2_with fail
            refine hHas.mono ?_
            rintro e w' ⟨rfl, hw⟩
            subst w'
            go_wp2
            go_roundg (ln - (k + 1))
            case measure => omega
            case rel => exact ⟨k + 1, by omega, rfl, by go_num, rfl, HV2.out⟩
    · have hkk : k = ln := by omega
      subst hkk
      have OK : Hid (Rf.okL n k L = true) := Rf.okL_of HV.out
      go_wp2
      go_ret
      exact ⟨ret_bool OK.out.symm, rfl⟩

theorem Rf.keptG_lost {f : Nat → ByteArray} {ln k : Nat} {L : Nat → Int} (h : Rf.keptF f ln L (k + 1) = Rf.keptF f ln L k) : Rf.keptG f ln L (k + 1) = Rf.keptG f ln L k := by
  funext j; unfold Rf.keptG; rw [h]
theorem kept_snoc {f : Nat → ByteArray} {ln k : Nat} {L : Nat → Int} (h : Rf.keptF f ln L (k + 1) = Rf.keptF f ln L k ++ [f k]) : textVals (Rf.keptF f ln L k).length (Rf.keptG f ln L k) ++ [.string (f k)] = textVals ((Rf.keptF f ln L k).length + 1) (Rf.keptG f ln L (k + 1)) := by
  have e : f k = Rf.keptG f ln L (k + 1) (Rf.keptF f ln L k).length := by
    unfold Rf.keptG; rw [h, List.getD_eq_getElem?_getD]; simp
  rw [e, ← textVals_snoc]
  congr 1
  refine textVals_congr fun j hj => ?_
  unfold Rf.keptG
  rw [h, List.getD_eq_getElem?_getD, List.getD_eq_getElem?_getD, List.getElem?_append_left hj]

set_option maxRecDepth 100000 in
set_option maxHeartbeats 4000000 in
theorem kept_any (n : Nat) (f : Nat → ByteArray) (hn : n ≤ 2000) (hf : Fits 1048576 n f) (a : Option Addr) (cap : Nat) (ln : Nat) (L : Nat → Int) (hln : ln ≤ 1000000) (b : Option Addr) (capb : Nat) (w : World) (hr : RowS w a n f) (hl : RowI .i64 w b ln L) :
    Calls Try.prog 30 #[.slice a n cap, .slice b ln capb] w fun e w' => (∃ g c, e = .returned (.slice g (Rf.keptF f ln L n).length c) ∧ RowS w' g (Rf.keptF f ln L n).length (Rf.keptG f ln L n) ∧ (Rf.keptF f ln L n).length ≤ c) ∧ Below w.heap.size w w' := by
  obtain ⟨i0, hi, hz0, hz1, hz2⟩ := info_parts (show (Try.prog.info? 9).map (fun i => (i.zero, i.size, i.bytes)) = some (some (.string ByteArray.empty), 1, 16) from info_str)
  have hH := fun (x : Int) (W : World) (h : Below w.heap.size w W) => Contains_ints ln L hln b capb x W (hl.below h)
  go_enter Try.func30, Try.ntmps30
  go_wp2
  go_loopg [5, 10] n (fun gg u i wr => ∃ (k c : Nat) (v : Value), k ≤ n ∧ gg = n - k ∧ v = u ∧ i = .int .i64 k ∧ c = (Rf.keptF f ln L k).length ∧ wr.ownsRow w.heap.size 9 1 v c (textVals c (Rf.keptG f ln L k)) ∧ Below w.heap.size w wr)
  case atStart => exact ⟨0, 0, _, Nat.zero_le _, rfl, rfl, rfl, rfl, World.ownsRow_nil _ _ _ _, Below.refl _ _⟩
  case round =>
    obtain ⟨k, c, v, hk, rfl, rfl, rfl, hcl, own, hb⟩ := hrel
    have OWN : Hid (wr.ownsRow w.heap.size 9 1 v c (textVals c (Rf.keptG f ln L k))) := own
    have HCL : Hid (c = (Rf.keptF f ln L k).length) := hcl
    have HB : Hid (Below w.heap.size w wr) := hb
    have hsz := hb.size
    have hc1000 : c ≤ 2000 := by have := Rf.keptF_le f ln L k; omega
    clear own hcl hb
    by_cases hkn : k < n
    · obtain ⟨b0, o0, rfl, hc⟩ := hr k hkn
      have hc := (HB.out.cell (p := ⟨b0, o0 + k, none⟩) (World.block_lt_of_cell? w _ hc)).trans hc
      have hx := hf k hkn
      have hHk := hH (k : Int) wr HB.out
      obtain ⟨t, ht⟩ : ∃ t, f k = t := ⟨_, rfl⟩
      have HT : Hid (f k = t) := ht
      rw [ht] at hc hx
      clear ht
      cases hh : Rf.hasF ln L (k : Int) with
      | true =>
        have E : Hid (Rf.keptF f ln L (k + 1) = Rf.keptF f ln L k) := Rf.keptF_lost hh
        rw [hh] at hHk
        clear hh
        go_wp2_with fail
        refine hHk.mono ?_
        rintro e w' ⟨rfl, hw⟩
        subst w'
        go_wp2
        go_roundg (n - (k + 1))
        case measure => omega
        case rel => exact ⟨k + 1, c, v, by omega, rfl, rfl, by go_num, by rw [E.out]; exact HCL.out, by rw [Rf.keptG_lost E.out]; exact OWN.out, HB.out⟩
      | false =>
        have E : Hid (Rf.keptF f ln L (k + 1) = Rf.keptF f ln L k ++ [f k]) := Rf.keptF_kept hh
        have EV : Hid (textVals c (Rf.keptG f ln L k) ++ [.string t] = textVals (c + 1) (Rf.keptG f ln L (k + 1))) := by
          show _ = _; rw [HCL.out, ← HT.out]; exact kept_snoc E.out
        rw [hh] at hHk
        clear hh
        have t1 : True := trivial
        go_wp2_with fail
        refine hHk.mono ?_
        rintro e w' ⟨rfl, hw⟩
        subst w'
        go_wp2_with (at_builtin; have _t := t1; refine wpList_append_own _ rfl _ _ 22 rfl w.heap.size 9 i0 (.string ByteArray.empty) 1 16 Try.underlying22 hi hz0 hz1 hz2 rfl (by decide) v c (textVals c (Rf.keptG f ln L k)) rfl (OWN.out.alloc _) ⟨wr.heap.size, 0, none⟩ 1 1 [.string t] rfl rfl (cell_one_new _ _ _) (by simp [Value.oneCell']) (by unfold maxLen; omega) (by omega) (by simp; omega) ?_; intro v' w1 hown' hgrow _; rw [EV.out] at hown'; (have OWN1 : Hid (w1.ownsRow w.heap.size 9 1 v' (c + 1) (textVals (c + 1) (Rf.keptG f ln L (k + 1)))) := hown'); (have HB1 : Hid (Below w.heap.size w w1) := HB.out.trans (below_append OWN.out hsz hgrow)); clear hown' hgrow t1)
        go_roundg (n - (k + 1))
        case measure => omega
        case rel => exact ⟨k + 1, c + 1, v', by omega, rfl, rfl, by go_num, by rw [E.out, List.length_append, HCL.out]; rfl, OWN1.out, HB1.out⟩
    · have hkk : k = n := by omega
      subst hkk
      have own := OWN.out
      rw [HCL.out] at own
      obtain ⟨ar, cr, rfl, rr, hcr, _⟩ := RowS.of_owns own
      have RR : Hid (RowS wr ar (Rf.keptF f ln L k).length (Rf.keptG f ln L k)) := rr
      have CR : Hid ((Rf.keptF f ln L k).length ≤ cr) := hcr
      have EC : Hid (Value.slice ar c cr = Value.slice ar (Rf.keptF f ln L k).length cr) := by show _ = _; rw [HCL.out]
      clear own rr hcr
      go_wp2
      go_ret
      exact ⟨⟨_, _, rfl, RR.out, CR.out⟩, HB.out⟩
end Go.Proofs.Ytjephdeolifbpaa
