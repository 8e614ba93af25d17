import Derived.Test.YtdgkhjgnjfgnlaaGreatMRfB
import Derived.Test.YtdgkhjgnjfgnlaaGreatMRef6A
namespace Go.Proofs.YtdgkhjgnjfgnlaaGreat
open Go.RowKit
set_option maxRecDepth 100000 in
set_option maxHeartbeats 1000000 in
theorem Index_ints (n : Nat) (L : Nat → Int) (hn : n ≤ 1000000) (a : Option Addr) (cap : Nat) (x : Int) (w : World) (hr : RowI .i64 w a n L) :
  Calls Tryz.prog 134 #[.slice a n cap, .int .i64 x] w fun e w' => (∃ z : Int, e = .returned (.int .i64 z) ∧ ((Rf.hasF n L x = true ∧ 0 ≤ z ∧ z ≤ 1000000) ∨ (Rf.hasF n L x = false ∧ z = -1))) ∧ w' = w := by
 go_enter Tryz.func134, Tryz.ntmps134
 go_wp2
 go_loopg [8] n (fun gg i wr => ∃ k : Nat, k ≤ n ∧ gg = n - k ∧ i = .int .i64 k ∧ wr = w ∧ Rf.hasF k L x = false)
 case atStart => exact ⟨0, Nat.zero_le _, rfl, rfl, rfl, rfl⟩
 case round =>
  obtain ⟨k, hk, rfl, rfl, rfl, hh⟩ := hrel
  have HH : Hid (Rf.hasF k L x = false) := hh
  clear hh
  by_cases hkn : k < n
  ·obtain ⟨b, o, rfl, hc⟩ := hr k hkn
   obtain ⟨y, hy⟩ : ∃ y, L k = y := ⟨_, rfl⟩
   rw [hy] at hc
   have HY : Hid (L k = y) := hy
   clear hy
   by_cases he : x = y
   ·have he' : (x == y) = true := by rw [beq_iff_eq]; exact he
    have E : Hid (Rf.hasF n L x = true) := Rf.hasF_yes hkn (by rw [HY.out]; exact he.symm)
    clear he
    go_wp2
    go_ret
    exact ⟨⟨(k : Int), rfl, .inl ⟨E.out, by omega, by omega⟩⟩, rfl⟩
   ·have he' : (x == y) = false := by rw [beq_eq_false_iff_ne]; exact he
    have E : Hid (Rf.hasF (k + 1) L x = false) := by
     have h2 : (y == x) = false := by rw [beq_eq_false_iff_ne]; exact Ne.symm he
     show _ = _; rw [Rf.hasF_succ, HH.out, HY.out, h2]; rfl
    clear he
    go_wp2
    go_roundg (n - (k + 1))
    case measure => omega
    case rel => exact ⟨k + 1, by omega, rfl, by go_num, rfl, E.out⟩
  ·have hkk : k = n := by omega
   subst hkk
   go_wp2
   go_ret
   exact ⟨⟨-1, rfl, .inr ⟨HH.out, rfl⟩⟩, rfl⟩
set_option maxRecDepth 100000 in
set_option maxHeartbeats 1000000 in
theorem Contains_ints (n : Nat) (L : Nat → Int) (hn : n ≤ 1000000) (a : Option Addr) (cap : Nat) (x : Int) (w : World) (hr : RowI .i64 w a n L) :
  Calls Tryz.prog 109 #[.slice a n cap, .int .i64 x] w fun e w' => e = .returned (.bool (Rf.hasF n L x)) ∧ w' = w := by
 have h := Index_ints n L hn a cap x w hr
 go_enter Tryz.func109, Tryz.ntmps109
 go_wp2_with fail
 refine h.mono ?_
 rintro e w' ⟨⟨z, rfl, hz⟩, hw⟩
 subst w'
 clear h
 rcases hz with ⟨hh, h0, h1⟩ | ⟨hh, rfl⟩
 ·have E : Hid (Rf.hasF n L x = true) := hh
  clear hh
  have h2 : decide ((0 : Int) ≤ z) = true := decide_eq_true h0
  go_wp2
  go_ret
  exact ⟨ret_bool (by rw [E.out]), rfl⟩
 ·have E : Hid (Rf.hasF n L x = false) := hh
  clear hh
  go_wp2
  go_ret
  exact ⟨ret_bool (by rw [E.out]), rfl⟩
set_option maxRecDepth 100000 in
set_option maxHeartbeats 4000000 in
theorem placed_any (n : Nat) (_hn : n ≤ 1000000) (ln : Nat) (L : Nat → Int) (hln : ln ≤ 1000000) (b : Option Addr) (capb : Nat) (hcapb : ln ≤ capb) (w : World) (hl : RowI .i64 w b ln L) :
  Calls Tryz.prog 106 #[.slice b ln capb, .int .i64 (n : Nat)] w fun e w' => e = .returned (.bool (Rf.okL n ln L)) ∧ w' = w := by
 go_enter Tryz.func106, Tryz.ntmps106
 go_wp2
 go_loopg [9] ln (fun gg i wr => ∃ k : Nat, k ≤ ln ∧ gg = ln - k ∧ i = .int .i64 k ∧ wr = w ∧ ∀ j, j < k → 0 ≤ L j ∧ L j < (n : Int) ∧ Rf.hasF j L (L j) = false)
 case atStart => exact ⟨0, Nat.zero_le _, rfl, rfl, rfl, fun j hj => absurd hj (Nat.not_lt_zero _)⟩
 case round =>
  obtain ⟨k, hk, rfl, rfl, rfl, hv⟩ := hrel
  have HV : Hid (∀ j, j < k → 0 ≤ L j ∧ L j < (n : Int) ∧ Rf.hasF j L (L j) = false) := hv
  clear hv
  by_cases hkn : k < ln
  ·obtain ⟨b0, o0, rfl, hc⟩ := hl k hkn
   have hsl := run_slice_ints (some ⟨b0, o0, none⟩) ln capb k (by omega)
   have hHas := Contains_ints k L (by omega) (some ⟨b0, o0, none⟩) capb (L k) wr (hl.mono (Nat.le_of_lt hkn) fun _ _ => rfl)
   obtain ⟨y, hy⟩ : ∃ y, L k = y := ⟨_, rfl⟩
   have HY : Hid (L k = y) := hy
   rw [hy] at hc hHas
   clear hy
   by_cases y0 : y < 0
   ·have E : Hid (Rf.okL n ln L = false) := Rf.okL_no hkn (by rw [HY.out]; omega)
    clear hHas
    go_wp2
    go_ret
    exact ⟨ret_bool E.out.symm, rfl⟩
   ·by_cases yn : (n : Int) ≤ y
    ·have E : Hid (Rf.okL n ln L = false) := Rf.okL_no hkn (by rw [HY.out]; omega)
     clear hHas
     go_wp2
     go_ret
     exact ⟨ret_bool E.out.symm, rfl⟩
    ·cases hh : Rf.hasF k L y with
     | true =>
      have E : Hid (Rf.okL n ln L = false) := Rf.okL_no hkn (by rw [HY.out, hh]; simp)
      rw [hh] at hHas
      clear hh
      go_wp2_with fail
      refine hHas.mono ?_
      rintro e w' ⟨rfl, hw⟩
      subst w'
      go_wp2
      go_ret
      exact ⟨ret_bool E.out.symm, rfl⟩
     | false =>
      have HV2 : Hid (∀ j, j < k + 1 → 0 ≤ L j ∧ L j < (n : Int) ∧ Rf.hasF j L (L j) = false) := fun j hj => by
       by_cases e : j = k
       ·subst e; rw [HY.out]; exact ⟨by omega, by omega, hh⟩
       ·exact HV.out j (by omega)
      rw [hh] at hHas
      clear hh
      go_wp2_with fail
      refine hHas.mono ?_
      rintro e w' ⟨rfl, hw⟩
      subst w'
      go_wp2
      go_roundg (ln - (k + 1))
      case measure => omega
      case rel => exact ⟨k + 1, by omega, rfl, by go_num, rfl, HV2.out⟩
  ·have hkk : k = ln := by omega
   subst hkk
   have OK : Hid (Rf.okL n k L = true) := Rf.okL_of HV.out
   go_wp2
   go_ret
   exact ⟨ret_bool OK.out.symm, rfl⟩
theorem Rf.keptG_lost {f : Nat → ByteArray} {ln k : Nat} {L : Nat → Int} (h : Rf.keptF f ln L (k + 1) = Rf.keptF f ln L k) : Rf.keptG f ln L (k + 1) = Rf.keptG f ln L k := by
 funext j; unfold Rf.keptG; rw [h]
theorem kept_snoc {f : Nat → ByteArray} {ln k : Nat} {L : Nat → Int} (h : Rf.keptF f ln L (k + 1) = Rf.keptF f ln L k ++ [f k]) : textVals (Rf.keptF f ln L k).length (Rf.keptG f ln L k) ++ [.string (f k)] = textVals ((Rf.keptF f ln L k).length + 1) (Rf.keptG f ln L (k + 1)) := by
 have e : f k = Rf.keptG f ln L (k + 1) (Rf.keptF f ln L k).length := by
  unfold Rf.keptG; rw [h, List.getD_eq_getElem?_getD]; simp
 rw [e, ← textVals_snoc]
 congr 1
 refine textVals_congr fun j hj => ?_
 unfold Rf.keptG
 rw [h, List.getD_eq_getElem?_getD, List.getD_eq_getElem?_getD, List.getElem?_append_left hj]
set_option maxRecDepth 100000 in
set_option maxHeartbeats 4000000 in
theorem kept_any (n : Nat) (f : Nat → ByteArray) (hn : n ≤ 2000) (hf : Fits 1048576 n f) (a : Option Addr) (cap : Nat) (ln : Nat) (L : Nat → Int) (hln : ln ≤ 1000000) (b : Option Addr) (capb : Nat) (w : World) (hr : RowS w a n f) (hl : RowI .i64 w b ln L) :
  Calls Tryz.prog 108 #[.slice a n cap, .slice b ln capb] w fun e w' => (∃ g c, e = .returned (.slice g (Rf.keptF f ln L n).length c) ∧ RowS w' g (Rf.keptF f ln L n).length (Rf.keptG f ln L n) ∧ (Rf.keptF f ln L n).length ≤ c) ∧ Below w.heap.size w w' := by
 obtain ⟨i0, hi, hz0, hz1, hz2⟩ := info_parts (show (Tryz.prog.info? 9).map (fun i => (i.zero, i.size, i.bytes)) = some (some (.string ByteArray.empty), 1, 16) from info_str)
 have hH := fun (x : Int) (W : World) (h : Below w.heap.size w W) => Contains_ints ln L hln b capb x W (hl.below h)
 go_enter Tryz.func108, Tryz.ntmps108
 go_wp2
 go_loopg [5, 10] n (fun gg u i wr => ∃ (k c : Nat) (v : Value), k ≤ n ∧ gg = n - k ∧ v = u ∧ i = .int .i64 k ∧ c = (Rf.keptF f ln L k).length ∧ wr.ownsRow w.heap.size 9 1 v c (textVals c (Rf.keptG f ln L k)) ∧ Below w.heap.size w wr)
 case atStart => exact ⟨0, 0, _, Nat.zero_le _, rfl, rfl, rfl, rfl, World.ownsRow_nil _ _ _ _, Below.refl _ _⟩
 case round =>
  obtain ⟨k, c, v, hk, rfl, rfl, rfl, hcl, own, hb⟩ := hrel
  have OWN : Hid (wr.ownsRow w.heap.size 9 1 v c (textVals c (Rf.keptG f ln L k))) := own
  have HCL : Hid (c = (Rf.keptF f ln L k).length) := hcl
  have HB : Hid (Below w.heap.size w wr) := hb
  have hsz := hb.size
  have hc1000 : c ≤ 2000 := by have := Rf.keptF_le f ln L k; omega
  clear own hcl hb
  by_cases hkn : k < n
  ·obtain ⟨b0, o0, rfl, hc⟩ := hr k hkn
   have hc := (HB.out.cell (p := ⟨b0, o0 + k, none⟩) (World.block_lt_of_cell? w _ hc)).trans hc
   have hx := hf k hkn
   have hHk := hH (k : Int) wr HB.out
   obtain ⟨t, ht⟩ : ∃ t, f k = t := ⟨_, rfl⟩
   have HT : Hid (f k = t) := ht
   rw [ht] at hc hx
   clear ht
   cases hh : Rf.hasF ln L (k : Int) with
   | true =>
    have E : Hid (Rf.keptF f ln L (k + 1) = Rf.keptF f ln L k) := Rf.keptF_lost hh
    rw [hh] at hHk
    clear hh
    go_wp2_with fail
    refine hHk.mono ?_
    rintro e w' ⟨rfl, hw⟩
    subst w'
    go_wp2
    go_roundg (n - (k + 1))
    case measure => omega
    case rel => exact ⟨k + 1, c, v, by omega, rfl, rfl, by go_num, by rw [E.out]; exact HCL.out, by rw [Rf.keptG_lost E.out]; exact OWN.out, HB.out⟩
   | false =>
    have E : Hid (Rf.keptF f ln L (k + 1) = Rf.keptF f ln L k ++ [f k]) := Rf.keptF_kept hh
    have EV : Hid (textVals c (Rf.keptG f ln L k) ++ [.string t] = textVals (c + 1) (Rf.keptG f ln L (k + 1))) := by
     show _ = _; rw [HCL.out, ← HT.out]; exact kept_snoc E.out
    rw [hh] at hHk
    clear hh
    have t1 : True := trivial
    go_wp2_with fail
    refine hHk.mono ?_
    rintro e w' ⟨rfl, hw⟩
    subst w'
    go_wp2_with (at_builtin; have _t := t1; refine wpList_append_own _ rfl _ _ 40 rfl w.heap.size 9 i0 (.string ByteArray.empty) 1 16 Tryz.underlying40 hi hz0 hz1 hz2 rfl (by decide) v c (textVals c (Rf.keptG f ln L k)) rfl (OWN.out.alloc _) ⟨wr.heap.size, 0, none⟩ 1 1 [.string t] rfl rfl (cell_one_new _ _ _) (by simp [Value.oneCell']) (by unfold maxLen; omega) (by omega) (by simp; omega) ?_; intro v' w1 hown' hgrow _; rw [EV.out] at hown'; (have OWN1 : Hid (w1.ownsRow w.heap.size 9 1 v' (c + 1) (textVals (c + 1) (Rf.keptG f ln L (k + 1)))) := hown'); (have HB1 : Hid (Below w.heap.size w w1) := HB.out.trans (below_append OWN.out hsz hgrow)); clear hown' hgrow t1)
    go_roundg (n - (k + 1))
    case measure => omega
    case rel => exact ⟨k + 1, c + 1, v', by omega, rfl, rfl, by go_num, by rw [E.out, List.length_append, HCL.out]; rfl, OWN1.out, HB1.out⟩
  ·have hkk : k = n := by omega
   subst hkk
   have own := OWN.out
   rw [HCL.out] at own
   obtain ⟨ar, cr, rfl, rr, hcr, _⟩ := RowS.of_owns own
   have RR : Hid (RowS wr ar (Rf.keptF f ln L k).length (Rf.keptG f ln L k)) := rr
   have CR : Hid ((Rf.keptF f ln L k).length ≤ cr) := hcr
   have EC : Hid (Value.slice ar c cr = Value.slice ar (Rf.keptF f ln L k).length cr) := by show _ = _; rw [HCL.out]
   clear own rr hcr
   go_wp2
   go_ret
   exact ⟨⟨_, _, rfl, RR.out, CR.out⟩, HB.out⟩
end Go.Proofs.YtdgkhjgnjfgnlaaGreat
namespace Go.Proofs.YtdgkhjgnjfgnlaaGreat
open Go.RowKit
set_option maxRecDepth 100000 in
set_option maxHeartbeats 1000000 in
theorem odd_any (B n cap : Nat) (a : Option Addr) (g : Nat → ByteArray) (hn : 0 < n) (hg : Fits 1048576 n g) (s : ByteArray) (_hs : s.size ≤ 1048576) (w : World) (hB : w.cell? ⟨B, 0, none⟩ = some (.slice a n cap)) (hr : RowS w a n g) :
  Calls Tryz.prog 133 #[.string s, .pointer (some ⟨B, 0, none⟩)] w fun e w' => e = .returned (.bool (Rf.oddF (g 0).size s)) ∧ w' = w := by
 obtain ⟨b, o, rfl, hc⟩ := hr 0 hn
 rw [Nat.add_zero] at hc
 have h0 := hg 0 hn
 obtain ⟨x, hx⟩ : ∃ x, g 0 = x := ⟨_, rfl⟩
 rw [hx] at hc h0
 rw [hx]
 clear hx
 have E0 : Hid (Rf.oddF x.size s = (decide (4096 < (s.size : Int)) || decide (s.size ≠ x.size))) := rfl
 by_cases h4 : (4096 : Int) < (s.size : Int)
 ·have E : Hid (Rf.oddF x.size s = true) := by show _ = _; rw [E0.out, decide_eq_true h4]; rfl
  go_enter Tryz.func133, Tryz.ntmps133
  go_wp2
  go_ret
  exact ⟨ret_bool E.out.symm, rfl⟩
 ·by_cases hx : s.size = x.size
  ·have E : Hid (Rf.oddF x.size s = false) := by show _ = _; rw [E0.out, decide_eq_false h4, hx]; simp
   have hx' : ((s.size : Int) != (x.size : Int)) = false := by rw [bne_eq_false_iff_eq]; omega
   clear hx
   go_enter Tryz.func133, Tryz.ntmps133
   go_wp2
   go_ret
   exact ⟨ret_bool E.out.symm, rfl⟩
  ·have E : Hid (Rf.oddF x.size s = true) := by show _ = _; rw [E0.out, decide_eq_true hx, Bool.or_true]
   have hx' : ((s.size : Int) != (x.size : Int)) = true := by rw [bne_iff_ne]; omega
   clear hx
   go_enter Tryz.func133, Tryz.ntmps133
   go_wp2
   go_ret
   exact ⟨ret_bool E.out.symm, rfl⟩
set_option maxRecDepth 100000 in
set_option maxHeartbeats 1000000 in
theorem IndexFunc_odd (B n cap : Nat) (a : Option Addr) (g : Nat → ByteArray) (hn : n ≤ 1000000) (hg : Fits 1048576 n g) (w : World) (hB : w.cell? ⟨B, 0, none⟩ = some (.slice a n cap)) (hr : RowS w a n g) :
  Calls Tryz.prog 154 #[.slice a n cap, .func (.func 133) #[] #[.pointer (some ⟨B, 0, none⟩)]] w fun e w' => (∃ z : Int, e = .returned (.int .i64 z) ∧ ((Rf.anyOdd (g 0).size n g = true ∧ 0 ≤ z ∧ z ≤ 1000000) ∨ (Rf.anyOdd (g 0).size n g = false ∧ z = -1))) ∧ w' = w := by
 have hO := fun (h : 0 < n) (j : Nat) (hj : j < n) => odd_any B n cap a g h hg (g j) (hg j hj) w hB hr
 obtain ⟨s0, hs0⟩ : ∃ s0, (g 0).size = s0 := ⟨_, rfl⟩
 rw [hs0] at hO
 rw [hs0]
 clear hs0
 go_enter Tryz.func154, Tryz.ntmps154
 go_wp2
 go_loopg [8] n (fun gg i wr => ∃ k : Nat, k ≤ n ∧ gg = n - k ∧ i = .int .i64 k ∧ wr = w ∧ ∀ j, j < k → Rf.oddF s0 (g j) = false)
 case atStart => exact ⟨0, Nat.zero_le _, rfl, rfl, rfl, fun j hj => absurd hj (Nat.not_lt_zero _)⟩
 case round =>
  obtain ⟨k, hk, rfl, rfl, rfl, hh⟩ := hrel
  have HH : Hid (∀ j, j < k → Rf.oddF s0 (g j) = false) := hh
  clear hh
  by_cases hkn : k < n
  ·obtain ⟨b, o, rfl, hc⟩ := hr k hkn
   have hOk := hO (by omega) k hkn
   obtain ⟨y, hy⟩ : ∃ y, g k = y := ⟨_, rfl⟩
   rw [hy] at hc hOk
   have HY : Hid (g k = y) := hy
   clear hy
   cases he : Rf.oddF s0 y with
   | true =>
    have E : Hid (Rf.anyOdd s0 n g = true) := Rf.anyOdd_yes hkn (by rw [HY.out]; exact he)
    rw [he] at hOk
    clear he
    go_wp2_with fail
    refine hOk.mono ?_
    rintro e w' ⟨rfl, hw⟩
    subst w'
    go_wp2
    go_ret
    exact ⟨⟨(k : Int), rfl, .inl ⟨E.out, by omega, by omega⟩⟩, rfl⟩
   | false =>
    have E : Hid (∀ j, j < k + 1 → Rf.oddF s0 (g j) = false) := fun j hj => by
     by_cases e : j = k
     ·subst e; rw [HY.out]; exact he
     ·exact HH.out j (by omega)
    rw [he] at hOk
    clear he
    go_wp2_with fail
    refine hOk.mono ?_
    rintro e w' ⟨rfl, hw⟩
    subst w'
    go_wp2
    go_roundg (n - (k + 1))
    case measure => omega
    case rel => exact ⟨k + 1, by omega, rfl, by go_num, rfl, E.out⟩
  ·have hkk : k = n := by omega
   subst hkk
   have E : Hid (Rf.anyOdd s0 k g = false) := Rf.anyOdd_no HH.out
   go_wp2
   go_ret
   exact ⟨⟨-1, rfl, .inr ⟨E.out, rfl⟩⟩, rfl⟩
set_option maxRecDepth 100000 in
set_option maxHeartbeats 1000000 in
theorem ContainsFunc_odd (B n cap : Nat) (a : Option Addr) (g : Nat → ByteArray) (hn : n ≤ 1000000) (hg : Fits 1048576 n g) (w : World) (hB : w.cell? ⟨B, 0, none⟩ = some (.slice a n cap)) (hr : RowS w a n g) :
  Calls Tryz.prog 132 #[.slice a n cap, .func (.func 133) #[] #[.pointer (some ⟨B, 0, none⟩)]] w fun e w' => e = .returned (.bool (Rf.anyOdd (g 0).size n g)) ∧ w' = w := by
 have h := IndexFunc_odd B n cap a g hn hg w hB hr
 obtain ⟨r, hr⟩ : ∃ r, Rf.anyOdd (g 0).size n g = r := ⟨_, rfl⟩
 rw [hr] at h
 rw [hr]
 clear hr
 go_enter Tryz.func132, Tryz.ntmps132
 go_wp2_with fail
 refine h.mono ?_
 rintro e w' ⟨⟨z, rfl, hz⟩, hw⟩
 subst w'
 clear h
 rcases hz with ⟨rfl, h0, h1⟩ | ⟨rfl, rfl⟩
 ·have h2 : decide ((0 : Int) ≤ z) = true := decide_eq_true h0
  go_wp2
  go_ret
  exact ⟨rfl, rfl⟩
 ·go_wp2
  go_ret
  exact ⟨rfl, rfl⟩
set_option maxRecDepth 100000 in
set_option maxHeartbeats 1000000 in
theorem even_any (n cap : Nat) (a : Option Addr) (g : Nat → ByteArray) (hn : n ≤ 1000000) (hg : Fits 1048576 n g) (w : World) (hr : RowS w a n g) :
  Calls Tryz.prog 107 #[.slice a n cap] w fun e w' => e = .returned (.bool (!Rf.anyOdd (g 0).size n g)) ∧ Below w.heap.size w w' := by
 have h := fun (W : World) (hb : Below w.heap.size w W) (hc : W.cell? ⟨w.heap.size, 0, none⟩ = some (.slice a n cap)) => ContainsFunc_odd w.heap.size n cap a g hn hg W hc (hr.below hb)
 obtain ⟨r, hr⟩ : ∃ r, Rf.anyOdd (g 0).size n g = r := ⟨_, rfl⟩
 rw [hr] at h
 rw [hr]
 clear hr
 go_enter Tryz.func107, Tryz.ntmps107
 go_wp2_with fail
 refine (h _ ((Below.refl _ w).alloc (Nat.le_refl _) _) ?_).mono ?_
 ·simp [World.cell?_alloc_mark]
 rintro e w' ⟨rfl, rfl⟩
 cases r with
 | true =>
  go_wp2
  go_ret
  exact ⟨rfl, (Below.refl _ w).alloc (Nat.le_refl _) _⟩
 | false =>
  go_wp2
  go_ret
  exact ⟨rfl, (Below.refl _ w).alloc (Nat.le_refl _) _⟩
set_option maxRecDepth 100000 in
set_option maxHeartbeats 4000000 in
theorem pMay_big (n : Nat) (f : Nat → ByteArray) (hn : n ≤ 2000) (hf : Fits 1048576 n f) (a : Option Addr) (cap : Nat) (_hcap : n ≤ cap) (ln : Nat) (L : Nat → Int) (hln : ln ≤ 1000) (b : Option Addr) (capb : Nat) (hcapb : ln ≤ capb) (w : World) (hr : RowS w a n f) (hl : RowI .i64 w b ln L) :
  Calls Tryz.prog 79 #[.slice a n cap, .slice b ln capb] w fun e w' => e = .returned (.int .i64 (Rf.mayF n f ln L)) ∧ Below w.heap.size w w' := by
 by_cases hN : n < 4 ∨ 10 < n
 ·have E : Hid (Rf.mayF n f ln L = 1) := Rf.mayF_cols hN
  by_cases h4 : (n : Int) < 4
  ·clear hN
   go_enter Tryz.func79, Tryz.ntmps79
   go_wp2
   go_ret
   exact ⟨ret_int E.out.symm, Below.refl _ _⟩
  ·have h10 : (10 : Int) < (n : Int) := by omega
   clear hN
   go_enter Tryz.func79, Tryz.ntmps79
   go_wp2
   go_ret
   exact ⟨ret_int E.out.symm, Below.refl _ _⟩
 ·have h4 : ¬ (n : Int) < 4 := by omega
  have h10 : ¬ (10 : Int) < (n : Int) := by omega
  have HN : Hid (¬ (n < 4 ∨ 10 < n)) := hN
  have hP := placed_any n (by omega) ln L (by omega) b capb hcapb w hl
  clear hN
  cases hok : Rf.okL n ln L with
  | false =>
   have E : Hid (Rf.mayF n f ln L = 1) := Rf.mayF_lost HN.out hok
   rw [hok] at hP
   clear hok
   go_enter Tryz.func79, Tryz.ntmps79
   go_wp2_with fail
   refine hP.mono ?_
   rintro e w' ⟨rfl, hw⟩
   subst w'
   go_wp2
   go_ret
   exact ⟨ret_int E.out.symm, Below.refl _ _⟩
  | true =>
   have hK := kept_any n f hn hf a cap ln L (by omega) b capb w hr hl
   have hlk := Rf.keptF_le f ln L n
   have HFT : Hid (Fits 1048576 (Rf.keptF f ln L n).length (Rf.keptG f ln L n)) := fun j hj => Rf.keptG_fits hf ln L j hj
   rw [hok] at hP
   cases hev : Rf.evenF f ln L n with
   | false =>
    have E : Hid (Rf.mayF n f ln L = 1) := Rf.mayF_size HN.out hok (Rf.even_no hok hev)
    have EV : Hid (Rf.anyOdd (Rf.keptG f ln L n 0).size (Rf.keptF f ln L n).length (Rf.keptG f ln L n) = true) := by
     have : (!Rf.anyOdd (Rf.keptG f ln L n 0).size (Rf.keptF f ln L n).length (Rf.keptG f ln L n)) = false := hev
     show _ = _; rw [Bool.not_eq_false'] at this; exact this
    clear hok hev
    go_enter Tryz.func79, Tryz.ntmps79
    go_wp2_with fail
    refine hP.mono ?_
    rintro e w' ⟨rfl, hw⟩
    subst w'
    clear hP
    go_wp2_with fail
    refine hK.mono ?_
    rintro e w1 ⟨⟨gk, ck, rfl, rk, hck⟩, b1⟩
    have hE := even_any _ ck gk _ (by omega) HFT.out w1 rk
    rw [EV.out] at hE
    clear hK hck rk
    go_wp2_with fail
    refine hE.mono ?_
    rintro e w2 ⟨rfl, b2⟩
    have HB : Hid (Below w.heap.size w w2) := below2 b1 b2
    clear hE b1 b2
    go_wp2
    go_ret
    exact ⟨ret_int E.out.symm, HB.out⟩
   | true =>
    have hsz := Rf.even_yes hok hev
    have EV : Hid (Rf.anyOdd (Rf.keptG f ln L n 0).size (Rf.keptF f ln L n).length (Rf.keptG f ln L n) = false) := by
     have : (!Rf.anyOdd (Rf.keptG f ln L n 0).size (Rf.keptF f ln L n).length (Rf.keptG f ln L n)) = true := hev
     show _ = _; rw [Bool.not_eq_true'] at this; exact this
    have EM : Hid ((2 < ln → Rf.mayF n f ln L = 60) ∧ (¬ 2 < ln → Rf.mayF n f ln L = 0)) := ⟨fun h2 => Rf.mayF_more HN.out hok hsz h2, fun h2 => Rf.mayF_ok HN.out hok hsz h2⟩
    clear hok hev hsz
    go_enter Tryz.func79, Tryz.ntmps79
    go_wp2_with fail
    refine hP.mono ?_
    rintro e w' ⟨rfl, hw⟩
    subst w'
    clear hP
    go_wp2_with fail
    refine hK.mono ?_
    rintro e w1 ⟨⟨gk, ck, rfl, rk, hck⟩, b1⟩
    have hE := even_any _ ck gk _ (by omega) HFT.out w1 rk
    rw [EV.out] at hE
    clear hK hck rk
    go_wp2_with fail
    refine hE.mono ?_
    rintro e w2 ⟨rfl, b2⟩
    have HB : Hid (Below w.heap.size w w2) := below2 b1 b2
    clear hE b1 b2
    by_cases h2 : (2 : Int) < (ln : Int)
    ·have E : Hid (Rf.mayF n f ln L = 60) := EM.out.1 (by omega)
     go_wp2
     go_ret
     exact ⟨ret_int E.out.symm, HB.out⟩
    ·have E : Hid (Rf.mayF n f ln L = 0) := EM.out.2 (by omega)
     go_wp2
     go_ret
     exact ⟨ret_int E.out.symm, HB.out⟩
end Go.Proofs.YtdgkhjgnjfgnlaaGreat
