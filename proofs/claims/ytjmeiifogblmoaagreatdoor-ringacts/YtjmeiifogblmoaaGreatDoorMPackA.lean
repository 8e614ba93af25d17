/- Several texts in one. The walks of pack: widths, fitting numbers, sizes; the iterator that goes through numbers and widths. The iterator that goes through numbers and widths: for every loop body that keeps what lay ahead of it. Packing: the walk of pack.Encode. Unpacking: the walk of pack.Decode. -/
import Derived.Test.YtjmeiifogblmoaaGreatDoorMKitA
import Derived.Test.YtjmeiifogblmoaaGreatDoorMPlA
import Derived.RangeFuncBox
import Derived.RangeFuncLeaves
import Derived.RangeFuncNested
import Derived.Shelf.Abstract
import Derived.OwnWalkIn
import Derived.TacticsInMore
import Derived.LoopNIn
import Derived.LoopIn
import Derived.Maps.AppendAt
import Derived.Test.YtjmeiifogblmoaaGreatDoorKitRound
import Derived.Lib.JoinLaws
namespace Go.Proofs.YtjmeiifogblmoaaGreatDoor
open Go.RowKit

theorem may_any (x : Int) (w : World) :
    Calls Tryz.prog 140 #[.int .i64 x] w fun e w' => e = .returned (.bool (Pk.may x)) ∧ w' = w := by
  by_cases h1 : 1 ≤ x
  · by_cases h2 : x ≤ 8
    · have E : Hid (Pk.may x = true) := (Pk.may_iff x).2 ⟨h1, h2⟩
      go_enter Tryz.func140, Tryz.ntmps140
      go_wp2
      go_ret
      exact ⟨ret_bool E.out.symm, rfl⟩
    · have E : Hid (Pk.may x = false) := by show _ = _; simp [Pk.may, h2]
      go_enter Tryz.func140, Tryz.ntmps140
      go_wp2
      go_ret
      exact ⟨ret_bool E.out.symm, rfl⟩
  · have E : Hid (Pk.may x = false) := by show _ = _; simp [Pk.may, h1]
    go_enter Tryz.func140, Tryz.ntmps140
    go_wp2
    go_ret
    exact ⟨ret_bool E.out.symm, rfl⟩

theorem Pk.shr_nat (n k : Nat) : (n : Int) / 2 ^ (8 * k) = ((n / 256 ^ k : Nat) : Int) := by
  rw [Pk.pow256]; simp
theorem Pk.shr_zero (n k : Nat) (h : Pk.may k = true) : ((n : Int) / 2 ^ (8 * k) == 0) = Pk.fits n k := by
  rw [Pk.shr_nat, Bool.eq_iff_iff, beq_iff_eq, Pk.fits_iff]
  have hp : 0 < 256 ^ k := Nat.pow_pos (by decide)
  rw [Pk.may_iff] at h
  constructor
  · intro e
    refine ⟨h, ?_⟩
    have e' : n / 256 ^ k = 0 := by omega
    rw [Nat.div_eq_zero_iff] at e'
    show n < 256 ^ k
    omega
  · rintro ⟨_, e⟩
    have e' : n / 256 ^ k = 0 := Nat.div_eq_of_lt e
    omega
theorem Fits_any (n : Nat) (_hn : n < 18446744073709551616) (x : Int) (w : World) :
    Calls Tryz.prog 141 #[.int .u64 n, .int .i64 x] w fun e w' => e = .returned (.bool (Pk.fits n x)) ∧ w' = w := by
  cases hm : Pk.may x with
  | false =>
    have E : Hid (Pk.fits n x = false) := by show _ = _; simp [Pk.fits, hm]
    go_enter Tryz.func141, Tryz.ntmps141
    go_wp2_with fail
    refine (may_any _ _).mono ?_
    rintro e w' ⟨rfl, rfl⟩
    rw [hm]
    go_wp2
    go_ret
    exact ⟨ret_bool E.out.symm, rfl⟩
  | true =>
    obtain ⟨h1, h2⟩ := (Pk.may_iff x).1 hm
    obtain ⟨k, rfl⟩ := Int.eq_ofNat_of_zero_le (show 0 ≤ x by omega)
    have E : Hid (((n : Int) / 2 ^ (8 * k) == 0) = Pk.fits n k) := Pk.shr_zero n k hm
    go_enter Tryz.func141, Tryz.ntmps141
    go_wp2_with fail
    refine (may_any _ _).mono ?_
    rintro e w' ⟨rfl, rfl⟩
    rw [hm]
    go_wp2
    go_ret
    exact ⟨ret_bool E.out, rfl⟩

set_option maxRecDepth 100000 in
set_option maxHeartbeats 400000 in
theorem fitting_any (l : List Nat) (ws : List Int) (hl : l.length = ws.length) (hm : ws.length ≤ 64) (hf : ∀ j, l.getD j 0 < 18446744073709551616) (a b : Option Addr) (ca cb : Nat) (w : World)
    (ha : RowI .u64 w a l.length (fun j => (l.getD j 0 : Nat))) (hb : RowI .i64 w b ws.length (fun j => ws.getD j 0)) :
    Calls Tryz.prog 117 #[.slice a l.length ca, .slice b ws.length cb] w fun e w' => e = .returned (.bool (Pk.fitAll l ws)) ∧ w' = w := by
  obtain ⟨m, hm0⟩ : ∃ m, m = ws.length := ⟨_, rfl⟩
  rw [hl] at ha ⊢
  rw [← hm0] at hm ha hb ⊢
  have Hm : Hid (m = ws.length) := hm0
  clear hm0 hl
  go_enter Tryz.func117, Tryz.ntmps117
  go_wp2
  go_loop [9] (fun i => ∃ k : Nat, k ≤ m ∧ i = .int .i64 k ∧ ∀ j, j < k → Pk.fits (l.getD j 0) (ws.getD j 0) = true) (fun i => m - (intOf i).toNat)
  case atStart => exact ⟨0, Nat.zero_le _, rfl, fun j hj => absurd hj (Nat.not_lt_zero _)⟩
  case round =>
    obtain ⟨k, hk, rfl, hall⟩ := hrel
    have Hall : Hid (∀ j, j < k → Pk.fits (l.getD j 0) (ws.getD j 0) = true) := hall
    clear hall
    by_cases hlt : k < m
    · obtain ⟨b1, o1, rfl, hc1⟩ := ha k hlt
      obtain ⟨b2, o2, rfl, hc2⟩ := hb k hlt
      have hfk := hf k
      obtain ⟨n, hn⟩ : ∃ n, l.getD k 0 = n := ⟨_, rfl⟩
      obtain ⟨x, hx⟩ : ∃ x, ws.getD k 0 = x := ⟨_, rfl⟩
      simp only [hn, hx] at hc1 hc2 hfk
      have Hn : Hid (l.getD k 0 = n) := hn
      have Hx : Hid (ws.getD k 0 = x) := hx
      have Ha : Hid (RowI .u64 w (some ⟨b1, o1, none⟩) m (fun j => (l.getD j 0 : Nat))) := ha
      have Hb : Hid (RowI .i64 w (some ⟨b2, o2, none⟩) m (fun j => ws.getD j 0)) := hb
      have Hf : Hid (∀ j, l.getD j 0 < 18446744073709551616) := hf
      clear hn hx ha hb hf
      cases hfit : Pk.fits n x with
      | false =>
        go_wp2_with fail
        refine (Fits_any n hfk x _).mono ?_
        rintro e w' ⟨rfl, rfl⟩
        rw [hfit]
        go_wp2
        go_ret
        exact ⟨ret_bool (Pk.fitAll_not (j := k) (by rw [← Hm.out]; exact hlt) (by rw [Hn.out, Hx.out]; exact hfit)).symm, rfl⟩
      | true =>
        go_wp2_with fail
        refine (Fits_any n hfk x _).mono ?_
        rintro e w' ⟨rfl, rfl⟩
        rw [hfit]
        go_wp2
        go_round
        case rel =>
          refine ⟨k + 1, by omega, by go_num, fun j hj => ?_⟩
          by_cases e : j = k
          · subst e; rw [Hn.out, Hx.out]; exact hfit
          · exact Hall.out j (by omega)
        case measure => simp [intOf]; omega
    · have hkk : k = m := by omega
      have E : Hid (Pk.fitAll l ws = true) := (Pk.fitAll_iff _ _).2 (by rw [← Hm.out, ← hkk]; exact Hall.out)
      clear hkk
      go_wp2
      go_ret
      exact ⟨ret_bool E.out.symm, rfl⟩

set_option maxRecDepth 100000 in
set_option maxHeartbeats 400000 in
theorem Size_any (ws : List Int) (hlen : ws.length ≤ maxLen) (b : Option Addr) (cb : Nat) (w : World) (hb : RowI .i64 w b ws.length (fun j => ws.getD j 0)) :
    Calls Tryz.prog 116 #[.slice b ws.length cb] w fun e w' => e = .returned (.tuple #[.int .i64 (Pk.sizeN ws), .int .i64 (Pk.sizeE ws)]) ∧ w' = w := by
  unfold maxLen at hlen
  obtain ⟨m, hm0⟩ : ∃ m, m = ws.length := ⟨_, rfl⟩
  rw [← hm0] at hlen hb ⊢
  have Hm : Hid (m = ws.length) := hm0
  by_cases h64 : 64 < m
  · have h64' : (64 : Int) < (m : Int) := by omega
    have hbad : Pk.okW ws = false := Pk.okW_long (by omega)
    have E1 : Hid (Pk.sizeN ws = 0) := Pk.sizeN_no hbad
    have E2 : Hid (Pk.sizeE ws = 1) := Pk.sizeE_no hbad
    clear hm0 hbad
    go_enter Tryz.func116, Tryz.ntmps116
    go_wp2
    go_ret2
    exact ⟨ret_two (by rw [E1.out]; rfl) (by rw [E2.out]; rfl), rfl⟩
  · have h64' : ¬ (64 : Int) < (m : Int) := by omega
    clear hm0
    go_enter Tryz.func116, Tryz.ntmps116
    go_wp2
    go_loop [4, 12] (fun s i => ∃ k : Nat, k ≤ m ∧ s = .int .i64 (Pk.offs ws k : Nat) ∧ i = .int .i64 k ∧ Pk.offs ws k ≤ 8 * k ∧ ∀ j, j < k → 1 ≤ ws.getD j 0 ∧ ws.getD j 0 ≤ 8) (fun _ i => m - (intOf i).toNat)
    case atStart => exact ⟨0, Nat.zero_le _, rfl, rfl, Nat.le_refl _, fun j hj => absurd hj (Nat.not_lt_zero _)⟩
    case round =>
      obtain ⟨k, hk, rfl, rfl, ho, hall⟩ := hrel
      have Hall : Hid (∀ j, j < k → 1 ≤ ws.getD j 0 ∧ ws.getD j 0 ≤ 8) := hall
      clear hall
      by_cases hlt : k < m
      · obtain ⟨b2, o2, rfl, hc2⟩ := hb k hlt
        obtain ⟨x, hx⟩ : ∃ x, ws.getD k 0 = x := ⟨_, rfl⟩
        simp only [hx] at hc2
        have Hx : Hid (ws.getD k 0 = x) := hx
        have Hb : Hid (RowI .i64 w (some ⟨b2, o2, none⟩) m (fun j => ws.getD j 0)) := hb
        clear hx hb
        cases hmay : Pk.may x with
        | false =>
          have hbad : Pk.okW ws = false := Pk.okW_not (j := k) (by rw [← Hm.out]; exact hlt) (by rw [Hx.out]; exact hmay)
          have E1 : Hid (Pk.sizeN ws = 0) := Pk.sizeN_no hbad
          have E2 : Hid (Pk.sizeE ws = 1) := Pk.sizeE_no hbad
          clear hbad
          go_wp2_with fail
          refine (may_any x _).mono ?_
          rintro e w' ⟨rfl, rfl⟩
          rw [hmay]
          go_wp2
          go_ret2
          exact ⟨ret_two (by rw [E1.out]; rfl) (by rw [E2.out]; rfl), rfl⟩
        | true =>
          obtain ⟨hx1, hx8⟩ := (Pk.may_iff x).1 hmay
          have E : Hid ((Pk.offs ws (k + 1) : Int) = (Pk.offs ws k : Int) + x) := by
            show _ = _
            have : Pk.offs ws (k + 1) = Pk.offs ws k + (ws.getD k 0).toNat := rfl
            rw [this, Hx.out]; omega
          obtain ⟨o, ho2⟩ : ∃ o, Pk.offs ws k = o := ⟨_, rfl⟩
          have E' : Hid ((Pk.offs ws (k + 1) : Int) = (o : Int) + x) := by rw [← ho2]; exact E
          rw [ho2] at ho ⊢
          clear E ho2
          go_wp2_with fail
          refine (may_any x _).mono ?_
          rintro e w' ⟨rfl, rfl⟩
          rw [hmay]
          go_wp2
          go_round
          case rel =>
            refine ⟨k + 1, by omega, by rw [E'.out], by go_num, by have := E'.out; omega, fun j hj => ?_⟩
            by_cases e : j = k
            · subst e; rw [Hx.out]; exact ⟨hx1, hx8⟩
            · exact Hall.out j (by omega)
          case measure => simp [intOf]; omega
      · have hkk : k = m := by omega
        have hok : Pk.okW ws = true := Pk.okW_of (by rw [← Hm.out]; omega) (by rw [← Hm.out, ← hkk]; exact Hall.out)
        have E1 : Hid (Pk.sizeN ws = (Pk.offs ws k : Nat)) := by show _ = _; rw [Pk.sizeN_yes hok, hkk, Hm.out]
        have E2 : Hid (Pk.sizeE ws = 0) := Pk.sizeE_yes hok
        clear hkk hok
        go_wp2
        go_ret2
        exact ⟨ret_two (by rw [E1.out]; rfl) (by rw [E2.out]; rfl), rfl⟩
end Go.Proofs.YtjmeiifogblmoaaGreatDoor

namespace Go.Proofs.YtjmeiifogblmoaaGreatDoor
open Go.RowKit Go.Shelf
attribute [local go_sem] Oper.semAt_some

namespace Pk
abbrev Pl (m : Nat) : Type := { p : Nat × Nat // p.1 < m ∧ p.2 < 8 }
/-- the places ahead of byte k of number i -/
def plP (ws : List Int) (i k : Nat) : List (Nat × Nat) := ((List.range i).flatMap fun j => (List.range (wd ws j)).map fun t => (j, t)) ++ (List.range k).map fun t => (i, t)
theorem plP_succ (ws : List Int) (i k : Nat) : plP ws i (k + 1) = plP ws i k ++ [(i, k)] := by
  unfold plP; rw [List.range_succ (n := k), List.map_append, ← List.append_assoc]; rfl
theorem plP_next (ws : List Int) (i : Nat) : plP ws i (wd ws i) = plP ws (i + 1) 0 := by
  simp [plP, List.range_succ]
theorem plP_length (ws : List Int) (i k : Nat) : (plP ws i k).length = offs ws i + k := by
  unfold plP
  rw [List.length_append, List.length_map, List.length_range]
  congr 1
  induction i with
  | zero => rfl
  | succ i ih => rw [List.range_succ, List.flatMap_append, List.length_append, ih]; simp; rfl
theorem snoc_place {m : Nat} {pre : List (Pl m)} {ws : List Int} {i k : Nat} (x : Pl m) (h : pre.map (·.1) = plP ws i k) (hx : x.1 = (i, k)) : (pre ++ [x]).map (·.1) = plP ws i (k + 1) := by
  rw [List.map_append, h, plP_succ, ← hx]; rfl
end Pk

theorem places_any (a : Option Addr) (len cap : Nat) (w : World) :
    Calls Tryz.prog 118 #[.slice a len cap] w fun e w' => e = .returned (.func (.func 142) #[] #[.pointer (some ⟨w.heap.size, 0, none⟩)]) ∧ w' = w.alloc (.cells #[.slice a len cap] 107) := by
  go_enter Tryz.func118, Tryz.ntmps118
  go_wp2
  go_ret
  exact ⟨rfl, rfl⟩

set_option maxRecDepth 100000 in
set_option maxHeartbeats 2000000 in
theorem places1_in (F : Fence) (n : Nat) (hF : F.fn 142) (hro : F.round = none) (hn : 1 ≤ n) (l Bs : Nat) (ws : List Int) (hok : Pk.okW ws = true) (b : Option Addr) (cb : Nat) (w0 : World)
    (hr : RowI .i64 w0 b ws.length (fun j => ws.getD j 0)) (J Jx : List (Pk.Pl ws.length) → World → Prop)
    (hY : ∀ pre x W, J pre W → pre.length < Pk.offs ws ws.length → YieldAt F (n - 1) Tryz.prog l #[.int .i64 (x.1.1 : Int), .int .i64 (8 * (x.1.2 : Int))] W fun e W' =>
      (e = .returned (.bool true) ∧ J (pre ++ [x]) W' ∧ Below w0.heap.size W W') ∨ (e = .returned (.bool false) ∧ Jx (pre ++ [x]) W'))
    (W : World) (hW : Below w0.heap.size w0 W) (hBs : W.cell? ⟨Bs, 0, none⟩ = some (.slice b ws.length cb)) (h0 : J [] W) :
    CallsIn F n Tryz.prog 142 #[.func (.yield l) #[] #[], .pointer (some ⟨Bs, 0, none⟩)] W fun e W' => (∃ v, e = .returned v) ∧
      ((∃ ys : List (Pk.Pl ws.length), ys.map (·.1) = Pk.plP ws ws.length 0 ∧ J ys W') ∨ (∃ pre : List (Pk.Pl ws.length), True ∧ Jx pre W')) := by
  have h64 := Pk.okW_len hok
  have hat : ∀ k, k < ws.length → _ := fun k hk => Pk.wd_le hok hk
  have Hok : Hid (Pk.okW ws = true) := hok
  clear hok
  obtain ⟨m, hm0⟩ : ∃ m, m = ws.length := ⟨_, rfl⟩
  have Hm : Hid (m = ws.length) := hm0
  rw [← hm0] at h64 hBs
  refine callsIn_of_wp Tryz.func142 rfl hF ?_ hro
  simp only [Tryz.ntmps142, List.size_toArray, List.length_cons, List.length_nil, Nat.reduceAdd, Nat.reduceSub, Array.replicate_succ, Array.replicate_zero, List.push_toArray, List.append_toArray, List.nil_append, List.cons_append]
  clear hm0
  gi_wp2
  gi_loopw [8] (fun i wr => ∃ (k : Nat) (pre : List (Pk.Pl ws.length)), k ≤ m ∧ i = .int .i64 k ∧ pre.map (·.1) = Pk.plP ws k 0 ∧ J pre wr ∧ Below w0.heap.size w0 wr)
    (fun i _ => m - (intOf i).toNat)
  case atStart => exact ⟨0, [], Nat.zero_le _, rfl, rfl, h0, hW⟩
  case round =>
    obtain ⟨k, pre, hk, rfl, hpre, hJ, hb⟩ := hrel
    have Hpre : Hid (pre.map (·.1) = Pk.plP ws k 0) := hpre
    clear hpre
    by_cases hlt : k < m
    · obtain ⟨b2, o2, rfl, hc2⟩ := hr k (by rw [← Hm.out]; exact hlt)
      have hb2 := World.block_lt_of_cell? w0 _ hc2
      have hc3 : wr.cell? ⟨b2, o2 + k, none⟩ = some (.int .i64 (ws.getD k 0)) := (hb.cell (p := ⟨b2, o2 + k, none⟩) hb2).trans hc2
      obtain ⟨h1, h8, hx⟩ := hat k (by rw [← Hm.out]; exact hlt)
      obtain ⟨x, hx2⟩ : ∃ x, Pk.wd ws k = x := ⟨_, rfl⟩
      rw [← hx] at hc3
      rw [hx2] at hc3 h1 h8
      have Hx : Hid (Pk.wd ws k = x) := hx2
      clear hc2 hx hx2
      gi_wp2
      gi_loopw [14] (fun t wr' => ∃ (j : Nat) (pre' : List (Pk.Pl ws.length)), j ≤ x ∧ t = .int .i64 j ∧ pre'.map (·.1) = Pk.plP ws k j ∧ J pre' wr' ∧ Below w0.heap.size w0 wr')
        (fun t _ => x - (intOf t).toNat)
      case atStart => exact ⟨0, pre, Nat.zero_le _, rfl, Hpre.out, hJ, hb⟩
      case round =>
        obtain ⟨j, pre', hj, rfl, hpre', hJ', hb'⟩ := hrel
        have Hpre' : Hid (pre'.map (·.1) = Pk.plP ws k j) := hpre'
        clear hpre'
        by_cases hjlt : j < x
        · obtain ⟨fn, tmps, assign, body, hy, hR⟩ := hY pre' ⟨(k, j), by rw [← Hm.out]; exact hlt, by omega⟩ _ hJ' (by
            have e := congrArg List.length Hpre'.out
            rw [List.length_map, Pk.plP_length] at e
            have := Pk.offs_mono ws (show k + 1 ≤ ws.length by rw [← Hm.out]; exact hlt)
            have e2 : Pk.offs ws (k + 1) = Pk.offs ws k + x := by rw [← Hx.out]; rfl
            omega)
          dsimp only at hy
          gi_wp2
          refine hR.mono ?_
          rintro e W3 (⟨rfl, hJ3, hk3⟩ | ⟨rfl, hJx3⟩)
          · gi_wp2
            go_roundw
            case rel => exact ⟨j + 1, _, by omega, by go_num, Pk.snoc_place _ Hpre'.out rfl, hJ3, hb'.trans hk3⟩
            case measure => simp [intOf]; omega
          · gi_wp2
            refine bodyPost_ret (results_none rfl _ _ _) rfl ?_
            exact ⟨⟨_, rfl⟩, .inr ⟨_, trivial, hJx3⟩⟩
        · have hjx : j = x := by omega
          have E : Hid (pre'.map (·.1) = Pk.plP ws (k + 1) 0) := by show _ = _; rw [Hpre'.out, hjx, ← Hx.out, Pk.plP_next]
          clear hjx
          gi_wp2
          go_roundw
          case rel => exact ⟨k + 1, pre', by omega, by go_num, E.out, hJ', hb'⟩
          case measure => simp [intOf]; omega
    · have hkk : k = m := by omega
      have E : Hid (pre.map (·.1) = Pk.plP ws ws.length 0) := by show _ = _; rw [Hpre.out, hkk, Hm.out]
      clear hkk
      gi_wp2
      go_end0
      exact ⟨⟨_, rfl⟩, .inl ⟨pre, E.out, hJ⟩⟩

theorem places_stops (F : Fence) (n : Nat) (hF : F.fn 142) (hro : F.round = none) (hn : 1 ≤ n) (Bs : Nat) (ws : List Int) (hok : Pk.okW ws = true) (b : Option Addr) (cb : Nat) (w0 w : World) (hw : Below w0.heap.size w0 w)
    (hr : RowI .i64 w0 b ws.length (fun j => ws.getD j 0)) (hBs : Bs < w.heap.size) (hc : w.cell? ⟨Bs, 0, none⟩ = some (.slice b ws.length cb)) :
    SeqStopsK F n Tryz.prog 142 #[.pointer (some ⟨Bs, 0, none⟩)] (fun x : Pk.Pl ws.length => #[Value.int .i64 (x.1.1 : Int), Value.int .i64 (8 * (x.1.2 : Int))]) (Below w0.heap.size) (fun ys => ys.map (·.1) = Pk.plP ws ws.length 0) (fun _ => True) (Pk.offs ws ws.length) w := fun l J Jx W hW _ _ hY h0 =>
  places1_in F n hF hro hn l Bs ws hok b cb w0 hr J Jx hY W (hw.trans (hW.mono hw.size)) ((hW.cell (p := ⟨Bs, 0, none⟩) hBs).trans hc) h0
end Go.Proofs.YtjmeiifogblmoaaGreatDoor

namespace Go.Proofs.YtjmeiifogblmoaaGreatDoor
open Go.RowKit Go.Shelf
attribute [local go_sem] Oper.semAt_some

set_option maxRecDepth 100000 in
set_option maxHeartbeats 400000 in
theorem Encode_size (l : List Nat) (ws : List Int) (hok : Pk.okW ws = false) (hlen : ws.length ≤ maxLen) (a b : Option Addr) (la ca cb : Nat) (w : World)
    (hb : RowI .i64 w b ws.length (fun j => ws.getD j 0)) :
    Calls Tryz.prog 84 #[.slice a la ca, .slice b ws.length cb] w fun e w' => e = .returned (.tuple #[.string (Pk.encS l ws), .int .i64 (Pk.encE l ws)]) ∧ Below w.heap.size w w' := by
  have hE1 := Pk.sizeE_no hok
  have E1 : Hid (Pk.encE l ws = 1) := Pk.encE_size hok
  have E2 : Hid (Pk.encS l ws = ByteArray.empty) := by show _ = _; unfold Pk.encS; rw [Pk.enc_size hok]; rfl
  go_enter Tryz.func84, Tryz.ntmps84
  go_wp2_with fail
  refine (Size_any ws hlen b cb _ (hb.below ((Below.refl _ w).alloc (Nat.le_refl _) _))).mono ?_
  rintro e w' ⟨rfl, rfl⟩
  rw [hE1]
  go_wp2
  go_ret2
  exact ⟨ret_two (by rw [E2.out]; rfl) (by rw [E1.out]; rfl), (Below.refl _ w).alloc (Nat.le_refl _) _⟩

set_option maxRecDepth 100000 in
set_option maxHeartbeats 400000 in
theorem Encode_count (l : List Nat) (ws : List Int) (hok : Pk.okW ws = true) (hne : l.length ≠ ws.length) (_hl : l.length ≤ maxLen) (a b : Option Addr) (ca cb : Nat) (w : World)
    (hb : RowI .i64 w b ws.length (fun j => ws.getD j 0)) :
    Calls Tryz.prog 84 #[.slice a l.length ca, .slice b ws.length cb] w fun e w' => e = .returned (.tuple #[.string (Pk.encS l ws), .int .i64 (Pk.encE l ws)]) ∧ Below w.heap.size w w' := by
  have hE1 := Pk.sizeE_yes hok
  have h64 := Pk.okW_len hok
  unfold maxLen at _hl
  have E1 : Hid (Pk.encE l ws = 1) := Pk.encE_count hok hne
  have E2 : Hid (Pk.encS l ws = ByteArray.empty) := by show _ = _; unfold Pk.encS; rw [Pk.enc_count hne]; rfl
  have hne2 : ((l.length : Int) == (ws.length : Int)) = false := by rw [beq_eq_false_iff_ne]; omega
  go_enter Tryz.func84, Tryz.ntmps84
  go_wp2_with fail
  refine (Size_any ws (by unfold maxLen; omega) b cb _ (hb.below ((Below.refl _ w).alloc (Nat.le_refl _) _))).mono ?_
  rintro e w' ⟨rfl, rfl⟩
  rw [hE1]
  go_wp2
  go_ret2
  exact ⟨ret_two (by rw [E2.out]; rfl) (by rw [E1.out]; rfl), (Below.refl _ w).alloc (Nat.le_refl _) _⟩

set_option maxRecDepth 100000 in
set_option maxHeartbeats 400000 in
theorem Encode_unfit (l : List Nat) (ws : List Int) (hok : Pk.okW ws = true) (hl : l.length = ws.length) (hfit : Pk.fitAll l ws = false) (hf : ∀ j, l.getD j 0 < 18446744073709551616) (a b : Option Addr) (ca cb : Nat) (w : World)
    (ha : RowI .u64 w a l.length (fun j => (l.getD j 0 : Nat))) (hb : RowI .i64 w b ws.length (fun j => ws.getD j 0)) :
    Calls Tryz.prog 84 #[.slice a l.length ca, .slice b ws.length cb] w fun e w' => e = .returned (.tuple #[.string (Pk.encS l ws), .int .i64 (Pk.encE l ws)]) ∧ Below w.heap.size w w' := by
  have hE1 := Pk.sizeE_yes hok
  have h64 := Pk.okW_len hok
  have E1 : Hid (Pk.encE l ws = 30) := Pk.encE_unfit hok hl hfit
  have E2 : Hid (Pk.encS l ws = ByteArray.empty) := by show _ = _; unfold Pk.encS; rw [Pk.enc_unfit hfit]; rfl
  have hne2 : ((l.length : Int) == (ws.length : Int)) = true := by rw [hl]; simp
  have Hl : Hid (l.length = ws.length) := hl
  clear hl
  go_enter Tryz.func84, Tryz.ntmps84
  go_wp2_with fail
  refine (Size_any ws (by unfold maxLen; omega) b cb _ (hb.below ((Below.refl _ w).alloc (Nat.le_refl _) _))).mono ?_
  rintro e w' ⟨rfl, rfl⟩
  rw [hE1]
  go_wp2_with fail
  refine (fitting_any l ws Hl.out h64 hf a b ca cb _ (ha.below ((Below.refl _ w).alloc (Nat.le_refl _) _)) (hb.below ((Below.refl _ w).alloc (Nat.le_refl _) _))).mono ?_
  rintro e w' ⟨rfl, rfl⟩
  rw [hfit]
  go_wp2
  go_ret2
  exact ⟨ret_two (by rw [E2.out]; rfl) (by rw [E1.out]; rfl), (Below.refl _ w).alloc (Nat.le_refl _) _⟩

/-- what has been put out behind the places pre -/
def Pk.outB {m : Nat} (l : List Nat) (pre : List (Pk.Pl m)) : List UInt8 := pre.map fun x => Pk.byteAt (l.getD x.1.1 0) x.1.2
theorem Pk.outB_snoc {m : Nat} (l : List Nat) (pre : List (Pk.Pl m)) (x : Pk.Pl m) : Pk.outB l (pre ++ [x]) = Pk.outB l pre ++ [Pk.byteAt (l.getD x.1.1 0) x.1.2] := by simp [Pk.outB]
theorem Pk.outB_all {m : Nat} (l : List Nat) (ws : List Int) (pre : List (Pk.Pl m)) (i : Nat) (h : pre.map (·.1) = Pk.plP ws i 0) : Pk.outB l pre = Pk.encP l ws i 0 := by
  have e : Pk.outB l pre = (pre.map (·.1)).map fun p => Pk.byteAt (l.getD p.1 0) p.2 := by simp [Pk.outB]
  rw [e, h]
  simp [Pk.plP, Pk.encP, Pk.bytesOf, List.map_flatMap, Function.comp_def]

set_option maxRecDepth 100000 in
set_option maxHeartbeats 2000000 in
theorem Encode_yes (l : List Nat) (ws : List Int) (hok : Pk.okW ws = true) (hl : l.length = ws.length) (hfit : Pk.fitAll l ws = true) (hf : ∀ j, l.getD j 0 < 18446744073709551616) (a b : Option Addr) (ca cb : Nat) (w : World)
    (ha : RowI .u64 w a l.length (fun j => (l.getD j 0 : Nat))) (hb : RowI .i64 w b ws.length (fun j => ws.getD j 0)) :
    Calls Tryz.prog 84 #[.slice a l.length ca, .slice b ws.length cb] w fun e w' => e = .returned (.tuple #[.string (Pk.encS l ws), .int .i64 (Pk.encE l ws)]) ∧ Below w.heap.size w w' := by
  have hE1 := Pk.sizeE_yes hok
  have hN1 := Pk.sizeN_yes hok
  have h64 := Pk.okW_len hok
  have hoffs := Pk.offs_le hok (Nat.le_refl _)
  have E1 : Hid (Pk.encE l ws = 0) := Pk.encE_yes hok hl hfit
  have E2 : Hid (Pk.encS l ws = ⟨(Pk.encP l ws ws.length 0).toArray⟩) := by show _ = _; unfold Pk.encS; rw [Pk.enc_yes hok hl hfit]
  have hne2 : ((l.length : Int) == (ws.length : Int)) = true := by rw [hl]; simp
  have Hl : Hid (l.length = ws.length) := hl
  clear hl
  have kb1 := (Below.refl _ w).alloc (Nat.le_refl w.heap.size) (.cells #[.slice a l.length ca] 104)
  obtain ⟨i0, hi, hz0, hz1, hz2⟩ := info_parts (show (Tryz.prog.info? 5).map (fun i => (i.zero, i.size, i.bytes)) = some (some (.int .u8 0), 1, 1) from info_u8)
  refine (callsIn_wide (n := 3)).1 ?_
  refine callsIn_of_wp_marks Tryz.func84 rfl trivial ?_ rfl
  simp only [Tryz.ntmps84, List.size_toArray, List.length_cons, List.length_nil, Nat.reduceAdd, Nat.reduceSub, Array.replicate_succ, Array.replicate_zero, List.push_toArray, List.append_toArray, List.nil_append, List.cons_append]
  gi_wp2_with fail
  refine ⟨trivial, (callsIn_wide.2 (Size_any ws (by unfold maxLen; omega) b cb _ (hb.below kb1))).mono ?_⟩
  rintro e w' ⟨rfl, rfl⟩
  rw [hE1, hN1]
  gi_wp2_with fail
  refine ⟨trivial, (callsIn_wide.2 (fitting_any l ws Hl.out h64 hf a b ca cb _ (ha.below kb1) (hb.below kb1))).mono ?_⟩
  rintro e w' ⟨rfl, rfl⟩
  rw [hfit]
  have hmk := run_make_room (P := Tryz.prog) 44 5 (.int .u8 0) 1 Tryz.underlying44 info_u8 rfl .i64 .i64 (Pk.offs ws ws.length) (by omega) (by omega)
  gi_wp2_with fail
  refine ⟨trivial, (callsIn_wide.2 (places_any b ws.length cb _)).mono ?_⟩
  rintro e w' ⟨rfl, rfl⟩
  gi_wp2_with fail
  have bL := ((((Boxed.new w 104 (.slice a l.length ca)).alloc (.cells (madeCells #[.int .u8 0] (Pk.offs ws ws.length)) 5)).alloc (.cells #[.slice (some ⟨w.heap.size + 1, 0, none⟩) 0 (Pk.offs ws ws.length)] 44)).alloc (.cells #[.slice b ws.length cb] 107))
  have bO := (Boxed.new ((w.alloc (.cells #[.slice a l.length ca] 104)).alloc (.cells (madeCells #[.int .u8 0] (Pk.offs ws ws.length)) 5)) 44 (.slice (some ⟨w.heap.size + 1, 0, none⟩) 0 (Pk.offs ws ws.length))).alloc (.cells #[.slice b ws.length cb] 107)
  have bW := Boxed.new (((w.alloc (.cells #[.slice a l.length ca] 104)).alloc (.cells (madeCells #[.int .u8 0] (Pk.offs ws ws.length)) 5)).alloc (.cells #[.slice (some ⟨w.heap.size + 1, 0, none⟩) 0 (Pk.offs ws ws.length)] 44)) 107 (.slice b ws.length cb)
  have hown := ((World.ownsRow_made (base := w.heap.size) (w.alloc (.cells #[.slice a l.length ca] 104)) (e := 5) (size := 1) (madeCells #[.int .u8 0] (Pk.offs ws ws.length)) (Pk.offs ws ws.length) (by simp) (by unfold maxLen; omega) (by rw [size_madeCells, Nat.mul_one])).alloc (.cells #[.slice (some ⟨w.heap.size + 1, 0, none⟩) 0 (Pk.offs ws ws.length)] 44)).alloc (.cells #[.slice b ws.length cb] 107)
  have kb4 := (((kb1.alloc (by simp) (.cells (madeCells #[.int .u8 0] (Pk.offs ws ws.length)) 5)).alloc (by simp; omega) (.cells #[.slice (some ⟨w.heap.size + 1, 0, none⟩) 0 (Pk.offs ws ws.length)] 44)).alloc (by simp; omega) (.cells #[.slice b ws.length cb] 107))
  simp only [World.size_alloc] at bO bW hown
  refine wpIn_rangeFunc_ownG rfl (by decide) (gf := 142) (lb := #[.pointer (some ⟨w.heap.size + 1 + 1 + 1, 0, none⟩)]) rfl trivial (enters_of Tryz.func142 (by kernel_rfl) rfl)
    (places_stops Fence.wide (3 - 1) trivial rfl (by decide) (w.heap.size + 1 + 1 + 1) ws hok b cb w _ kb4 hb (by simp) bW.cell) belowK_t (belowK_b (by simp; omega)) (Below.refl _ _) (fun _ => rfl)
    (fun pre W => (∃ v, Boxed W (w.heap.size + 1 + 1) 44 v ∧ W.ownsRow w.heap.size 5 1 v pre.length (byteVals (Pk.outB l pre)) ∧ True) ∧ (Boxed W w.heap.size 104 (.slice a l.length ca) ∧ Below w.heap.size w W))
    (fun _ _ _ => False)
    (OwnFrom.and (Own.from (holdsRow_own w.heap.size (w.heap.size + 1 + 1) 44 5 1 (fun pre => pre.length) (fun pre => byteVals (Pk.outB l pre)) (fun _ _ => True)) _) (OwnFrom.and (Own.from (boxed_own _ _ _) _) (ownFrom_below (Nat.le_refl _) (by simp; omega))))
    (fun _ _ _ _ _ hs _ _ => hs)
    ⟨⟨_, bO, hown, trivial⟩, bL, kb4⟩
    (fun x => { tmps := #[.slice a l.length ca, .slice b ws.length cb, .pointer (some ⟨w.heap.size, 0, none⟩), undef, .string { data := #[] },
          .int .i64 0, .int .i64 (Pk.offs ws ws.length : Nat), .int .i64 0,
          .pointer (some ⟨w.heap.size + 1 + 1, 0, none⟩), .int .i64 (x.1.1 : Int), .int .i64 (8 * (x.1.2 : Int)),
          .tuple #[.int .i64 (Pk.offs ws ws.length : Nat), .int .i64 0],
          .slice b ws.length cb,
          .tuple #[.int .i64 (Pk.offs ws ws.length : Nat), .int .i64 0],
          .int .i64 (Pk.offs ws ws.length : Nat), .int .i64 0, .bool false,
          .int .i64 0, .bool false, undef, .bool false, .slice a l.length ca,
          .int .i64 (l.length : Nat), .slice b ws.length cb, .int .i64 (ws.length : Nat),
          .bool false, .bool false, .slice a l.length ca, .slice b ws.length cb, .bool true,
          .bool false, .int .i64 (Pk.offs ws ws.length : Nat),
          .slice (some ⟨w.heap.size + 1, 0, none⟩) 0 (Pk.offs ws ws.length),
          .slice b ws.length cb,
          .func (.func 142) #[] #[.pointer (some ⟨w.heap.size + 1 + 1 + 1, 0, none⟩)], .int .i64 (x.1.1 : Int), .int .i64 (8 * (x.1.2 : Int)), undef, undef, undef, undef, undef, undef, undef, undef, undef, undef, undef, undef], defers := [] }) ?assign ?body ?done ?stop
  case assign =>
    intro l x W K hK
    gi_wp2
    exact hK
  case body =>
    rintro _ pre ⟨⟨i, k⟩, hik, hk8⟩ W ⟨⟨v, hv, hrow, _⟩, hvl, hB⟩ hlt
    have hc := hv.cell
    have hcl := hvl.cell
    have hxl : i < l.length := by rw [Hl.out]; exact hik
    obtain ⟨b1, o1, rfl, hc0⟩ := ha i hxl
    have hb1 := World.block_lt_of_cell? w _ hc0
    have hc1 := (hB.cell (p := ⟨b1, o1 + i, none⟩) hb1).trans hc0
    obtain ⟨N, hN⟩ : ∃ N, l.getD i 0 = N := ⟨_, rfl⟩
    simp only [hN] at hc1
    have Hn : Hid (l.getD i 0 = N) := hN
    have hN64 : N < 18446744073709551616 := by rw [← hN]; exact hf i
    have hbyte : (N : Int) / 2 ^ (8 * k) % 256 = ((Pk.byteAt N k).toNat : Int) := by rw [Pk.shr_nat, Pk.byteAt_toNat]; omega
    have hmx : Tryz.prog.follows .mixedOrders = true := by kernel_rfl
    have hpl : pre.length < 512 := by omega
    have hB0 := hB.size
    clear hN
    gi_wp2
    refine region_in_round (fun w' => w'.cell? ⟨w.heap.size, 0, none⟩ = some (.slice (some ⟨b1, o1, none⟩) l.length ca) ∧ w'.cell? ⟨b1, o1 + i, none⟩ = some (.int .u64 (N : Nat))) hmx (by kernel_rfl) (fun ⟨_, _, h⟩ => h) ?_
    have hS0 : (fun w' : World => w'.cell? ⟨w.heap.size, 0, none⟩ = some (.slice (some ⟨b1, o1, none⟩) l.length ca) ∧ w'.cell? ⟨b1, o1 + i, none⟩ = some (.int .u64 (N : Nat))) W.drew := ⟨hcl, hc1⟩
    have hS8 : (fun w' : World => w'.cell? ⟨w.heap.size, 0, none⟩ = some (.slice (some ⟨b1, o1, none⟩) l.length ca) ∧ w'.cell? ⟨b1, o1 + i, none⟩ = some (.int .u64 (N : Nat))) ((W.alloc (.cells #[.int .u8 ((Pk.byteAt N k).toNat : Int)] 5)).drew) :=
      ⟨(hvl.alloc _).cell, (((Below.refl _ W).alloc (Nat.le_refl _) _).cell (p := ⟨b1, o1 + i, none⟩) (World.block_lt_of_cell? W _ hc1)).trans hc1⟩
    have hv8 := (hv.alloc (.cells #[.int .u8 ((Pk.byteAt N k).toNat : Int)] 5)).cell
    refine held_quiet 1 (v := ?v1q1) rfl (by kernel_rfl) (fun _ _ _ h => h) (by assumption) rfl ?hy1q1 ?rest1q1
    case hy1q1 => (intro wS hSw; (try dsimp only at hSw); go_simp; try with_reducible rfl)
    try simp only [Act.put, List.setIfInBounds_toArray, List.set_cons_zero, List.set_cons_succ]
    refine held_quiet 2 (v := ?v2q2) rfl (by kernel_rfl) (fun _ _ _ h => h) (by assumption) rfl ?hy2q2 ?rest2q2
    case hy2q2 => (intro wS hSw; (try dsimp only at hSw); go_simp; try with_reducible rfl)
    try simp only [Act.put, List.setIfInBounds_toArray, List.set_cons_zero, List.set_cons_succ]
    refine held_quiet 3 (v := ?v3q3) rfl (by kernel_rfl) (fun _ _ _ h => h) (by assumption) rfl ?hy3q3 ?rest3q3
    case hy3q3 => (intro wS hSw; (try dsimp only at hSw); go_simp; try with_reducible rfl)
    try simp only [Act.put, List.setIfInBounds_toArray, List.set_cons_zero, List.set_cons_succ]
    refine held_quiet 4 (v := ?v4q4) rfl (by kernel_rfl) (fun _ _ _ h => h) (by assumption) rfl ?hy4q4 ?rest4q4
    case hy4q4 => (intro wS hSw; (try dsimp only at hSw); go_simp; try with_reducible rfl)
    try simp only [Act.put, List.setIfInBounds_toArray, List.set_cons_zero, List.set_cons_succ]
    refine held_quiet 5 (v := ?v5q5) rfl (by kernel_rfl) (fun _ _ _ h => h) (by assumption) rfl ?hy5q5 ?rest5q5
    case hy5q5 => (intro wS hSw; (try dsimp only at hSw); go_simp; try with_reducible rfl)
    try simp only [Act.put, List.setIfInBounds_toArray, List.set_cons_zero, List.set_cons_succ]
    refine held_quiet 6 (v := ?v6q6) rfl (by kernel_rfl) (fun _ _ _ h => h) (by assumption) rfl ?hy6q6 ?rest6q6
    case hy6q6 => (intro wS hSw; (try dsimp only at hSw); go_simp; try with_reducible rfl)
    try simp only [Act.put, List.setIfInBounds_toArray, List.set_cons_zero, List.set_cons_succ]
    refine held_quiet 7 (v := ?v7q7) rfl (by kernel_rfl) (fun _ _ _ h => h) (by assumption) rfl ?hy7q7 ?rest7q7
    case hy7q7 => (intro wS hSw; (try dsimp only at hSw); go_simp; try with_reducible rfl)
    try simp only [Act.put, List.setIfInBounds_toArray, List.set_cons_zero, List.set_cons_succ]
    refine held_two 0 8 rfl rfl (by kernel_rfl) ?_ ?_
    · go_wp2
      try refine ⟨hS0, ?_⟩
      refine held_one 8 rfl (by kernel_rfl) ?_
      go_wp2
      try rw [hbyte]
      try refine ⟨hS8, ?_⟩
      refine held_one 9 rfl (by kernel_rfl) ?_
      refine wpList_append_own _ rfl _ _ 44 rfl w.heap.size 5 i0 (.int .u8 0) 1 1 Tryz.underlying44 hi hz0 hz1 hz2 rfl (by decide) v pre.length (byteVals (Pk.outB l pre)) rfl (hrow.alloc _) ⟨W.heap.size, 0, none⟩ 1 1 [.int .u8 ((Pk.byteAt N k).toNat : Int)] rfl rfl (cell_one_new _ _ _) (by simp [Value.oneCell']) (by unfold maxLen; omega) (by omega) (by simp; omega) ?_
      intro v' w1 hown' hgrow _
      obtain ⟨g', cap', rfl⟩ := ownsRow_succ hown'
      obtain ⟨hv1, hv2, hr2, hk2, hb2⟩ := hv.appended (by decide) hrow hB0 (by omega) hown' (grownBy_undrew hgrow)
      have hvl1 := (hvl.alloc _).kept (grownBy_undrew hgrow) (hvl.not_row (by decide) hrow)
      have hc2 := (below_append hrow hB0 (grownBy_undrew hgrow)).cell (p := ⟨b1, o1 + i, none⟩) hb1
      have hcv1 := hv1.cell
      have hfv1 := hv1.frozen
      have hSe : (fun w' : World => w'.cell? ⟨w.heap.size, 0, none⟩ = some (.slice (some ⟨b1, o1, none⟩) l.length ca) ∧ w'.cell? ⟨b1, o1 + i, none⟩ = some (.int .u64 (N : Nat))) (w1.setCell ⟨w.heap.size + 1 + 1, 0, none⟩ (.slice (some ⟨g', 0, none⟩) (pre.length + 1) cap')) :=
        ⟨(boxed_setOther hvl1 (w.heap.size + 1 + 1) 0 _ (by omega)).cell, (hb2.cell (p := ⟨b1, o1 + i, none⟩) hb1).trans hc1⟩
      refine ⟨⟨hvl1.cell, hc2.trans hc1⟩, ?_⟩
      refine held_one 10 rfl (by kernel_rfl) ?_
      go_wp2
      first | refine ⟨hSe, held_done (by kernel_rfl) ?_⟩ | refine held_done (by kernel_rfl) ?_
      exact ⟨hk2.from _, hb2, ⟨_, hv2, by rw [Pk.outB_snoc, ← byteVals_snoc, Hn.out]; simpa using hr2, trivial⟩, hvl1.kept (grownBy_setCell' _ _ _) (by simp; omega), hB.trans hb2⟩
    · go_wp2
      try rw [hbyte]
      try refine ⟨hS8, ?_⟩
      refine held_one 0 rfl (by kernel_rfl) ?_
      go_wp2
      try refine ⟨hS8, ?_⟩
      refine held_one 9 rfl (by kernel_rfl) ?_
      refine wpList_append_own _ rfl _ _ 44 rfl w.heap.size 5 i0 (.int .u8 0) 1 1 Tryz.underlying44 hi hz0 hz1 hz2 rfl (by decide) v pre.length (byteVals (Pk.outB l pre)) rfl (hrow.alloc _) ⟨W.heap.size, 0, none⟩ 1 1 [.int .u8 ((Pk.byteAt N k).toNat : Int)] rfl rfl (cell_one_new _ _ _) (by simp [Value.oneCell']) (by unfold maxLen; omega) (by omega) (by simp; omega) ?_
      intro v' w1 hown' hgrow _
      obtain ⟨g', cap', rfl⟩ := ownsRow_succ hown'
      obtain ⟨hv1, hv2, hr2, hk2, hb2⟩ := hv.appended (by decide) hrow hB0 (by omega) hown' (grownBy_undrew hgrow)
      have hvl1 := (hvl.alloc _).kept (grownBy_undrew hgrow) (hvl.not_row (by decide) hrow)
      have hc2 := (below_append hrow hB0 (grownBy_undrew hgrow)).cell (p := ⟨b1, o1 + i, none⟩) hb1
      have hcv1 := hv1.cell
      have hfv1 := hv1.frozen
      have hSe : (fun w' : World => w'.cell? ⟨w.heap.size, 0, none⟩ = some (.slice (some ⟨b1, o1, none⟩) l.length ca) ∧ w'.cell? ⟨b1, o1 + i, none⟩ = some (.int .u64 (N : Nat))) (w1.setCell ⟨w.heap.size + 1 + 1, 0, none⟩ (.slice (some ⟨g', 0, none⟩) (pre.length + 1) cap')) :=
        ⟨(boxed_setOther hvl1 (w.heap.size + 1 + 1) 0 _ (by omega)).cell, (hb2.cell (p := ⟨b1, o1 + i, none⟩) hb1).trans hc1⟩
      refine ⟨⟨hvl1.cell, hc2.trans hc1⟩, ?_⟩
      refine held_one 10 rfl (by kernel_rfl) ?_
      go_wp2
      first | refine ⟨hSe, held_done (by kernel_rfl) ?_⟩ | refine held_done (by kernel_rfl) ?_
      exact ⟨hk2.from _, hb2, ⟨_, hv2, by rw [Pk.outB_snoc, ← byteVals_snoc, Hn.out]; simpa using hr2, trivial⟩, hvl1.kept (grownBy_setCell' _ _ _) (by simp; omega), hB.trans hb2⟩
  case done =>
    rintro D ys W hD hys ⟨⟨v, hv, hrow, _⟩, hvl, hB⟩ hK
    have hc := hv.cell
    have hlen : ys.length = Pk.offs ws ws.length := by
      have := congrArg List.length hys
      rw [List.length_map, Pk.plP_length] at this; exact this
    have hout := Pk.outB_all l ws ys ws.length hys
    rw [hlen, hout] at hrow
    have hcv := fun (W' : World) (h : W'.ownsRow w.heap.size 5 1 v (Pk.offs ws ws.length) (byteVals (Pk.encP l ws ws.length 0))) => ownsBytes_back (P := Tryz.prog) h 44 9 5 Tryz.underlying44 Tryz.underlying5 Tryz.underlying9
    have hcv1 := hcv W hrow
    gi_wp2
    refine ⟨by simp, .inl ⟨_, _, rfl, run_takeDeferred hK, ?_⟩⟩
    exact ⟨_, results_tmp2 (fn := Tryz.f84) rfl _ _ _, ret_two (by rw [E2.out]; rfl) (by rw [E1.out]; rfl), hB.trans (belowK_b (w := w) (Nat.le_refl _) W D _ _ (by simp at hD; omega) hK rfl rfl)⟩
  case stop =>
    rintro D c pre W _ _ h _
    exact h.elim

theorem Encode_any (l : List Nat) (ws : List Int) (hl : l.length ≤ maxLen) (hlen : ws.length ≤ maxLen) (hf : ∀ j, l.getD j 0 < 18446744073709551616) (a b : Option Addr) (ca cb : Nat) (w : World)
    (ha : RowI .u64 w a l.length (fun j => (l.getD j 0 : Nat))) (hb : RowI .i64 w b ws.length (fun j => ws.getD j 0)) :
    Calls Tryz.prog 84 #[.slice a l.length ca, .slice b ws.length cb] w fun e w' => e = .returned (.tuple #[.string (Pk.encS l ws), .int .i64 (Pk.encE l ws)]) ∧ Below w.heap.size w w' := by
  cases hok : Pk.okW ws with
  | false => exact Encode_size l ws hok hlen a b _ ca cb w hb
  | true =>
    by_cases hc : l.length = ws.length
    · cases hfit : Pk.fitAll l ws with
      | false => exact Encode_unfit l ws hok hc hfit hf a b ca cb w ha hb
      | true => exact Encode_yes l ws hok hc hfit hf a b ca cb w ha hb
    · exact Encode_count l ws hok hc hl a b ca cb w hb
end Go.Proofs.YtjmeiifogblmoaaGreatDoor

namespace Go.Proofs.YtjmeiifogblmoaaGreatDoor
open Go.RowKit Go.Shelf
attribute [local go_sem] Oper.semAt_some

/-- what pack.Decode answers -/
def DecAns (s : List UInt8) (ws : List Int) (w : World) (e : Ending) (w' : World) : Prop :=
  ∃ a cap, e = .returned (.tuple #[.slice a (Pk.dec s ws).length cap, .int .i64 (Pk.decE s ws)]) ∧ RowI .u64 w' a (Pk.dec s ws).length (fun j => ((Pk.dec s ws).getD j 0 : Nat)) ∧ Below w.heap.size w w'

set_option maxRecDepth 100000 in
set_option maxHeartbeats 400000 in
theorem Decode_size (s : ByteArray) (ws : List Int) (hok : Pk.okW ws = false) (hlen : ws.length ≤ maxLen) (b : Option Addr) (cb : Nat) (w : World)
    (hb : RowI .i64 w b ws.length (fun j => ws.getD j 0)) :
    Calls Tryz.prog 91 #[.string s, .slice b ws.length cb] w (DecAns s.data.toList ws w) := by
  have hE1 := Pk.sizeE_no hok
  have E1 : Hid (Pk.decE s.data.toList ws = 1) := Pk.decE_size hok
  have E2 : Hid (Pk.dec s.data.toList ws = []) := Pk.dec_size hok
  go_enter Tryz.func91, Tryz.ntmps91
  go_wp2_with fail
  refine (Size_any ws hlen b cb _ (hb.below ((Below.refl _ w).alloc (Nat.le_refl _) _))).mono ?_
  rintro e w' ⟨rfl, rfl⟩
  rw [hE1]
  go_wp2
  go_ret2
  exact ⟨none, 0, ret_two (by rw [E2.out]; rfl) (by rw [E1.out]; rfl), by rw [E2.out]; exact RowI.nil _ _ _ _, (Below.refl _ w).alloc (Nat.le_refl _) _⟩

set_option maxRecDepth 100000 in
set_option maxHeartbeats 400000 in
theorem Decode_short (s : ByteArray) (ws : List Int) (hok : Pk.okW ws = true) (hne : s.size ≠ Pk.offs ws ws.length) (_hs : s.size ≤ maxLen) (b : Option Addr) (cb : Nat) (w : World)
    (hb : RowI .i64 w b ws.length (fun j => ws.getD j 0)) :
    Calls Tryz.prog 91 #[.string s, .slice b ws.length cb] w (DecAns s.data.toList ws w) := by
  have hE1 := Pk.sizeE_yes hok
  have hN1 := Pk.sizeN_yes hok
  have h64 := Pk.okW_len hok
  have hoffs := Pk.offs_le hok (Nat.le_refl _)
  unfold maxLen at _hs
  have E1 : Hid (Pk.decE s.data.toList ws = 31) := Pk.decE_short hok (by simpa using hne)
  have E2 : Hid (Pk.dec s.data.toList ws = []) := Pk.dec_short (by simpa using hne)
  have hne2 : ((s.size : Int) == (Pk.offs ws ws.length : Nat)) = false := by rw [beq_eq_false_iff_ne]; omega
  go_enter Tryz.func91, Tryz.ntmps91
  go_wp2_with fail
  refine (Size_any ws (by unfold maxLen; omega) b cb _ (hb.below ((Below.refl _ w).alloc (Nat.le_refl _) _))).mono ?_
  rintro e w' ⟨rfl, rfl⟩
  rw [hE1, hN1]
  go_wp2
  go_ret2
  exact ⟨none, 0, ret_two (by rw [E2.out]; rfl) (by rw [E1.out]; rfl), by rw [E2.out]; exact RowI.nil _ _ _ _, (Below.refl _ w).alloc (Nat.le_refl _) _⟩

namespace Pk
/-- one byte more of number i -/
def accStep (s : List UInt8) (i : Nat) (st : Nat × Nat) (x : Nat × Nat) : Nat × Nat := (st.1 + 1, if x.1 = i then st.2 ||| (s.getD st.1 0).toNat <<< (8 * x.2) else st.2)
/-- number i behind the places pre -/
def acc (s : List UInt8) (pre : List (Nat × Nat)) (i : Nat) : Nat := (pre.foldl (accStep s i) (0, 0)).2
theorem acc_fst (s : List UInt8) (i : Nat) (pre : List (Nat × Nat)) (st : Nat × Nat) : (pre.foldl (accStep s i) st).1 = st.1 + pre.length := by
  induction pre generalizing st with
  | nil => rfl
  | cons x pre ih => rw [List.foldl_cons, ih]; simp [accStep]; omega
theorem acc_snoc (s : List UInt8) (pre : List (Nat × Nat)) (x : Nat × Nat) (i : Nat) : acc s (pre ++ [x]) i = if x.1 = i then acc s pre i ||| (s.getD pre.length 0).toNat <<< (8 * x.2) else acc s pre i := by
  unfold acc
  rw [List.foldl_append]
  show (if x.1 = i then (pre.foldl (accStep s i) (0, 0)).2 ||| (s.getD (pre.foldl (accStep s i) (0, 0)).1 0).toNat <<< (8 * x.2) else (pre.foldl (accStep s i) (0, 0)).2) = _
  rw [acc_fst, Nat.zero_add]
theorem byte_shl_lt (c : UInt8) {k : Nat} (hk : k < 8) : c.toNat <<< (8 * k) < 18446744073709551616 := by
  rw [Nat.shiftLeft_eq]
  have h1 := c.toNat_lt
  have h2 : 2 ^ (8 * k) ≤ 2 ^ 56 := Nat.pow_le_pow_right (by decide) (by omega)
  exact Nat.lt_of_le_of_lt (Nat.mul_le_mul (show c.toNat ≤ 255 by omega) h2) (by decide)
theorem acc_lt (s : List UInt8) (i : Nat) (pre : List (Nat × Nat)) (h : ∀ x ∈ pre, x.2 < 8) : acc s pre i < 18446744073709551616 := by
  have key : ∀ (pre : List (Nat × Nat)) (st : Nat × Nat), (∀ x ∈ pre, x.2 < 8) → st.2 < 2 ^ 64 → (pre.foldl (accStep s i) st).2 < 2 ^ 64 := by
    intro pre
    induction pre with
    | nil => exact fun _ _ h => h
    | cons x pre ih =>
      intro st hx hst
      refine ih _ (fun y hy => hx y (List.mem_cons_of_mem _ hy)) ?_
      unfold accStep
      dsimp only
      split
      · exact Nat.or_lt_two_pow hst (byte_shl_lt _ (hx x (List.mem_cons_self ..)))
      · exact hst
  exact key pre (0, 0) h (by decide)
theorem acc_all (s : List UInt8) (ws : List Int) (j : Nat) (i k : Nat) : acc s (plP ws i k) j = if j < i then num s (offs ws j) (wd ws j) else if j = i then num s (offs ws i) k else 0 := by
  induction i generalizing k with
  | zero =>
    induction k with
    | zero => simp [plP, acc, num]
    | succ k ih =>
      rw [plP_succ, acc_snoc, ih, plP_length]
      by_cases e : j = 0
      · subst e; simp only [if_pos, Nat.lt_irrefl, if_false]; exact num_or s _ k
      · rw [if_neg (fun h => e h.symm)]; simp [e]
  | succ i ihi =>
    induction k with
    | zero =>
      rw [← plP_next, ihi]
      by_cases e1 : j < i
      · rw [if_pos e1, if_pos (by omega)]
      · by_cases e2 : j = i
        · subst e2; simp
        · rw [if_neg e1, if_neg e2, if_neg (by omega)]
          split
          · rfl
          · rfl
    | succ k ih =>
      rw [plP_succ, acc_snoc, ih, plP_length]
      by_cases e : j = i + 1
      · subst e; simp only [if_pos, Nat.lt_irrefl, if_false]; exact num_or s _ k
      · rw [if_neg (fun h => e h.symm)]; simp [e]
theorem or_byte (A : Nat) (c : UInt8) (k : Nat) (hA : A < 18446744073709551616) (hk : k < 8) : bits BinOp.or IntKind.u64 (A : Int) (IntKind.u64.wrap (IntKind.u64.wrap (c.toNat : Int) * 2 ^ (8 * k))) = ((A ||| c.toNat <<< (8 * k) : Nat) : Int) := by
  have hc := c.toNat_lt
  have h := byte_shl_lt c hk
  have e : IntKind.u64.wrap (IntKind.u64.wrap (c.toNat : Int) * 2 ^ (8 * k)) = ((c.toNat <<< (8 * k) : Nat) : Int) := by
    have e1 : IntKind.u64.wrap (c.toNat : Int) = (c.toNat : Int) := by rw [IntKind.wrap_u64]; omega
    have e2 : (c.toNat : Int) * 2 ^ (8 * k) = ((c.toNat <<< (8 * k) : Nat) : Int) := by rw [Nat.shiftLeft_eq, Int.natCast_mul, Int.natCast_pow]; rfl
    rw [e1, e2, IntKind.wrap_u64]
    obtain ⟨y, hy⟩ : ∃ y, c.toNat <<< (8 * k) = y := ⟨_, rfl⟩
    rw [hy] at h ⊢; omega
  rw [e]
  exact u64_or_nat A _ hA h
end Pk

set_option maxRecDepth 100000 in
set_option maxHeartbeats 2000000 in
theorem Decode_yes (s : ByteArray) (ws : List Int) (hok : Pk.okW ws = true) (hsz : s.size = Pk.offs ws ws.length) (b : Option Addr) (cb : Nat) (w : World)
    (hb : RowI .i64 w b ws.length (fun j => ws.getD j 0)) :
    Calls Tryz.prog 91 #[.string s, .slice b ws.length cb] w (DecAns s.data.toList ws w) := by
  have hE1 := Pk.sizeE_yes hok
  have hN1 := Pk.sizeN_yes hok
  have h64 := Pk.okW_len hok
  have hoffs := Pk.offs_le hok (Nat.le_refl _)
  have hsl : s.data.toList.length = Pk.offs ws ws.length := by simpa using hsz
  have E1 : Hid (Pk.decE s.data.toList ws = 0) := Pk.decE_yes hok hsl
  have E2 : Hid ((Pk.dec s.data.toList ws).length = ws.length) := Pk.dec_length hok hsl
  have E3 : Hid (∀ i, i < ws.length → (Pk.dec s.data.toList ws).getD i 0 = Pk.num s.data.toList (Pk.offs ws i) (Pk.wd ws i)) := fun i hi => Pk.dec_at hok hsl hi
  have hne2 : ((s.size : Int) == (Pk.offs ws ws.length : Nat)) = true := by rw [hsz]; simp
  have Hsz : Hid (s.size = Pk.offs ws ws.length) := hsz
  clear hsz hsl
  have kb1 := (Below.refl _ w).alloc (Nat.le_refl w.heap.size) (.cells #[.string s] 9)
  have hmk := run_make_row' (P := Tryz.prog) 104 57 (.int .u64 0) 8 Tryz.underlying104 (by kernel_rfl) rfl .i64 .i64 ws.length (by omega) (by omega)
  refine (callsIn_wide (n := 3)).1 ?_
  refine callsIn_of_wp_marks Tryz.func91 rfl trivial ?_ rfl
  simp only [Tryz.ntmps91, List.size_toArray, List.length_cons, List.length_nil, Nat.reduceAdd, Nat.reduceSub, Array.replicate_succ, Array.replicate_zero, List.push_toArray, List.append_toArray, List.nil_append, List.cons_append]
  gi_wp2_with fail
  refine ⟨trivial, (callsIn_wide.2 (Size_any ws (by unfold maxLen; omega) b cb _ (hb.below kb1))).mono ?_⟩
  rintro e w' ⟨rfl, rfl⟩
  rw [hE1, hN1]
  gi_wp2_with fail
  refine ⟨trivial, (callsIn_wide.2 (places_any b ws.length cb _)).mono ?_⟩
  rintro e w' ⟨rfl, rfl⟩
  gi_wp2_with fail
  have bS := ((((Boxed.new w 9 (.string s)).alloc (.cells (madeCells #[.int .u64 0] ws.length) 57)).alloc (.cells #[.slice (some ⟨w.heap.size + 1, 0, none⟩) ws.length ws.length] 104)).alloc (.cells #[.int .i64 0] 3)).alloc (.cells #[.slice b ws.length cb] 107)
  have bL := ((Boxed.new ((w.alloc (.cells #[.string s] 9)).alloc (.cells (madeCells #[.int .u64 0] ws.length) 57)) 104 (.slice (some ⟨w.heap.size + 1, 0, none⟩) ws.length ws.length)).alloc (.cells #[.int .i64 0] 3)).alloc (.cells #[.slice b ws.length cb] 107)
  have bN := (Boxed.new (((w.alloc (.cells #[.string s] 9)).alloc (.cells (madeCells #[.int .u64 0] ws.length) 57)).alloc (.cells #[.slice (some ⟨w.heap.size + 1, 0, none⟩) ws.length ws.length] 104)) 3 (.int .i64 0)).alloc (.cells #[.slice b ws.length cb] 107)
  have bW := Boxed.new ((((w.alloc (.cells #[.string s] 9)).alloc (.cells (madeCells #[.int .u64 0] ws.length) 57)).alloc (.cells #[.slice (some ⟨w.heap.size + 1, 0, none⟩) ws.length ws.length] 104)).alloc (.cells #[.int .i64 0] 3)) 107 (.slice b ws.length cb)
  have hrow0 : rowV ((w.alloc (.cells #[.string s] 9)).alloc (.cells (madeCells #[.int .u64 0] ws.length) 57)) (w.heap.size + 1) ws.length (fun j => .int .u64 (Pk.acc s.data.toList [] j : Nat)) := by
    have h := rowV_new (w.alloc (.cells #[.string s] 9)) (madeCells #[.int .u64 0] ws.length) 57 (fun j => .int .u64 (Pk.acc s.data.toList [] j : Nat)) (fun j hj => by
      have hj' : j < ws.length := by simpa [size_madeCells] using hj
      simp [madeCells, hj', Nat.mod_one, Pk.acc])
    rw [World.size_alloc, size_madeCells] at h; exact h
  have kb2 := kb1.alloc (by simp) (.cells (madeCells #[.int .u64 0] ws.length) 57)
  have kb5 := ((kb2.alloc (by simp <;> omega) (.cells #[.slice (some ⟨w.heap.size + 1, 0, none⟩) ws.length ws.length] 104)).alloc (by simp <;> omega) (.cells #[.int .i64 0] 3)).alloc (by simp <;> omega) (.cells #[.slice b ws.length cb] 107)
  have hrow := hrow0.below (((((Below.refl ((w.alloc (.cells #[.string s] 9)).alloc (.cells (madeCells #[.int .u64 0] ws.length) 57)).heap.size _).alloc (Nat.le_refl _) (.cells #[.slice (some ⟨w.heap.size + 1, 0, none⟩) ws.length ws.length] 104)).alloc (by simp <;> omega) (.cells #[.int .i64 0] 3)).alloc (by simp <;> omega) (.cells #[.slice b ws.length cb] 107))) (by simp)
  simp only [World.size_alloc] at bL bN bW
  refine wpIn_rangeFunc_ownG rfl (by decide) (gf := 142) (lb := #[.pointer (some ⟨w.heap.size + 1 + 1 + 1 + 1, 0, none⟩)]) rfl trivial (enters_of Tryz.func142 (by kernel_rfl) rfl)
    (places_stops Fence.wide (3 - 1) trivial rfl (by decide) (w.heap.size + 1 + 1 + 1 + 1) ws hok b cb w _ kb5 hb (by simp) bW.cell) belowK_t (belowK_b (by simp <;> omega)) (Below.refl _ _) (fun _ => rfl)
    (fun pre W => (rowV W (w.heap.size + 1) ws.length (fun j => .int .u64 (Pk.acc s.data.toList (pre.map (·.1)) j : Nat)) ∧ w.heap.size + 1 < W.heap.size) ∧ (Boxed W (w.heap.size + 1 + 1 + 1) 3 (.int .i64 (pre.length : Nat)) ∧ (Boxed W w.heap.size 9 (.string s) ∧ (Boxed W (w.heap.size + 1 + 1) 104 (.slice (some ⟨w.heap.size + 1, 0, none⟩) ws.length ws.length) ∧ Below w.heap.size w W))))
    (fun _ _ _ => False)
    (OwnFrom.and (Own.from (rowV_own _ _ _) _) (OwnFrom.and (Own.from (boxed_own _ _ _) _) (OwnFrom.and (Own.from (boxed_own _ _ _) _) (OwnFrom.and (Own.from (boxed_own _ _ _) _) (ownFrom_below (Nat.le_refl _) (by simp <;> omega))))))
    (fun _ _ _ _ _ hs _ _ => hs)
    ⟨⟨hrow, by simp <;> omega⟩, bN, bS, bL, kb5⟩
    (fun x => { tmps := #[.string s, .slice b ws.length cb, .pointer (some ⟨w.heap.size, 0, none⟩), undef,
          .slice none 0 0, .int .i64 0, .int .i64 (Pk.offs ws ws.length : Nat),
          .int .i64 0, .pointer (some ⟨w.heap.size + 1 + 1, 0, none⟩),
          .pointer (some ⟨w.heap.size + 1 + 1 + 1, 0, none⟩), .int .i64 (x.1.1 : Int), .int .i64 (8 * (x.1.2 : Int)),
          .tuple #[.int .i64 (Pk.offs ws ws.length : Nat), .int .i64 0],
          .slice b ws.length cb,
          .tuple #[.int .i64 (Pk.offs ws ws.length : Nat), .int .i64 0],
          .int .i64 (Pk.offs ws ws.length : Nat), .int .i64 0, .bool false,
          .int .i64 0, .bool false, undef, .bool false, .string s,
          .int .i64 (s.size : Nat), .int .i64 (Pk.offs ws ws.length : Nat), .bool false,
          .slice b ws.length cb, .int .i64 (ws.length : Nat),
          .slice (some ⟨w.heap.size + 1, 0, none⟩) ws.length ws.length, .slice b ws.length cb,
          .func (.func 142) #[] #[.pointer (some ⟨w.heap.size + 1 + 1 + 1 + 1, 0, none⟩)], .int .i64 (x.1.1 : Int), .int .i64 (8 * (x.1.2 : Int)),
          undef, undef, undef, undef, undef, undef, undef, undef, undef, undef, undef, undef, undef, undef,
          undef], defers := [] }) ?assign ?body ?done ?stop
  case assign =>
    intro l x W K hK
    gi_wp2
    exact hK
  case body =>
    rintro _ pre ⟨⟨i, k⟩, hik, hk8⟩ W ⟨⟨hr, hrlt⟩, hvn, hvs, hvl, hB⟩ hlt
    have hcn := hvn.cell
    have hfn := hvn.frozen
    have hcs := hvs.cell
    have hcl := hvl.cell
    have hcr := (hr i hik).1
    have hfr := (hr i hik).2
    have hA := Pk.acc_lt s.data.toList i (pre.map (·.1)) (fun x hx => by obtain ⟨y, _, rfl⟩ := List.mem_map.1 hx; exact y.2.2)
    obtain ⟨A, hA2⟩ : ∃ A, Pk.acc s.data.toList (pre.map (·.1)) i = A := ⟨_, rfl⟩
    simp only [hA2] at hcr
    rw [hA2] at hA
    have HA : Hid (Pk.acc s.data.toList (pre.map (·.1)) i = A) := hA2
    obtain ⟨t, ht2⟩ : ∃ t, pre.length = t := ⟨_, rfl⟩
    rw [ht2] at hcn hlt
    have Ht : Hid (pre.length = t) := ht2
    have hts : t < s.size := by rw [Hsz.out]; exact hlt
    have hmx : Tryz.prog.follows .mixedOrders = true := by kernel_rfl
    have Hr : Hid (rowV W (w.heap.size + 1) ws.length (fun j => .int .u64 (Pk.acc s.data.toList (pre.map (·.1)) j : Nat))) := hr
    have hB0 := hB.size
    clear hA2 ht2 hr
    gi_wp2
    have hS0 : (fun w' : World => w'.cell? ⟨w.heap.size + 1 + 1, 0, none⟩ = some (.slice (some ⟨w.heap.size + 1, 0, none⟩) ws.length ws.length) ∧ w'.cell? ⟨w.heap.size, 0, none⟩ = some (.string s) ∧ w'.cell? ⟨w.heap.size + 1 + 1 + 1, 0, none⟩ = some (.int .i64 (t : Nat))) W.drew := ⟨hcl, hcs, hcn⟩
    have hSe : ∀ V : Value, (fun w' : World => w'.cell? ⟨w.heap.size + 1 + 1, 0, none⟩ = some (.slice (some ⟨w.heap.size + 1, 0, none⟩) ws.length ws.length) ∧ w'.cell? ⟨w.heap.size, 0, none⟩ = some (.string s) ∧ w'.cell? ⟨w.heap.size + 1 + 1 + 1, 0, none⟩ = some (.int .i64 (t : Nat))) (W.setCell ⟨w.heap.size + 1, i, none⟩ V).drew := fun V => ⟨(boxed_setOther hvl _ i V (by omega)).cell, (boxed_setOther hvs _ i V (by omega)).cell, by have h := (boxed_setOther hvn (w.heap.size + 1) i V (by omega)).cell; rw [Ht.out] at h; exact h⟩
    refine region_in_round (fun w' => w'.cell? ⟨w.heap.size + 1 + 1, 0, none⟩ = some (.slice (some ⟨w.heap.size + 1, 0, none⟩) ws.length ws.length) ∧ w'.cell? ⟨w.heap.size, 0, none⟩ = some (.string s) ∧ w'.cell? ⟨w.heap.size + 1 + 1 + 1, 0, none⟩ = some (.int .i64 (t : Nat))) hmx (by kernel_rfl) (fun ⟨_, _, h⟩ => h) ?_
    refine held_quiet 0 (v := ?v0q1) rfl (by kernel_rfl) (fun _ _ _ h => h) (by assumption) rfl ?hy0q1 ?rest0q1
    case hy0q1 => (intro wS hSw; (try dsimp only at hSw); go_simp; try with_reducible rfl)
    try simp only [Act.put, List.setIfInBounds_toArray, List.set_cons_zero, List.set_cons_succ]
    refine held_quiet 1 (v := ?v1q2) rfl (by kernel_rfl) (fun _ _ _ h => h) (by assumption) rfl ?hy1q2 ?rest1q2
    case hy1q2 => (intro wS hSw; (try dsimp only at hSw); go_simp; try with_reducible rfl)
    try simp only [Act.put, List.setIfInBounds_toArray, List.set_cons_zero, List.set_cons_succ]
    refine held_quiet 2 (v := ?v2q3) rfl (by kernel_rfl) (fun _ _ _ h => h) (by assumption) rfl ?hy2q3 ?rest2q3
    case hy2q3 => (intro wS hSw; (try dsimp only at hSw); go_simp; try with_reducible rfl)
    try simp only [Act.put, List.setIfInBounds_toArray, List.set_cons_zero, List.set_cons_succ]
    refine held_quiet 4 (v := ?v4q4) rfl (by kernel_rfl) (fun _ _ _ h => h) (by assumption) rfl ?hy4q4 ?rest4q4
    case hy4q4 => (intro wS hSw; (try dsimp only at hSw); go_simp; try with_reducible rfl)
    try simp only [Act.put, List.setIfInBounds_toArray, List.set_cons_zero, List.set_cons_succ]
    refine held_quiet 5 (v := ?v5q5) rfl (by kernel_rfl) (fun _ _ _ h => h) (by assumption) rfl ?hy5q5 ?rest5q5
    case hy5q5 => (intro wS hSw; (try dsimp only at hSw); go_simp; try with_reducible rfl)
    try simp only [Act.put, List.setIfInBounds_toArray, List.set_cons_zero, List.set_cons_succ]
    refine held_quiet 6 (v := ?v6q6) rfl (by kernel_rfl) (fun _ _ _ h => h) (by assumption) rfl ?hy6q6 ?rest6q6
    case hy6q6 => (intro wS hSw; (try dsimp only at hSw); go_simp; try with_reducible rfl)
    try simp only [Act.put, List.setIfInBounds_toArray, List.set_cons_zero, List.set_cons_succ]
    refine held_quiet 7 (v := ?v7q7) rfl (by kernel_rfl) (fun _ _ _ h => h) (by assumption) rfl ?hy7q7 ?rest7q7
    case hy7q7 => (intro wS hSw; (try dsimp only at hSw); go_simp; try with_reducible rfl)
    try simp only [Act.put, List.setIfInBounds_toArray, List.set_cons_zero, List.set_cons_succ]
    refine held_quiet 8 (v := ?v8q8) rfl (by kernel_rfl) (fun _ _ _ h => h) (by assumption) rfl ?hy8q8 ?rest8q8
    case hy8q8 => (intro wS hSw; (try dsimp only at hSw); go_simp; try with_reducible rfl)
    try simp only [Act.put, List.setIfInBounds_toArray, List.set_cons_zero, List.set_cons_succ]
    refine held_quiet 9 (v := ?v9q9) rfl (by kernel_rfl) (fun _ _ _ h => h) (by assumption) rfl ?hy9q9 ?rest9q9
    case hy9q9 => (intro wS hSw; (try dsimp only at hSw); go_simp; try with_reducible rfl)
    try simp only [Act.put, List.setIfInBounds_toArray, List.set_cons_zero, List.set_cons_succ]
    refine held_one 3 rfl (by kernel_rfl) ?_
    go_wp2
    try refine ⟨hS0, ?_⟩
    refine held_quiet 10 (v := ?v10q10) rfl (by kernel_rfl) (fun _ _ _ h => h) (by assumption) rfl ?hy10q10 ?rest10q10
    case hy10q10 => (intro wS hSw; (try dsimp only at hSw); go_simp; try with_reducible rfl)
    try simp only [Act.put, List.setIfInBounds_toArray, List.set_cons_zero, List.set_cons_succ]
    refine held_quiet 11 (v := ?v11q11) rfl (by kernel_rfl) (fun _ _ _ h => h) (by assumption) rfl ?hy11q11 ?rest11q11
    case hy11q11 => (intro wS hSw; (try dsimp only at hSw); go_simp; try with_reducible rfl)
    try simp only [Act.put, List.setIfInBounds_toArray, List.set_cons_zero, List.set_cons_succ]
    refine held_one 12 rfl (by kernel_rfl) ?_
    go_wp2
    have hor := Pk.or_byte A (s[t]) k hA hk8
    rw [hor]
    refine ⟨hSe _, held_done (by kernel_rfl) ?_⟩
    gi_wp2
    have hsn : pre.length + 1 = (pre ++ [(⟨(i, k), hik, hk8⟩ : Pk.Pl ws.length)]).length := by simp
    obtain ⟨V1, hV1⟩ : ∃ V1, Value.int .u64 ((A ||| s[t].toNat <<< (8 * k) : Nat) : Int) = V1 := ⟨_, rfl⟩
    rw [hV1]
    have v1 := boxed_setOther (boxed_setOther hvs (w.heap.size + 1) i V1 (by omega)) (w.heap.size + 1 + 1 + 1) 0 (.int .i64 ((t : Int) + 1)) (by omega)
    have v2 := boxed_setOther (boxed_setOther hvl (w.heap.size + 1) i V1 (by omega)) (w.heap.size + 1 + 1 + 1) 0 (.int .i64 ((t : Int) + 1)) (by omega)
    have v3 := (boxed_setOther hvn (w.heap.size + 1) i V1 (by omega)).set (.int .i64 ((t : Int) + 1))
    have v4 := (hB.setCell (p := ⟨w.heap.size + 1, i, none⟩) (by simp) V1).setCell (p := ⟨w.heap.size + 1 + 1 + 1, 0, none⟩) (by simp <;> omega) (.int .i64 ((t : Int) + 1))
    have v5 := ((Below.refl w.heap.size W).setCell (p := ⟨w.heap.size + 1, i, none⟩) (by simp) V1).setCell (p := ⟨w.heap.size + 1 + 1 + 1, 0, none⟩) (by simp <;> omega) (.int .i64 ((t : Int) + 1))
    have v6 := (KeepsOthers.setCell W ⟨w.heap.size + 1, i, none⟩ V1).trans (KeepsOthers.setCell _ ⟨w.heap.size + 1 + 1 + 1, 0, none⟩ (.int .i64 ((t : Int) + 1)))
    have v7 := rowV.below (B := w.heap.size + 1 + 1) (Hr.out.set i V1) ((Below.refl _ _).setCell (p := ⟨w.heap.size + 1 + 1 + 1, 0, none⟩) (by simp) (.int .i64 ((t : Int) + 1))) (by omega)
    refine ⟨⟨v6.size, fun k' o _ hk' ho => v6.same k' o hk' ho⟩, v5.drew, ⟨⟨?_, ?_⟩, ?_, v1, v2, v4.drew⟩⟩
    · refine rowV.mono v7 ?_
      intro j hj
      rw [List.map_append]
      show (if j = i then _ else _) = Value.int .u64 (Pk.acc s.data.toList (pre.map (·.1) ++ [(i, k)]) j : Nat)
      rw [Pk.acc_snoc]
      by_cases e : j = i
      · subst e
        rw [if_pos rfl, if_pos rfl, HA.out, List.length_map, Ht.out, ← hV1]
        rw [List.getD_eq_getElem?_getD, List.getElem?_eq_getElem (by simpa using hts)]
        rfl
      · rw [if_neg e, if_neg (fun h => e h.symm)]
    · exact Nat.lt_of_lt_of_le hrlt v6.size
    · rw [← hsn, Ht.out]; exact v3
  case done =>
    rintro D ys W hD hys ⟨⟨hr, hrlt⟩, hvn, hvs, hvl, hB⟩ hK
    have hcl := hvl.cell
    have Hr : Hid (rowV W (w.heap.size + 1) ws.length (fun j => .int .u64 (Pk.acc s.data.toList (ys.map (·.1)) j : Nat))) := hr
    clear hr
    gi_wp2
    refine ⟨by simp, .inl ⟨_, _, rfl, run_takeDeferred hK, ?_⟩⟩
    refine ⟨_, results_tmp2 (fn := Tryz.f91) rfl _ _ _, some ⟨w.heap.size + 1, 0, none⟩, ws.length, ret_two (by rw [E2.out]; rfl) (by rw [E1.out]; rfl), ?_, hB.trans (belowK_b (w := w) (Nat.le_refl _) W D _ _ (by simp at hD; omega) hK rfl rfl)⟩
    rw [E2.out]
    intro j hj
    have hrj := Hr.out j hj
    simp only [hys, Pk.acc_all, if_pos hj] at hrj
    refine ⟨w.heap.size + 1, 0, rfl, ?_⟩
    rw [Nat.zero_add]
    show _ = some (Value.int .u64 ((Pk.dec s.data.toList ws).getD j 0 : Nat))
    rw [E3.out j hj]
    exact cell_kept hrj.1 (grownBy_putObj' _ D (.deferred none)) (fun r e => by cases e; exact ⟨_, hK, rfl⟩)
  case stop =>
    rintro D c pre W _ _ h _
    exact h.elim

theorem Decode_any (s : ByteArray) (ws : List Int) (hs : s.size ≤ maxLen) (hlen : ws.length ≤ maxLen) (b : Option Addr) (cb : Nat) (w : World)
    (hb : RowI .i64 w b ws.length (fun j => ws.getD j 0)) :
    Calls Tryz.prog 91 #[.string s, .slice b ws.length cb] w (DecAns s.data.toList ws w) := by
  cases hok : Pk.okW ws with
  | false => exact Decode_size s ws hok hlen b cb w hb
  | true =>
    by_cases hc : s.size = Pk.offs ws ws.length
    · exact Decode_yes s ws hok hc b cb w hb
    · exact Decode_short s ws hok hc hs b cb w hb
end Go.Proofs.YtjmeiifogblmoaaGreatDoor
