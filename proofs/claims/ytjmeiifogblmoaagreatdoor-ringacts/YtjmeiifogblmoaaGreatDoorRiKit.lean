/- The walks of what the statements on journals call: a text filled up, the bound, parts of some texts, the document's own parts. -/
import Derived.Test.YtjmeiifogblmoaaGreatDoorMRecC
import Derived.Test.YtjmeiifogblmoaaGreatDoorMRecB
import Derived.Test.YtjmeiifogblmoaaGreatDoorMRiA
import Derived.Test.YtjmeiifogblmoaaGreatDoorMRefG
import Derived.OwnWalk
namespace Go.Proofs.YtjmeiifogblmoaaGreatDoor
open Go.RowKit

namespace Ri
/-- within the statements' bound -/
def Light13 (n : Nat) (f : Nat → ByteArray) : Prop := n ≤ 20 ∧ ∀ j, j < n → (f j).size ≤ 100
/-- parts of some texts -/
def someN (n : Nat) : Nat := min n 8
def someP (l : Nat → ByteArray) (j : Nat) : Prt := ⟨(j : Nat), (j % 4 : Nat), Rc.fillB (l j)⟩
theorem someP_may {row : Nat} {n : Nat} (hr : row < 256) (n1 : 1 ≤ n) (l : Nat → ByteArray) : Rc.mayB (row : Int) (someN n) (someP l) = true := by
  have h8 : someN n ≤ 8 := Nat.min_le_right _ _
  have h1 : 1 ≤ someN n := by unfold someN; omega
  rw [Rc.may_iff]
  refine ⟨(Rc.fullTo_iff _ _).2 fun i _ => Rc.fillB_size _, (Rc.places_iff _ _ _).2 ⟨(Rc.few_iff _ _).2 ⟨by omega, by omega, h1, by omega⟩, (Rc.okTo_iff _ _).2 fun i hi => ⟨(Rc.in_iff _).2 ?_, (Rc.freshTo_iff _ _ _).2 fun j hj => ?_⟩⟩⟩
  · unfold someP
    dsimp only
    omega
  · unfold Rc.sameB someP
    have : decide (((j : Nat) : Int) = ((i : Nat) : Int)) = false := by rw [decide_eq_false_iff_not]; omega
    dsimp only
    rw [this]; rfl
theorem someP_in {row : Int} (hr : -9223372036854775808 ≤ row ∧ row ≤ 9223372036854775807) (n : Nat) (l : Nat → ByteArray) : RecIn row (someN n) (someP l) := by
  have h8 : someN n ≤ 8 := Nat.min_le_right _ _
  exact ⟨hr, by omega, fun j hj => by unfold someP; dsimp only; omega, fun j hj => by unfold someP; dsimp only; omega⟩
end Ri
set_option maxRecDepth 100000 in
set_option maxHeartbeats 400000 in
theorem full13_any (s : ByteArray) (hs : s.size ≤ 100) (w : World) : Calls Tryz.prog 21 #[.string s] w fun e w' => e = .returned (.string (Rc.fillB s)) ∧ w' = w := by
  have hbl := blank12_any w
  have hb := Rc.zeros_size 64
  have E : Hid ((s ++ Rc.zeros 64).extract 0 64 = Rc.fillB s) := rfl
  obtain ⟨b, eb⟩ : ∃ b, b = Rc.zeros 64 := ⟨_, rfl⟩
  rw [← eb] at hb hbl E
  have h64 : (s ++ b).size = s.size + 64 := by rw [ByteArray.size_append, hb]
  have hm : (s ++ b).size ≤ maxLen := by rw [h64]; unfold maxLen; omega
  clear eb
  go_enter Tryz.func21, Tryz.ntmps21
  go_wp2_with fail
  refine hbl.mono ?_
  rintro e w' ⟨rfl, rfl⟩
  go_wp2
  go_ret
  exact ⟨by rw [E.out]; rfl, rfl⟩

set_option maxRecDepth 100000 in
set_option maxHeartbeats 1000000 in
theorem heavy13_none (w : World) (a : Option Addr) (cap : Nat) : Calls Tryz.prog 36 #[.slice a 0 cap] w fun e w' => w' = w ∧ e = .returned (.bool false) := by
  go_enter Tryz.func36, Tryz.ntmps36
  go_wp2
  go_loopg [3] 0 (fun gg i wr => gg = 0 ∧ i = .int .i64 0 ∧ wr = w)
  case atStart => exact ⟨rfl, rfl, rfl⟩
  case round =>
    obtain ⟨rfl, rfl, rfl⟩ := hrel
    go_wp2
    go_ret
    exact ⟨rfl, rfl⟩
set_option maxRecDepth 100000 in
set_option maxHeartbeats 1000000 in
theorem heavy13_some (w : World) (b off n cap : Nat) (f : Nat → ByteArray) (hr : RowS w (some ⟨b, off, none⟩) n f) (hm : ∀ j, j < n → (f j).size ≤ maxLen) (hn : n ≤ maxLen) :
    Calls Tryz.prog 36 #[.slice (some ⟨b, off, none⟩) n cap] w fun e w' => w' = w ∧ (e = .returned (.bool true) ∧ ¬ Ri.Light13 n f ∨ e = .returned (.bool false) ∧ Ri.Light13 n f) := by
  unfold maxLen at hn hm
  by_cases h40 : (20 : Int) < (n : Int)
  · have HN : Hid (¬ Ri.Light13 n f) := fun x => by have := x.1; omega
    go_enter Tryz.func36, Tryz.ntmps36
    go_wp2
    go_ret
    exact ⟨rfl, .inl ⟨rfl, HN.out⟩⟩
  · have hn2 : n ≤ 20 := by omega
    have HR : Hid (RowS w (some ⟨b, off, none⟩) n f) := hr
    clear hr
    go_enter Tryz.func36, Tryz.ntmps36
    go_wp2
    go_loopg [3] n (fun gg i wr => ∃ k : Nat, k ≤ n ∧ gg = n - k ∧ i = .int .i64 k ∧ wr = w ∧ ∀ j, j < k → (f j).size ≤ 100)
    case atStart => exact ⟨0, Nat.zero_le _, rfl, rfl, rfl, fun j hj => absurd hj (Nat.not_lt_zero _)⟩
    case round =>
      obtain ⟨k, hk, rfl, rfl, rfl, hl⟩ := hrel
      have HL : Hid (∀ j, j < k → (f j).size ≤ 100) := hl
      clear hl
      by_cases hlt : k < n
      · have hc := HR.out.at hlt
        have hs := hm k hlt
        obtain ⟨x, hx⟩ : ∃ x, f k = x := ⟨_, rfl⟩
        rw [hx] at hc hs
        have HX : Hid (f k = x) := hx
        clear hx
        by_cases h1 : (100 : Int) < (x.size : Int)
        · have HN : Hid (¬ Ri.Light13 n f) := fun y => by have := y.2 k hlt; rw [HX.out] at this; omega
          go_wp2
          go_ret
          exact ⟨rfl, .inl ⟨rfl, HN.out⟩⟩
        · go_wp2
          go_roundg (n - (k + 1))
          case measure => omega
          case rel => exact ⟨k + 1, by omega, rfl, by go_num, rfl, fun j hj => by
            by_cases e : j = k
            · subst e; rw [HX.out]; omega
            · exact HL.out j (by omega)⟩
      · have hkn : k = n := by omega
        subst hkn
        go_wp2
        go_ret
        exact ⟨rfl, .inr ⟨rfl, hn2, HL.out⟩⟩
theorem heavy13_any (w : World) (a : Option Addr) (n cap : Nat) (f : Nat → ByteArray) (hr : RowS w a n f) (hm : ∀ j, j < n → (f j).size ≤ maxLen) (hn : n ≤ maxLen) :
    Calls Tryz.prog 36 #[.slice a n cap] w fun e w' => w' = w ∧ (e = .returned (.bool true) ∧ ¬ Ri.Light13 n f ∨ e = .returned (.bool false) ∧ Ri.Light13 n f) := by
  rcases hr.place with rfl | ⟨b, o, rfl⟩
  · refine (heavy13_none w a cap).mono ?_
    rintro e w' ⟨rfl, rfl⟩
    exact ⟨rfl, .inr ⟨rfl, by omega, fun j hj => absurd hj (Nat.not_lt_zero _)⟩⟩
  · exact heavy13_some w b o n cap f hr hm hn


set_option maxRecDepth 100000 in
set_option maxHeartbeats 2000000 in
theorem theirs13_any (a : Option Addr) (n cap : Nat) (f : Nat → Prt) (w : World) (hn : n ≤ 1000) (hp : PartsR w a n f) :
    Calls Tryz.prog 30 #[.slice a n cap] w fun e w' => ∃ a' c', e = .returned (.slice a' n c') ∧ PartsR w' a' n f ∧ Below w.heap.size w w' := by
  have HP : Hid (PartsR w a n f) := hp
  obtain ⟨i0, hi, hz0, hz1, hz2⟩ := info_parts info_part12
  clear hp
  go_enter Tryz.func30, Tryz.ntmps30
  go_wp2
  go_loopg [3, 4] n (fun gg v i wr => ∃ (k : Nat) (u : Value), k ≤ n ∧ gg = n - k ∧ u = v ∧ i = .int .i64 (k : Int) ∧ wr.ownsRow w.heap.size 119 3 u k (prtVals k f) ∧ Below w.heap.size w wr)
  case atStart =>
    refine ⟨0, _, Nat.zero_le _, rfl, rfl, rfl, ?_, (Below.refl _ w).alloc (Nat.le_refl _) _⟩
    exact World.ownsRow_lit (base := w.heap.size) (e := 119) (size := 3) w #[] 0 (Nat.le_refl _) (by decide) rfl
  case round =>
  obtain ⟨k, u, hk, rfl, rfl, rfl, hown, hb⟩ := hrel
  have HB : Hid (Below w.heap.size w wr) := hb
  have OWN : Hid (wr.ownsRow w.heap.size 119 3 u k (prtVals k f)) := hown
  have hsz := hb.size
  clear hown
  by_cases hlt : k < n
  case neg =>
    have hkn : k = n := by omega
    subst hkn
    obtain ⟨a', c', rfl, hpr, _, _⟩ := PartsR.of_owns OWN.out
    have HPr : Hid (PartsR wr a' k f) := hpr
    clear hlt hk hb hpr
    go_wp2
    go_ret
    exact ⟨_, _, rfl, HPr.out, HB.out⟩
  case pos =>
  have hki : (k : Int) < (n : Int) := by omega
  obtain ⟨b, o, rfl, hpw⟩ := HP.out k hlt
  have hpk := hpw.below hb hpw.lt
  have c0 := hpk.c0
  have c1 := hpk.c1
  have c2 := hpk.c2
  obtain ⟨x, hx⟩ : ∃ x, x = f k := ⟨_, rfl⟩
  rw [← hx] at c0 c1 c2
  have HX : Hid (x = f k) := hx
  obtain ⟨xc, xo, xd⟩ := x
  dsimp only at c0 c1 c2
  have t1 : True := trivial
  clear hpk hpw hx hb
  go_wp2_with (first | (at_builtin; go_loud (have _t := t1; refine wpList_append_own _ rfl _ _ 61 rfl w.heap.size 119 i0 (.agg #[.int .i64 0, .int .i64 0, .string ByteArray.empty]) 3 32 Tryz.underlying61 hi hz0 hz1 hz2 rfl (by decide) u k (prtVals k f) rfl (OWN.out.alloc _) ⟨_, 0, none⟩ 1 1 [.int .i64 xc, .int .i64 xo, .string xd] rfl rfl (news3 _ _ _ _ _) (by simp [Value.oneCell']) (by unfold maxLen; omega) (by omega) (by simp; omega) ?_; intro v' w3 hown' hgrow _; obtain ⟨g', cap', rfl⟩ := ownsRow_succ hown'; have hb3 := below_append OWN.out hsz hgrow; have OWN3 : Hid (w3.ownsRow w.heap.size 119 3 (.slice (some ⟨g', 0, none⟩) (k + 1) cap') (k + 1) (prtVals (k + 1) f)) := (by show World.ownsRow _ _ _ _ _ _ _; rw [prtVals, ← HX.out]; exact hown'); have HB3 : Hid (Below w.heap.size w w3) := HB.out.trans hb3; clear hown' hgrow hb3 t1)))
  go_roundg (n - (k + 1))
  case measure => omega
  case rel => exact ⟨k + 1, _, by omega, rfl, rfl, by go_num, OWN3.out, HB3.out⟩

theorem info_part13 : (Tryz.prog.info? 83).map (fun i => (i.zero, i.size, i.bytes)) = some (some (.agg #[.int .i64 0, .int .i64 0, .string ByteArray.empty]), 3, 32) := by kernel_rfl
set_option maxRecDepth 100000 in
set_option maxHeartbeats 2000000 in
theorem some13_any (a : Option Addr) (n cap : Nat) (l : Nat → ByteArray) (w : World) (hl : Ri.Light13 n l) (hp : RowS w a n l) :
    Calls Tryz.prog 27 #[.slice a n cap] w fun e w' => ∃ a' c', e = .returned (.slice a' (Ri.someN n) c') ∧ PartsR w' a' (Ri.someN n) (Ri.someP l) ∧ (∀ x, a' = some x → w.heap.size ≤ x.block) ∧ Below w.heap.size w w' := by
  have HP : Hid (RowS w a n l) := hp
  have HL : Hid (∀ j, j < n → (l j).size ≤ 100) := hl.2
  have hn := hl.1
  obtain ⟨i0, hi, hz0, hz1, hz2⟩ := info_parts info_part13
  clear hp hl
  go_enter Tryz.func27, Tryz.ntmps27
  go_wp2
  go_loopg [3, 4] (Ri.someN n) (fun gg v i wr => ∃ (k : Nat) (u : Value), k ≤ Ri.someN n ∧ gg = Ri.someN n - k ∧ u = v ∧ i = .int .i64 (k : Int) ∧ wr.ownsRow w.heap.size 83 3 u k (prtVals k (Ri.someP l)) ∧ Below w.heap.size w wr)
  case atStart =>
    refine ⟨0, _, Nat.zero_le _, rfl, rfl, rfl, ?_, (Below.refl _ w).alloc (Nat.le_refl _) _⟩
    exact World.ownsRow_lit (base := w.heap.size) (e := 83) (size := 3) w #[] 0 (Nat.le_refl _) (by decide) rfl
  case round =>
  obtain ⟨k, u, hk, rfl, rfl, rfl, hown, hb⟩ := hrel
  have HB : Hid (Below w.heap.size w wr) := hb
  have OWN : Hid (wr.ownsRow w.heap.size 83 3 u k (prtVals k (Ri.someP l))) := hown
  have hsz := hb.size
  have hmn : Ri.someN n ≤ n ∧ Ri.someN n ≤ 8 := ⟨Nat.min_le_left _ _, Nat.min_le_right _ _⟩
  clear hown
  by_cases hlt : k < Ri.someN n
  case neg =>
    have hkn : k = Ri.someN n := by omega
    have hor : n ≤ k ∨ 8 ≤ k := by unfold Ri.someN at hkn; omega
    rw [hkn] at OWN
    obtain ⟨a', c', rfl, hpr, _, hnw⟩ := PartsR.of_owns OWN.out
    have HNw : Hid (∀ x, a' = some x → w.heap.size ≤ x.block) := hnw
    have HPr : Hid (PartsR wr a' (Ri.someN n) (Ri.someP l)) := hpr
    clear hlt hk hb hpr hkn hmn hnw
    by_cases h1 : n ≤ k
    · have h2 : ¬ (k : Int) < (n : Int) := by omega
      clear hor h1
      go_wp2
      go_ret
      exact ⟨_, ⟨_, rfl⟩, HPr.out, HNw.out, HB.out⟩
    · have h2 : (k : Int) < (n : Int) := by omega
      have h3 : ¬ (k : Int) < 8 := by omega
      clear hor h1
      go_wp2
      go_ret
      exact ⟨_, ⟨_, rfl⟩, HPr.out, HNw.out, HB.out⟩
  case pos =>
  have hki : (k : Int) < (n : Int) := by omega
  have hk8 : (k : Int) < 8 := by omega
  have hkn : k < n := by omega
  obtain ⟨b, o, rfl, cw⟩ := HP.out k hkn
  have c0 := (hb.cell (p := ⟨b, o + k, none⟩) (World.block_lt_of_cell? w _ cw)).trans cw
  have hsl := HL.out k hkn
  have hfu := fun W => full13_any (l k) hsl W
  have hmod : ((k : Int)).tmod 4 = ((k % 4 : Nat) : Int) := (Int.ofNat_tmod k 4).symm
  obtain ⟨m4, hm4⟩ : ∃ m4, m4 = k % 4 := ⟨_, rfl⟩
  rw [← hm4] at hmod
  have hm44 : m4 < 4 := by omega
  obtain ⟨s, hs⟩ : ∃ s, s = l k := ⟨_, rfl⟩
  obtain ⟨z, hz⟩ : ∃ z, z = Rc.fillB (l k) := ⟨_, rfl⟩
  have HX : Hid (Ri.someP l k = ⟨(k : Int), (m4 : Nat), z⟩) := by show _ = _; unfold Ri.someP; rw [hm4, hz]
  rw [← hz] at hfu
  rw [← hs] at c0 hfu
  have HFu : Hid _ := hfu
  clear hb cw hs hz hm4 hsl hfu
  go_wp2_with fail
  refine (HFu.out _).mono ?_
  rintro e w2 ⟨rfl, rfl⟩
  have t1 : True := trivial
  go_wp2_with (first | (at_builtin; go_loud (have _t := t1; refine wpList_append_own _ rfl _ _ 43 rfl w.heap.size 83 i0 (.agg #[.int .i64 0, .int .i64 0, .string ByteArray.empty]) 3 32 Tryz.underlying43 hi hz0 hz1 hz2 rfl (by decide) u k (prtVals k (Ri.someP l)) rfl (OWN.out.alloc _) ⟨_, 0, none⟩ 1 1 [.int .i64 (k : Int), .int .i64 (m4 : Int), .string z] rfl rfl (news3 _ _ _ _ _) (by simp [Value.oneCell']) (by unfold maxLen; omega) (by omega) (by simp; omega) ?_; intro v' w3 hown' hgrow _; obtain ⟨g', cap', rfl⟩ := ownsRow_succ hown'; have hb3 := below_append OWN.out hsz hgrow; have OWN3 : Hid (w3.ownsRow w.heap.size 83 3 (.slice (some ⟨g', 0, none⟩) (k + 1) cap') (k + 1) (prtVals (k + 1) (Ri.someP l))) := (by show World.ownsRow _ _ _ _ _ _ _; rw [prtVals, HX.out]; exact hown'); have HB3 : Hid (Below w.heap.size w w3) := HB.out.trans hb3; clear hown' hgrow hb3 t1)))
  go_roundg (Ri.someN n - (k + 1))
  case measure => omega
  case rel => exact ⟨k + 1, _, by omega, rfl, rfl, by go_num, OWN3.out, HB3.out⟩
end Go.Proofs.YtjmeiifogblmoaaGreatDoor
