/- The walks of the document's own Slots, Mark, first and Format of a journal. -/
import Derived.Test.YtjmeiifogblmoaaGreatDoorDrvStep
import Derived.Test.YtjmeiifogblmoaaGreatDoorMRiA
import Derived.Test.YtjmeiifogblmoaaGreatDoorMRefC
import Derived.Test.YtjmeiifogblmoaaGreatDoorMRefH
namespace Go.Proofs.YtjmeiifogblmoaaGreatDoor
open Go.RowKit

section
variable {w : World} {rd : Nat} {D : Dr} {G : Nat → Prop}
/-- how many sectors it has -/
theorem RefAt.sectors (h : RefAt w rd D G) : ∃ a cap, w.cell? ⟨rd, 0, none⟩ = some (.slice a D.safe.length cap) := by
  obtain ⟨vS, vW, vP, hd, hin, _⟩ := h
  have hs := hin.at_.safes
  rw [List.length_map] at hs
  obtain ⟨a, cap, rfl, _⟩ := own_head hs
  exact ⟨a, cap, hin.at_.cell.1⟩
end
theorem tdiv41 (n : Nat) : ((n : Int)).tdiv 41 = ((n / 41 : Nat) : Int) := (Int.ofNat_tdiv n 41).symm
set_option maxRecDepth 100000 in
set_option maxHeartbeats 400000 in
theorem rSlots_any (n : Nat) (hn : n ≤ 1000000) (w : World) : Calls Tryz.prog 15 #[.int .i64 (n : Nat)] w fun e w' => e = .returned (.int .i64 (Ri.slots n : Nat)) ∧ w' = w := by
  by_cases h : n < 4
  · have hs : Ri.slots n = 0 := by unfold Ri.slots; omega
    have h1 : (n : Int) < 4 := by omega
    rw [hs]
    clear hs h
    go_enter Tryz.func15, Tryz.ntmps15
    go_wp2
    go_ret
    exact ⟨rfl, rfl⟩
  · have h1 : ¬ (n : Int) < 4 := by omega
    obtain ⟨m, hm⟩ : ∃ m : Nat, (n : Int) - 4 = (m : Int) := ⟨n - 4, by omega⟩
    have hs : ((Ri.slots n : Nat) : Int) = ((m / 41 : Nat) : Int) := by unfold Ri.slots; omega
    have hd := tdiv41 m
    obtain ⟨q, hq⟩ : ∃ q, q = m / 41 := ⟨_, rfl⟩
    rw [← hq] at hs hd
    have hq1 : q ≤ 1000000 := by omega
    rw [hs]
    clear hs h hq
    go_enter Tryz.func15, Tryz.ntmps15
    go_wp2
    go_ret
    exact ⟨rfl, rfl⟩

theorem renc13 (m : Nat) (hm : m < 18446744073709551616) (a b : Option Addr) (ca cb : Nat) (w : World) (ha : RowI .u64 w a 1 (fun j => (([m].getD j 0 : Nat) : Int))) (hb : RowI .i64 w b 1 (fun j => [8].getD j 0)) :
    Calls Tryz.prog 85 #[.slice a 1 ca, .slice b 1 cb] w fun e w' => e = .returned (.tuple #[.string (Pk.encS [m] [8]), .int .i64 0]) ∧ Below w.heap.size w w' := by
  have h := refEncode_any [m] [8] (by show 1 ≤ maxLen; decide) (by show 1 ≤ maxLen; decide) (by intro j; match j with | 0 => exact hm | j + 1 => exact Nat.lt_of_le_of_lt (Nat.zero_le m) hm) a b ca cb w ha hb
  rw [Pg.enc8_E hm] at h
  exact h
theorem rows13 (w : World) (m : Nat) (t u : TypeId) : RowI .u64 ((w.alloc (.cells #[.int .u64 (m : Int)] t)).alloc (.cells #[.int .i64 8] u)) (some ⟨w.heap.size, 0, none⟩) 1 (fun j => (([m].getD j 0 : Nat) : Int)) ∧
    RowI .i64 ((w.alloc (.cells #[.int .u64 (m : Int)] t)).alloc (.cells #[.int .i64 8] u)) (some ⟨w.heap.size + 1, 0, none⟩) 1 (fun j => [8].getD j 0) := by
  have h1 := (RowI.newN .u64 w [m] #[.int .u64 (m : Int)] t rfl).below ((Below.refl _ _).alloc (Nat.le_refl _) (.cells #[.int .i64 8] u))
  have h2 := RowI.new .i64 (w.alloc (.cells #[.int .u64 (m : Int)] t)) [8] #[.int .i64 8] u rfl
  rw [World.size_alloc] at h2
  exact ⟨h1, h2⟩
set_option maxRecDepth 100000 in
set_option maxHeartbeats 1000000 in
theorem rMark_any (m : Nat) (hm : m < 18446744073709551616) (w : World) : Calls Tryz.prog 47 #[.int .u64 (m : Int)] w fun e w' => e = .returned (.string (Ri.markB m)) ∧ Below w.heap.size w w' := by
  have hE := fun (a b : Option Addr) (ca cb : Nat) (W : World) => renc13 m hm a b ca cb W
  have hz := Ri.mark_size hm
  obtain ⟨q, hq⟩ : ∃ q, q = Pk.encS [m] [8] := ⟨_, rfl⟩
  have hq8 : q.size ≤ 8 := by rw [hq, Pg.enc8_size hm]; decide
  rw [← hq] at hE hz
  have HS : Hid (Ri.markB m = Crc.sealB (Ri.magicB ++ q) 64) := by show _ = _; unfold Ri.markB; rw [hq]
  have HZ : Hid ((Ri.magicB ++ q).size ≤ 60) := by show _ ≤ _; rw [hz]; decide
  have HE : Hid _ := hE
  clear hE hz hq hm
  go_enter Tryz.func47, Tryz.ntmps47
  go_wp2_with fail
  refine (HE.out _ _ _ _ _ (rows13 w m _ _).1 (rows13 w m _ _).2).mono ?_
  rintro e w1 ⟨rfl, hb1⟩
  have HB1 : Hid (Below w.heap.size w w1) := (((Below.refl _ _).alloc (Nat.le_refl _) _).alloc (by simp) _).trans (hb1.mono (by simp; omega))
  clear hb1
  go_wp2_with fail
  refine (refSeal_yes _ 64 (by decide) (by decide) HZ.out _).mono ?_
  rw [← HS.out]
  rintro e w2 ⟨rfl, hb2⟩
  have HB2 : Hid (Below w.heap.size w w2) := below2 HB1.out hb2
  clear hb2
  go_wp2
  go_ret
  exact ⟨rfl, HB2.out⟩
section
variable {w : World} {rd : Nat} {D : Dr} {G : Nat → Prop}
set_option maxRecDepth 100000 in
set_option maxHeartbeats 1000000 in
theorem rfirst_any (h : RefAt w rd D G) (hs : 0 < Ri.slots D.safe.length) (m : Nat) (_hm : m < 18446744073709551616) : Calls Tryz.prog 68 #[.pointer (some ⟨rd, 0, none⟩), .int .u64 (m : Int)] w fun e w' => e = .returned (.int .i64 (Ri.first D.safe.length m : Nat)) ∧ w' = w := by
  obtain ⟨a, cap, c0⟩ := h.sectors
  have hle := h.ok.le
  obtain ⟨n, hn⟩ : ∃ n, n = D.safe.length := ⟨_, rfl⟩
  rw [← hn] at c0 hs hle ⊢
  have hS := fun W => rSlots_any n (by omega) W
  obtain ⟨q, hq⟩ : ∃ q, q = Ri.slots n := ⟨_, rfl⟩
  have hq1 : q ≤ 4096 := by rw [hq]; unfold Ri.slots; omega
  rw [← hq] at hS hs
  have hmod : ((m : Int)).tmod (q : Int) = ((m % q : Nat) : Int) := (Int.ofNat_tmod m q).symm
  obtain ⟨r, hr⟩ : ∃ r, r = m % q := ⟨_, rfl⟩
  have hrl : r < 4096 := by have := Nat.mod_lt m hs; omega
  rw [← hr] at hmod
  have HF : Hid (((Ri.first n m : Nat) : Int) = 4 + 41 * (r : Int)) := by show _ = _; unfold Ri.first; rw [← hq, ← hr]; omega
  have hq0 : ¬ (q : Int) = 0 := by omega
  have hqb : ((q : Int) == 0) = false := by rw [beq_eq_false_iff_ne]; omega
  have hw1 : IntKind.u64.wrap (q : Int) = (q : Int) := by rw [IntKind.wrap_u64]; omega
  have hw2 : IntKind.u64.wrap (r : Int) = (r : Int) := by rw [IntKind.wrap_u64]; omega
  have hw3 : IntKind.i64.wrap (r : Int) = (r : Int) := by rw [IntKind.wrap_i64]; omega
  clear h hn hq hr hs
  go_enter Tryz.func68, Tryz.ntmps68
  go_wp2_with fail
  refine (hS _).mono ?_
  rintro e w1 ⟨rfl, rfl⟩
  clear hS
  go_wp2
  go_ret
  exact ⟨by rw [HF.out]; rfl, rfl⟩
end
end Go.Proofs.YtjmeiifogblmoaaGreatDoor
