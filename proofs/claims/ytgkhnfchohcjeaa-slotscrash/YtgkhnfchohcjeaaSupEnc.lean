/- The walk of super's Encode. -/
import Derived.Test.YtgkhnfchohcjeaaSupTold
import Derived.Test.YtgkhnfchohcjeaaMSupA
import Derived.Test.YtgkhnfchohcjeaaPackEnc
import Derived.Test.YtgkhnfchohcjeaaCrcSeal
namespace Go.Proofs.Ytgkhnfchohcjeaa
open Go.RowKit

/-- a superblock's numbers are in their types' bounds -/
structure Su.In (s : Su) : Prop where
  uu : s.uu < 18446744073709551616
  ev : s.ev < 18446744073709551616
  c : s.c ≤ 9223372036854775807
  nw : s.nw ≤ 9223372036854775807

set_option maxRecDepth 100000 in
set_option maxHeartbeats 4000000 in
theorem Encode8_any (s : Su) (hI : s.In) (w : World) :
    Calls Try.prog 14 #[supV s] w fun e w' => e = .returned (.tuple #[.string (Sup.encT s), .int .i64 (Sup.encE s)]) ∧ Below w.heap.size w w' := by
  have hM := fun W => May_any s hI.nw hI.c W
  have HN : Hid _ := SupAt.new w s 30
  by_cases hm : Sup.may s
  case neg =>
    have hb : Sup.mayB s = false := by simp [Sup.mayB, hm]
    have E : Hid (Sup.encT s = ⟨#[]⟩ ∧ Sup.encE s = 1) := by show _ ∧ _; simp [Sup.encT, Sup.encE, hb]
    rw [hb] at hM
    obtain ⟨uu, ev, role, c, k, r, cl, b, nw, g⟩ := s
    unfold supV at *
    dsimp only at hM HN ⊢
    clear hm hb hI
    go_enter Try.func14, Try.ntmps14
    go_wp2_with fail
    refine (hM _).mono ?_
    rintro e w1 ⟨rfl, hb1⟩
    have HB : Hid (Below w.heap.size w w1) := ((Below.refl w.heap.size w).alloc (Nat.le_refl _) _).trans (hb1.mono (by rw [World.size_alloc]; omega))
    clear hb1
    go_wp2
    go_ret2
    exact ⟨by rw [E.out.1, E.out.2]; rfl, HB.out⟩
  case pos =>
    have hb : Sup.mayB s = true := by simp [Sup.mayB, hm]
    have hF := Sup.Fit.of_may hm hI.uu hI.ev
    have E : Hid (Sup.encT s = Sup.secT s ∧ Sup.encE s = 0) := by show _ ∧ _; simp [Sup.encT, Sup.encE, hb]
    rw [hb] at hM
    have hT := fun W => told_any Sup.magic s hF W
    have hP := fun (a b : Option Addr) (ca cb : Nat) (W : World) (ha : RowI .u64 W a 11 (fun j => ((Sup.nums Sup.magic s).getD j 0 : Nat))) (hb : RowI .i64 W b 11 (fun j => Sup.wL.getD j 0)) => Encode_any (Sup.nums Sup.magic s) Sup.wL (by rw [Sup.nums_length]; decide) (by decide) hF.lt a b ca cb W ha hb
    rw [Sup.encE_fit hF] at hP
    obtain ⟨q, hq⟩ : ∃ q, Pk.encS (Sup.nums Sup.magic s) Sup.wL = q := ⟨_, rfl⟩
    have hqs : q.size = 31 := by rw [← hq]; exact Sup.encS_size hF
    rw [hq] at hP
    have ES : Hid (Sup.encT s = Crc.sealB q 64 ∧ Sup.encE s = 0) := by show _ ∧ _; rw [← hq]; exact E.out
    have hS := fun W => Seal_yes q 64 (by decide) (by decide) (by omega) W
    obtain ⟨N, hN⟩ : ∃ N, Sup.nums Sup.magic s = N := ⟨_, rfl⟩
    have HP : Hid _ := hP
    rw [hN] at hT HP
    rw [show (Sup.nums Sup.magic s).length = 11 from rfl, show Sup.wL.length = 11 from rfl] at hP
    rw [hN] at hP
    have HP : Hid _ := hP
    clear hP
    obtain ⟨uu, ev, role, c, k, r, cl, b, nw, g⟩ := s
    unfold supV at *
    unfold blkV at hT
    dsimp only at hM HN hT ⊢
    rw [show ((Sup.magic : Nat) : Int) = 827610706 from rfl] at hT
    clear hm hb hI hF E hN hq
    go_enter Try.func14, Try.ntmps14
    go_wp2_with fail
    refine (hM _).mono ?_
    rintro e w1 ⟨rfl, hb1⟩
    have HB : Hid (Below w.heap.size w w1) := ((Below.refl w.heap.size w).alloc (Nat.le_refl _) _).trans (hb1.mono (by rw [World.size_alloc]; omega))
    obtain ⟨m0, m1, m2, m3, m4, m5, m6, m7, m8, m9⟩ := SupAt.below (show SupAt _ w.heap.size 0 ⟨uu, ev, role, c, k, r, cl, b, nw, g⟩ from HN.out) hb1 (by rw [World.size_alloc]; omega)
    simp only [Nat.zero_add] at m1 m2 m3 m4 m5 m6 m7 m8 m9
    clear hb1 HN
    go_wp2_with fail
    refine (hT _).mono ?_
    rintro e w2 ⟨a, ca, b2, cb, rfl, ra, rb, hb2⟩
    have HB2 : Hid (Below w1.heap.size w1 w2) := hb2
    have hE := HP.out a b2 ca cb w2 ra rb
    clear ra rb hb2 hT
    go_wp2_with fail
    refine hE.mono ?_
    rintro e w3 ⟨rfl, hb3⟩
    have HB3 : Hid (Below w2.heap.size w2 w3) := hb3
    clear hb3
    go_wp2_with fail
    refine (hS _).mono ?_
    rintro e w4 ⟨rfl, hb4⟩
    go_wp2
    go_ret2
    exact ⟨by rw [ES.out.1, ES.out.2]; rfl, below4 HB.out HB2.out HB3.out hb4⟩
end Go.Proofs.Ytgkhnfchohcjeaa
