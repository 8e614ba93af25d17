/- For every number of sectors and list of calls, the law RingActs returns true: whatever is appended, trimmed, opened and lost, wherever it crashes, the ring answers, and finds, what the document's own one does. Conditions: the library's tables that strings.Trim's code names, which the call never reads at these texts, hold what they are laid with (tied to the program's text by the card). -/
import Derived.Test.YtjmeiifogblmoaaGreatDoorMRiD
import Derived.Test.YtjmeiifogblmoaaGreatDoorRiActs
import Derived.Test.YtjmeiifogblmoaaGreatDoorMRgC
import Derived.Test.YtjmeiifogblmoaaGreatDoorMRecD
import Derived.Test.YtjmeiifogblmoaaGreatDoorCards
import Derived.Test.YtjmeiifogblmoaaGreatDoorTie
import Derived.ProofKit
import Derived.OpenShut
import Derived.ShutString
import Derived.Lay
import Derived.LaidOnce
import Derived.Stop.Joined
import Derived.SevenTiedAt
namespace Go.Proofs.YtjmeiifogblmoaaGreatDoor
open Go.RowKit
theorem acts13_says (X : RingSays) (sec : Nat) (hsec : sec < 65536) (a : Option Addr) (cap n : Nat) (hm : n ≤ maxLen) (f : Nat → Act13) (w : World) (hA : 0 < n → ∃ b off, a = some ⟨b, off, none⟩ ∧ ∀ j, j < n → ActAt13 w b (off + j * 5) (f j)) :
    Calls Tryz.prog 3 #[.int .u16 (sec : Int), .slice a n cap] w fun e w' => e = .returned (.bool true) ∧ Below w.heap.size w w' := by
  by_cases h0 : 0 < n
  · obtain ⟨b, off, rfl, hAt⟩ := hA h0
    have hw := wgs13_some w b off n cap f hAt hm
    by_cases hL : Light13L n f
    · exact acts13_main X sec hsec _ cap n hL.1 f w hA hL.2 (hw.mono fun _ _ ⟨h1, h2⟩ => ⟨h1, h2.elim (fun h => absurd hL h.2) (fun h => h.1)⟩)
    · exact acts13_over X sec _ cap n w (hw.mono fun _ _ ⟨h1, h2⟩ => ⟨h1, h2.elim (fun h => h.1) (fun h => absurd h.2 hL)⟩)
  · have e : n = 0 := by omega
    subst e
    exact acts13_main X sec hsec a cap 0 (Nat.zero_le _) f w hA (fun j hj => absurd hj (Nat.not_lt_zero _)) (wgs13_nil w a cap)
end Go.Proofs.YtjmeiifogblmoaaGreatDoor
namespace Go.Proofs.YtjmeiifogblmoaaGreatDoor.ringActs
open Go.ChangeShapes Go.WideShapes Go.ChangeAt Go.RowKit
open Go.ChangeMaps (open_string shut_string)

theorem of_laid {W : World} (_ : laidMetH Tryz.prog Rows.ringActsRow.laid W) : True := trivial
theorem walk (w : World) (a0 : Int) (w0 : (Lit.int .u16 a0).wf = true) (a1 : Option Addr) (len1 cap1 : Nat) (f1 : Nat → Act13) (m1 : len1 ≤ maxLen) (w1 : 0 < len1 → ∃ b off, a1 = some ⟨b, off, none⟩ ∧ ∀ j, j < len1 → ActAt13 w b (off + j * 5) (f1 j)) (_ : True) :
    Calls Tryz.prog 3 #[.int .u16 a0, .slice a1 len1 cap1] w fun e w' => e = .returned (.bool true) ∧ Below w.heap.size w w' := by
  obtain ⟨sec, rfl, hsec⟩ := nat12_u16 w0
  exact acts13_says ring_says sec hsec a1 cap1 len1 m1 f1 w w1

theorem own : ownKnob Tryz.prog.godebug = none := by kernel_rfl
theorem laidOut : laidOutB Tryz.prog = true := by kernel_rfl
theorem door_met (os : Os) (args : Array Value) : laidMetH Tryz.prog Rows.ringActsRow.laid ((World.laidAll Tryz.prog os Rows.ringActsRow.laid).forCall (fun _ _ => 0) ⟨#[], args, []⟩).memory := by
  rw [MakeChecks.laidMetH_plain _ _ _ (by kernel_rfl)]
  exact laidMet_laidAll _ (by kernel_rfl) (by kernel_rfl)
set_option linter.unusedVariables false in
set_option maxRecDepth 100000 in
theorem lifted (os : Os) (started : os.Started) (H : Type) (enc : TypeId × Value → H) :
    ReturnsInHanded {} Tryz.checked os 3 .any (fun w args => (Rows.ringActsSpec.pre enc Tryz.prog Tryz.f3 [] false w args ∧ laidMetH Tryz.prog Rows.ringActsRow.laid w) ∧ sizedMet enc Tryz.prog Tryz.f3 (OpenSpec.ofChange Rows.ringActsSpec) false w args) (Rows.ringActsSpec.post enc Tryz.prog Tryz.f3 false true false false) := by
  refine returnsInHanded_of_change_and (C := Tryz.checked) (X := fun w _ => laidMetH Tryz.prog Rows.ringActsRow.laid w) (fun _ _ _ hh h => h.of_heap hh) own started (by kernel_rfl) Tryz.func3
    (ChangeSpec.witness_shaped (enc := enc) (C := Tryz.checked) (os := os) (X := fun w _ => laidMetH Tryz.prog Rows.ringActsRow.laid w) false (World.laidAll Tryz.prog os Rows.ringActsRow.laid) #[.int .u16 0, .slice none 0 0] 8 (World.laidAll_os _ _ _) (World.shaped_of_ZipB (by kernel_rfl) (by kernel_rfl)) (by kernel_rfl) (by kernel_rfl) (by kernel_rfl) (door_met os _)) ?_
  intro W base args ds gs before hval0 hW _ _ hL _
  have hval : ∀ (j : Nat) t v, Tryz.f3.params[j]? = some t → args[j]? = some v → Value.okWide Tryz.prog W .any base t v := hval0
  have hW' := hW
  obtain ⟨p, q, hA0, hV, rfl, hfz, hnd⟩ := hW
  have hA : DataW.TrodAll enc Tryz.prog W 0 (fun _ => true) true Tryz.f3.params.toList args.toList ds p := hA0
  rw [Tryz.params3] at hA hval
  obtain ⟨v0, vs0, d0, ds0, p0, q0, hargs, rfl, rfl, h0, r0⟩ := trodAll_cons hA
  obtain ⟨v1, vs1, d1, ds1, p1, q1, rfl, rfl, rfl, h1, r1⟩ := trodAll_cons r0
  obtain ⟨rfl, rfl, rfl⟩ := trodAll_nil r1
  obtain rfl : args = #[v0, v1] := by cases args; simp_all
  obtain ⟨rfl, rfl⟩ := trodVars_none hV
  obtain ⟨a0, rfl, rfl, rfl, w0⟩ := open_int Tryz.underlying22 (hval 0 22 v0 rfl rfl) h0
  obtain ⟨a1, len1, cap1, rfl⟩ := okWide_slice Tryz.underlying23 (hval 1 23 v1 rfl rfl)
  have k1 := h1
  have lt1 : ∀ x ∈ p1, x.block < W.heap.size := by obtain ⟨m, hm⟩ := k1; exact DataW.trod_lt m _ _ _ hm
  obtain ⟨f1, m1, w1⟩ : ∃ f : Nat → Act13, len1 ≤ maxLen ∧ (0 < len1 → ∃ b off, a1 = some ⟨b, off, none⟩ ∧ ∀ j, j < len1 → ActAt13 W b (off + j * 5) (f j)) := by
    obtain ⟨fuel, hf⟩ := h1
    obtain ⟨x, l, c, f, hcs, hm, hA⟩ := open_acts13 hf
    simp [Value.cells] at hcs
    obtain ⟨rfl, rfl, rfl⟩ := hcs
    exact ⟨f, hm, hA⟩
  clear hA0 hval0
  simp only [List.append_nil] at hW'
  refine (walk W a0 w0 a1 len1 cap1 f1 m1 w1 (of_laid hL)).mono fun e W' ⟨he, hg⟩ => ?_
  subst he
  exact ⟨_, rfl, _, _, _, [], _, [], hW', trodAll_mk1 (shut_bool Tryz.underlying4 _), (trodAll_cons_mk (shut_int Tryz.underlying22 w0) (trodAll_cons_mk (Below.trod laidOut (by kernel_rfl) (of_decide_eq_true (by kernel_rfl)) k1 hg lt1) trodAll_mk0)), rfl, hg.frame _, fun h => by cases h⟩
/-- The row: for every input, where the listed tables read as their initialisers lay them, the law returns true, and each argument reads as it did. -/
theorem row_proved : Rows.RingActsSaid :=
  OpenClaim.holds_of_wide 3 Tryz.f3 rfl rfl rfl rfl rfl rfl rfl ⟨rfl, rfl, rfl, rfl, rfl⟩ rfl rfl rfl rfl rfl (by kernel_rfl) Tryz.func3 (by kernel_rfl)
    (of_decide_eq_true (by kernel_rfl)) (by unfold Func.isWrapper; first | (rw [if_pos (by decide +kernel)]; kernel_rfl) | (rw [if_neg (by decide +kernel)]; exact ⟨rfl, rfl⟩))
    (fun os started H enc _ => lifted os started H enc)
/-- For every input the law returns true, and each argument reads as it did; what the listed tables hold is tied to the program's text. -/
theorem proved : Rows.RingActsCardSaid :=
  Claim7.holds_tied_plain_at .later [] [.data, .pinned] true (true, "8b7f7a5a6bb0b7006261c93b02587f527727548a62dbb0075d5ca47a9d412caf") false
    row_proved (fun _ h => by cases h) (by kernel_rfl) (fun _ h => by cases h) ringActs_row_tie rfl ⟨rfl, rfl⟩ (by kernel_rfl) rfl
    (fun f fn hf hfn => by
      obtain rfl : f = 3 := Option.some.inj ((show Tryz.prog.funcNamed "revetment/revetmentlaw13.RingActs" = some 3 by kernel_rfl).symm.trans hf) |>.symm
      obtain rfl : fn = Tryz.f3 := (Option.some.inj (Tryz.func3.symm.trans hfn)).symm
      exact ⟨by kernel_rfl, fun j t ht => by
        rw [Tryz.params3] at ht
        have hm : t ∈ [22, 23] := by simpa using Array.mem_of_getElem? ht
        have hall : ([22, 23].all fun u => !Tryz.prog.wantsStandIn u) = true := by kernel_rfl
        exact (show Tryz.prog.wantsStandIn t = false by simpa using List.all_eq_true.1 hall t hm)⟩)
    (by kernel_rfl)
end Go.Proofs.YtjmeiifogblmoaaGreatDoor.ringActs
