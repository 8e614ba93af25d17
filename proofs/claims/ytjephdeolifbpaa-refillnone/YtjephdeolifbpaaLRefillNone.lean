/- For all columns and a number the law RefillNone returns true: where nothing is lost nothing is another one, and where P and Q are lost what is filled is what is made of the data (up to the law's own bound on lengths; beyond it the law says nothing). No condition. -/
import Derived.Test.YtjephdeolifbpaaRf06Square
import Derived.Test.YtjephdeolifbpaaRfRows
import Derived.ProofKit
import Derived.OpenShut
import Derived.ShutString
import Derived.ChangeOld
import Derived.Below
namespace Go.Proofs.Ytjephdeolifbpaa.refillNone
open Go.ChangeShapes Go.WideShapes Go.ChangeAt Go.RowKit
open Go.ChangeMaps (open_string shut_string)

set_option maxRecDepth 100000 in
set_option maxHeartbeats 4000000 in
theorem walk_nat (w : World) (a0 : Option Addr) (n0 cap0 : Nat) (f : Nat → ByteArray) (hr0 : RowS w a0 n0 f) (hm0 : n0 ≤ maxLen) (hsz0 : ∀ j, (f j).size ≤ maxLen) (k : Nat) (hk : k < 256) :
    Calls Try.prog 8 #[.slice a0 n0 cap0, .int .u8 k] w fun e w' => e = .returned (.bool true) ∧ Below w.heap.size w w' := by
  have HY := heavy6_any w a0 n0 cap0 f hr0 hsz0 hm0 none 0 0 (by decide)
  obtain ⟨r, hr⟩ : ∃ r : Nat, r = k % 7 := ⟨_, rfl⟩
  have hr7 : r < 7 := by omega
  have hrm : (k : Int).tmod 7 = (r : Int) := by rw [hr, Int.tmod_eq_emod_of_nonneg (by omega)]; omega
  clear hsz0 hm0 hr
  go_enter Try.func8, Try.ntmps8
  go_wp2_with fail
  refine HY.mono ?_
  rintro e w' ⟨hw, h⟩
  subst w'
  clear HY
  rcases h with rfl | ⟨rfl, hL⟩
  · go_wp2_with fail
    refine (shown6_any _).mono ?_
    rintro e w1 ⟨rfl, b1⟩
    go_wp2
    go_ret
    exact ⟨rfl, b1⟩
  · have hn20 := hL.1
    have hF0 := hL.fits
    obtain ⟨m, hm⟩ : ∃ m, m = r + 2 := ⟨_, rfl⟩
    obtain ⟨N, hN⟩ : ∃ N, N = m + 2 := ⟨_, rfl⟩
    have e1 : (4 : Int) + (r : Int) = (N : Int) := by omega
    have e2 : (N : Int) - 2 = (m : Int) := by omega
    have e3 : (N : Int) - 1 = (m : Int) + 1 := by omega
    have HN : Hid (N = m + 2) := hN
    have m2 : 2 ≤ m := by omega
    have m8 : m ≤ 8 := by omega
    have hN10 : N ≤ 10 := by omega
    clear hL hm hN
    go_wp2_with fail
    refine (shown6_any _).mono ?_
    rintro e w1 ⟨rfl, b1⟩
    have hQ := square_any n0 f (by omega) a0 cap0 N (by omega) hF0 w1 (hr0.below b1)
    go_wp2_with fail
    refine hQ.mono ?_
    rintro e w2 ⟨⟨gR, cR, rfl, own⟩, b2⟩
    obtain ⟨_, _, er, rr, hcR, _⟩ := RowS.of_owns own
    cases er
    have b2 := below2 b1 b2
    obtain ⟨F, hFe⟩ : ∃ F, sqF n0 f = F := ⟨_, rfl⟩
    have FS : ∀ i, (F i).size = 12 := fun i => by rw [← hFe]; exact sqF_size n0 f i
    have FF : ∀ q, Fits 1048576 q F := fun q i _ => by rw [FS]; decide
    rw [hFe] at rr
    clear own hQ hFe hr0 hF0
    -- nothing is lost
    have z0 : Rf.Lost m 0 (fun _ => 0) := Rf.Lost.zero (by omega) _
    have y0 : Rf.mayF N F 0 (fun _ => 0) = 0 := by rw [HN.out]; exact Rf.mayF_fine z0 m2 m8 (show 12 ≤ 4096 by decide) fun i _ _ => FS i
    have s0 : ∀ i, i < N → Rf.fillF N F 0 (fun _ => 0) i = F i := fun i hi => by
      rw [HN.out] at hi ⊢; exact Rf.fillF_keeps z0 (by omega) (fun i _ _ => FS i) hi rfl
    have h3 := Fill_says N F (by omega) (FF N) (some ⟨gR, 0, none⟩) cR hcR 0 (fun _ => 0) (by omega) none 0 (Nat.le_refl _) w2 rr (RowI.nil _ _ _ _)
    unfold FillSays at h3
    rw [y0, Rf.kF_ok] at h3
    clear y0
    go_wp2_with fail
    refine h3.mono ?_
    rintro e w3 ⟨⟨g3, c3, rfl, r3, _⟩, b3⟩
    have rr3 := rr.below b3
    have b3 := below2 b2 b3
    -- P and Q are
    obtain ⟨L2, hL2⟩ : ∃ L2 : Nat → Int, L2 = fun i => [(m : Int), (m : Int) + 1].getD i 0 := ⟨_, rfl⟩
    have z2 : Rf.Lost m 2 L2 := Rf.Lost.pair (a := m) (b := m + 1) (by omega) (by omega) (by omega) (by omega) L2 (by rw [hL2]; rfl) (by rw [hL2]; show (m : Int) + 1 = _; omega)
    have kept2 : ∀ i : Nat, i < m + 2 → Rf.hasF 2 L2 (i : Int) = false → i < m := fun i hi hh => by
      have := (Rf.has_pair (a := m) (b := m + 1) (L := L2) (by rw [hL2]; rfl) (by rw [hL2]; show (m : Int) + 1 = _; omega)).1 hh
      omega
    have y2 : Rf.mayF N F 2 L2 = 0 := by rw [HN.out]; exact Rf.mayF_fine z2 m2 m8 (show 12 ≤ 4096 by decide) fun i _ _ => FS i
    have s2 : ∀ i, i < N → Rf.fillF N F 2 L2 i = ownRow m F i := fun i hi => by
      rw [HN.out] at hi ⊢
      exact Rf.fillF_good z2 (by omega) (fun i hi => Rf.own_size (s := 12) (by omega) (fun i _ => FS i) hi) (fun i hi hh => (ownRow_data m F (kept2 i hi hh)).symm) (fun t => Rf.own_bytes m F t) i hi
    have rl : RowI .i64 (w3.alloc (.cells #[.int .i64 (m : Int), .int .i64 ((m : Int) + 1)] 3)) (some ⟨w3.heap.size, 0, none⟩) 2 L2 := by
      have h := RowI.new .i64 w3 [(m : Int), (m : Int) + 1] #[.int .i64 (m : Int), .int .i64 ((m : Int) + 1)] 3 rfl
      rw [hL2]; exact h
    have al3 : Below w3.heap.size w3 (w3.alloc (.cells #[.int .i64 (m : Int), .int .i64 ((m : Int) + 1)] 3)) := (Below.refl _ w3).alloc (Nat.le_refl _) _
    have h4 := Fill_says N F (by omega) (FF N) (some ⟨gR, 0, none⟩) cR hcR 2 L2 (by omega) (some ⟨w3.heap.size, 0, none⟩) 2 (Nat.le_refl _) _ (rr3.below al3) rl
    unfold FillSays at h4
    rw [y2, Rf.kF_ok] at h4
    clear y2 rl hL2
    go_wp2_with fail
    refine h4.mono ?_
    rintro e w4 ⟨⟨g4, c4, rfl, r4, _⟩, b4⟩
    have b4 : Below w3.heap.size w3 w4 := al3.trans (b4.mono al3.size)
    have r3 := r3.below b4
    have rr4 := rr3.below b4
    have b4 := below2 b3 b4
    -- made of the data
    have y5 : Rf.mayF (m + 2) (ownRow m F) 0 (fun _ => 0) = 0 := Rf.mayF_fine z0 m2 m8 (show 12 ≤ 4096 by decide) fun i hi _ => Rf.own_size (s := 12) (by omega) (fun i _ => FS i) hi
    have h5 := Make_says m F (by omega) (FF m) (some ⟨gR, 0, none⟩) cR (by omega) w4 (rr4.mono (by omega) fun _ _ => rfl)
    unfold MakeSays at h5
    rw [y5, Rf.kF_ok, ← HN.out] at h5
    have sl := run_slice_to (some ⟨gR, 0, none⟩) N cR m (by omega)
    clear y5 h3 h4
    go_wp2_with fail
    refine h5.mono ?_
    rintro e w5 ⟨⟨g5, c5, rfl, r5, _⟩, b5⟩
    have r3 := r3.below b5
    have r4 := r4.below b5
    have rr5 := rr4.below b5
    have b5 := below2 b4 b5
    have h6 := Same_any N N _ _ (by omega) (by omega) g3 (some ⟨gR, 0, none⟩) c3 cR w5 r3 rr5
    rw [Rf.sameB_yes s0] at h6
    have R4 : Hid (RowS w5 g4 N (Rf.fillF N F 2 L2)) := r4
    have R5 : Hid (RowS w5 g5 N (ownRow m F)) := r5
    have S2 : Hid (∀ i, i < N → Rf.fillF N F 2 L2 i = ownRow m F i) := s2
    clear r3 r4 r5 rr rr3 rr4 rr5 h5 s0 s2 b1 b2 b3 b4 z0 z2 kept2 al3
    go_wp2_with fail
    refine h6.mono ?_
    rintro e w6 ⟨rfl, b6⟩
    have h7 := Same_any N N _ _ (by omega) (by omega) g4 g5 c4 c5 w6 (R4.out.below b6) (R5.out.below b6)
    rw [Rf.sameB_yes S2.out] at h7
    have b6 := below2 b5 b6
    go_wp2_with fail
    refine h7.mono ?_
    rintro e w7 ⟨rfl, b7⟩
    have HB : Hid (Below w.heap.size w w7) := below2 b6 b7
    clear b5 b6 b7 h6 h7
    go_wp2
    go_ret
    exact ⟨rfl, HB.out⟩
theorem walk (w : World) (a0 : Option Addr) (len0 cap0 : Nat) (z0 : List ByteArray) (w0 : IsStrs w a0 len0 cap0 z0) (a1 : Int) (w1 : (Lit.int .u8 a1).wf = true) :
    Calls Try.prog 8 #[.slice a0 len0 cap0, .int .u8 a1] w fun e w' => e = .returned (.bool true) ∧ Below w.heap.size w w' := by
  obtain ⟨f, hm, _, hsz, hr⟩ := w0.open6
  have b1 := bounds_u8 w1
  obtain ⟨k, rfl⟩ := Int.eq_ofNat_of_zero_le b1.1
  exact walk_nat w a0 len0 cap0 f hr hm hsz k (by omega)

theorem own : ownKnob Try.prog.godebug = none := by kernel_rfl
theorem laidOut : laidOutB Try.prog = true := by kernel_rfl
set_option linter.unusedVariables false in
set_option maxRecDepth 100000 in
theorem lifted (os : Os) (started : os.Started) (H : Type) (enc : TypeId × Value → H) :
    ReturnsInHanded {} Try.checked os 8 .any (Rows.refillNoneSpec.pre6 enc Try.prog Try.f8 Rows.refillNoneRow.domain false) (Rows.refillNoneSpec.post enc Try.prog Try.f8 false true false false) := by
  refine returnsInHanded_of_change (C := Try.checked) own started (by kernel_rfl) Try.func8
    (ChangeSpec.witness6 (enc := enc) (C := Try.checked) false ⟨#[], #[.slice none 0 0, .int .u8 0], []⟩ 8 (by kernel_rfl) (by kernel_rfl) (by kernel_rfl) (by kernel_rfl)) ?_
  intro W base args ds gs before hval0 hW hcnd _
  have hval : ∀ (j : Nat) t v, Try.f8.params[j]? = some t → args[j]? = some v → Value.okWide Try.prog W .any base t v := hval0
  have hW' := hW
  obtain ⟨p, q, hA0, hV, rfl, hfz, hnd⟩ := hW
  have hA : DataW.TrodAll enc Try.prog W 0 (fun _ => true) true Try.f8.params.toList args.toList ds p := hA0
  rw [Try.params8] at hA hval
  obtain ⟨v0, vs0, d0, ds0, p0, q0, hargs, rfl, rfl, h0, r0⟩ := trodAll_cons hA
  obtain ⟨v1, vs1, d1, ds1, p1, q1, rfl, rfl, rfl, h1, r1⟩ := trodAll_cons r0
  obtain ⟨rfl, rfl, rfl⟩ := trodAll_nil r1
  obtain rfl : args = #[v0, v1] := by cases args; simp_all
  obtain ⟨rfl, rfl⟩ := trodVars_none hV
  obtain ⟨a0, len0, cap0, rfl⟩ := okWide_slice Try.underlying22 (hval 0 22 v0 rfl rfl)
  have k0 := h0
  have lt0 : ∀ x ∈ p0, x.block < W.heap.size := by obtain ⟨m, hm⟩ := k0; exact DataW.trod_lt m _ _ _ hm
  obtain ⟨z0, w0⟩ : ∃ zs, IsStrs W a0 len0 cap0 zs := by
    obtain ⟨fuel, hf⟩ := h0
    rcases open_strings Try.underlying22 Try.underlying9 (by kernel_rfl) hf with ⟨hcs, _⟩ | ⟨x, l, c, zs, hcs, _, hl, hm, hz, _, hcell, hwz⟩
    · simp [Value.cells] at hcs
      obtain ⟨rfl, rfl, rfl⟩ := hcs
      exact ⟨[], .inl ⟨rfl, rfl, rfl, rfl⟩⟩
    · simp [Value.cells] at hcs
      obtain ⟨rfl, rfl, rfl⟩ := hcs
      exact ⟨zs, .inr ⟨_, rfl, hl, hm, by simpa using hz, hcell, hwz⟩⟩
  obtain ⟨a1, rfl, rfl, rfl, w1⟩ := open_int Try.underlying5 (hval 1 5 v1 rfl rfl) h1
  clear hA0 hval0
  simp only [List.append_nil] at hW'
  refine (walk W a0 len0 cap0 z0 w0 a1 w1).mono fun e W' ⟨he, hg⟩ => ?_
  subst he
  exact ⟨_, rfl, _, _, _, [], _, [], hW', trodAll_mk1 (shut_bool Try.underlying4 _), (trodAll_cons_mk (Below.trod laidOut (by kernel_rfl) (of_decide_eq_true (by kernel_rfl)) k0 hg lt0) (trodAll_cons_mk (shut_int Try.underlying5 w1) trodAll_mk0)), rfl, hg.frame _, fun h => by cases h⟩
/-- For every input the law returns true, and each argument reads as it did. -/
theorem proved : Rows.RefillNoneSaid :=
  OpenClaim.holds_of_wide 8 Try.f8 rfl rfl rfl rfl rfl rfl rfl ⟨rfl, rfl, rfl, rfl, rfl⟩ rfl rfl rfl rfl rfl (by kernel_rfl) Try.func8 (by kernel_rfl)
    (of_decide_eq_true (by kernel_rfl)) (by unfold Func.isWrapper; first | (rw [if_pos (by decide +kernel)]; kernel_rfl) | (rw [if_neg (by decide +kernel)]; exact ⟨rfl, rfl⟩))
    (fun os started H enc _ => lifted os started H enc)
end Go.Proofs.Ytjephdeolifbpaa.refillNone
