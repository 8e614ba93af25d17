/- For all columns, three numbers and two texts the law RefillOrder returns true: in whatever order two lost columns are told, whatever stands in them, they are filled alike (up to the law's own bound on lengths; beyond it the law says nothing). No condition. -/
import Derived.Test.YtjephdeolifbpaaRf06Square
import Derived.Test.YtjephdeolifbpaaRef05Sum
import Derived.Test.YtjephdeolifbpaaRfRows
import Derived.Test.YtjephdeolifbpaaRef06Same
import Derived.Test.YtjephdeolifbpaaSynOne
import Derived.Test.YtjephdeolifbpaaKitJoin
import Derived.Test.YtjephdeolifbpaaKitDet
import Derived.ProofKit
import Derived.OpenShut
import Derived.ShutString
import Derived.ChangeOld
import Derived.Below
namespace Go.Proofs.Ytjephdeolifbpaa.refillOrder
open Go.ChangeShapes Go.WideShapes Go.ChangeAt Go.RowKit
open Go.ChangeMaps (open_string shut_string)

set_option maxRecDepth 100000 in
set_option maxHeartbeats 8000000 in
theorem core_apart (w : World) (a0 : Option Addr) (n0 cap0 : Nat) (f : Nat → ByteArray) (hr0 : RowS w a0 n0 f) (hm0 : n0 ≤ maxLen) (hsz0 : ∀ j, (f j).size ≤ maxLen) (k a b : Nat) (s t : ByteArray) (N A B : Nat) (hk : k < 256) (hNk : 4 + k % 7 = N) (ha256 : a < 256) (hb256 : b < 256) (hA : A < N) (hB : B < N) (hAB : A ≠ B) (ha : a % N = A) (hb : b % N = B) :
    Calls Try.prog 7 #[.slice a0 n0 cap0, .int .u8 k, .int .u8 a, .int .u8 b, .string s, .string t] w fun e w' => e = .returned (.bool true) ∧ Below w.heap.size w w' := by
  have HY := heavy6_any w a0 n0 cap0 f hr0 hsz0 hm0 none 0 0 (by decide)
  obtain ⟨r, hr⟩ : ∃ r : Nat, r = k % 7 := ⟨_, rfl⟩
  have hr7 : r < 7 := by omega
  have hrm : (k : Int).tmod 7 = (r : Int) := by rw [hr, Int.tmod_eq_emod_of_nonneg (by omega)]; omega
  have m1 : (a : Int).tmod (N : Int) = (A : Int) := by rw [Int.tmod_eq_emod_of_nonneg (by omega), ← ha]; omega
  have m2 : (b : Int).tmod (N : Int) = (B : Int) := by rw [Int.tmod_eq_emod_of_nonneg (by omega), ← hb]; omega
  have m3 : ((A : Int) == (B : Int)) = false := by rw [beq_eq_false_iff_ne]; omega
  have e1 : (4 : Int) + (r : Int) = (N : Int) := by omega
  have hN10 : N ≤ 10 := by omega
  have hN4 : 4 ≤ N := by omega
  clear hsz0 hm0 hr hNk ha hb
  go_enter Try.func7, Try.ntmps7
  go_wp2_with fail
  refine HY.mono ?_
  rintro e w' ⟨hw, h⟩
  subst w'
  clear HY
  rcases h with rfl | ⟨rfl, hL⟩
  · go_wp2_with fail
    refine (shown6_any _).mono ?_
    rintro e w1 ⟨rfl, b1⟩
    go_wp2
    go_ret
    exact ⟨rfl, b1⟩
  · have hn20 := hL.1
    have hF0 := hL.fits
    obtain ⟨m, HN⟩ : ∃ m, Hid (N = m + 2) := ⟨N - 2, by show _ = _; omega⟩
    have m2' : 2 ≤ m := by have := HN.out; omega
    have m8 : m ≤ 8 := by have := HN.out; omega
    clear hL
    by_cases hs : (s.size : Int) ≤ 100
    rotate_left
    · have hs1 : (100 : Int) < (s.size : Int) := by omega
      clear hs
      go_wp2_with fail
      refine (shown6_any _).mono ?_
      rintro e w1 ⟨rfl, b1⟩
      go_wp2
      go_ret
      exact ⟨rfl, b1⟩
    have hs1 : ¬ (100 : Int) < (s.size : Int) := by omega
    by_cases ht : (t.size : Int) ≤ 100
    rotate_left
    · have ht1 : (100 : Int) < (t.size : Int) := by omega
      clear ht
      go_wp2_with fail
      refine (shown6_any _).mono ?_
      rintro e w1 ⟨rfl, b1⟩
      go_wp2
      go_ret
      exact ⟨rfl, b1⟩
    have ht1 : ¬ (100 : Int) < (t.size : Int) := by omega
    go_wp2_with fail
    refine (shown6_any _).mono ?_
    rintro e w1 ⟨rfl, b1⟩
    have hQ := square_any n0 f (by omega) a0 cap0 N (by omega) hF0 w1 (hr0.below b1)
    go_wp2_with fail
    refine hQ.mono ?_
    rintro e w2 ⟨⟨gR, cR, rfl, own⟩, b2⟩
    obtain ⟨_, _, er, rr, hcR, _⟩ := RowS.of_owns own
    cases er
    have b2 := below2 b1 b2
    obtain ⟨F, hFe⟩ : ∃ F, sqF n0 f = F := ⟨_, rfl⟩
    have FS : ∀ i, (F i).size = 12 := fun i => by rw [← hFe]; exact sqF_size n0 f i
    have FF : ∀ q, Fits 1048576 q F := fun q i _ => by rw [FS]; decide
    rw [hFe] at rr
    clear own hQ hFe hr0 hF0
    obtain ⟨L1, hL1⟩ : ∃ L1 : Nat → Int, L1 = fun i => [(A : Int), (B : Int)].getD i 0 := ⟨_, rfl⟩
    have l0 : L1 0 = (A : Int) := by rw [hL1]; rfl
    have l1 : L1 1 = (B : Int) := by rw [hL1]; rfl
    have z1 : Rf.Lost m 2 L1 := Rf.Lost.pair (by omega) (by have := HN.out; omega) (by have := HN.out; omega) hAB L1 l0 l1
    have y1 : Rf.mayF N F 2 L1 = 0 := by rw [HN.out]; exact Rf.mayF_fine z1 m2' m8 (show 12 ≤ 4096 by decide) fun i _ _ => FS i
    obtain ⟨L2, hL2⟩ : ∃ L2 : Nat → Int, L2 = fun i => [(B : Int), (A : Int)].getD i 0 := ⟨_, rfl⟩
    have k0 : L2 0 = (B : Int) := by rw [hL2]; rfl
    have k1 : L2 1 = (A : Int) := by rw [hL2]; rfl
    have z2 : Rf.Lost m 2 L2 := Rf.Lost.pair (by omega) (by have := HN.out; omega) (by have := HN.out; omega) (fun h => hAB h.symm) L2 k0 k1
    obtain ⟨O, hO⟩ : ∃ O, Gfm.upd (Gfm.upd F A s) B t = O := ⟨_, rfl⟩
    have OF : ∀ i, i ≠ A → i ≠ B → O i = F i := fun i h1 h2 => by rw [← hO, Gfm.upd_other _ _ h2, Gfm.upd_other _ _ h1]
    have OK2 : ∀ i : Nat, Rf.hasF 2 L2 (i : Int) = false → O i = F i := fun i hh => OF i ((Rf.has_pair k0 k1).1 hh).2 ((Rf.has_pair k0 k1).1 hh).1
    have OS : Fits 1048576 N O := fun i _ => by
      by_cases h2 : i = B
      · rw [← hO, h2, Gfm.upd_same]; omega
      · by_cases h1 : i = A
        · rw [← hO, Gfm.upd_other _ _ h2, h1, Gfm.upd_same]; omega
        · rw [OF i h1 h2, FS]; decide
    have y2 : Rf.mayF N O 2 L2 = 0 := by rw [HN.out]; exact Rf.mayF_fine z2 m2' m8 (show 12 ≤ 4096 by decide) fun i _ hh => by rw [OK2 i hh]; exact FS i
    have SAME : Hid (Rf.sameB N (Rf.fillF N F 2 L1) N (Rf.fillF N O 2 L2) = true) := by
      show _ = _
      rw [HN.out]
      refine Rf.sameB_yes fun i hi => (Rf.fillF_good z2 (s := 12) (by omega) (fun i hi => Rf.fillF_size (Rf.szF_same z1 (by omega) fun i _ _ => FS i) i) (fun i hi hh => ?_) (fun q => Rf.fillF_two z1 rfl (by omega) (fun i _ _ => FS i) q) i hi).symm
      rw [OK2 i hh]
      exact (Rf.fillF_keeps z1 (by omega) (fun i _ _ => FS i) hi ((Rf.has_pair l0 l1).2 ⟨((Rf.has_pair k0 k1).1 hh).2, ((Rf.has_pair k0 k1).1 hh).1⟩)).symm
    have OWN1 : Hid ((w2.alloc (.cells #[] 9)).ownsRow w2.heap.size 9 1 (.slice (some ⟨w2.heap.size, 0, none⟩) 0 0) 0 (textVals 0 F)) := World.ownsRow_made w2 #[] 0 (Nat.le_refl _) (by decide) rfl
    have RA : Hid (RowS (w2.alloc (.cells #[] 9)) (some ⟨gR, 0, none⟩) N F) := rr.below ((Below.refl _ w2).alloc (Nat.le_refl _) _)
    have RR : Hid (RowS w2 (some ⟨gR, 0, none⟩) N F) := rr
    have e0 : 0 + N = N := by omega
    have HJ : Hid (textVals N (joinF 0 F F) = textVals N F) := textVals_congr fun j _ => by unfold joinF; rw [if_neg (by omega), Nat.sub_zero]
    have B2 : Hid (Below w.heap.size w w2) := b2
    have Y1 : Hid (Rf.mayF N F 2 L1 = 0) := y1
    have Y2 : Hid (Rf.mayF N O 2 L2 = 0) := y2
    have OSH : Hid (Fits 1048576 N O) := OS
    have FFH : Hid (Fits 1048576 N F) := FF N
    have HO : Hid (Gfm.upd (Gfm.upd F A s) B t = O) := hO
    have HL1 : Hid (L1 = fun i => [(A : Int), (B : Int)].getD i 0) := hL1
    have HL2 : Hid (L2 = fun i => [(B : Int), (A : Int)].getD i 0) := hL2
    have t1 : True := trivial
    clear rr b2 b1 y1 y2 OS OF OK2 hO FF FS hL1 hL2 z1 z2 k0 k1 l0 l1
    go_wp2_with (at_builtin; have _t := t1; refine wpList_append_texts _ rfl _ _ rfl w2.heap.size w2.heap.size 0 0 F rfl OWN1.out (some ⟨gR, 0, none⟩) N cR F rfl RA.out (by omega) (by simp) ?_; intro gn cn w3 own2 grow2 lies2; rw [e0, HJ.out] at own2; (have B3 : Hid (Below w2.heap.size w2 w3) := below_joined ((Below.refl _ w2).alloc (Nat.le_refl _) _) (by simp) OWN1.out grow2); (have hlow := owns_low own2); (have hcA : w3.cell? ⟨gn, A, none⟩ = some (.string (F A)) := by rw [own2.cellAt A (by omega)]; exact textVals_at F hA); (have hfA : w3.frozen? ⟨gn, A, none⟩ = false := own2.frozenAt A); (have ownA := (own2.stored A (.string s)).1); rw [textVals_set] at ownA; (have hcB : (w3.setCell ⟨gn, A, none⟩ (.string s)).cell? ⟨gn, B, none⟩ = some (.string (Gfm.upd F A s B)) := by rw [ownA.cellAt B (by omega)]; exact textVals_at _ hB); (have hfB : (w3.setCell ⟨gn, A, none⟩ (.string s)).frozen? ⟨gn, B, none⟩ = false := ownA.frozenAt B); (have ownB := (ownA.stored B (.string t)).1); rw [textVals_set, HO.out] at ownB; (have OWNB : Hid (((w3.setCell ⟨gn, A, none⟩ (.string s)).setCell ⟨gn, B, none⟩ (.string t)).ownsRow w2.heap.size 9 1 (.slice (some ⟨gn, 0, none⟩) N cn) N (textVals N O)) := ownB); (have BV : Hid (Below w2.heap.size w2 ((w3.setCell ⟨gn, A, none⟩ (.string s)).setCell ⟨gn, B, none⟩ (.string t))) := (B3.out.setCell (p := ⟨gn, A, none⟩) hlow _).setCell (p := ⟨gn, B, none⟩) hlow _); (have ES : Hid (((w3.setCell ⟨gn, A, none⟩ (.string s)).setCell ⟨gn, B, none⟩ (.string t)).heap.size = w3.heap.size) := by show _ = _; simp); clear own2 ownA ownB grow2 lies2 t1 hlow)
    generalize ev : (w3.setCell ⟨gn, A, none⟩ (.string s)).setCell ⟨gn, B, none⟩ (.string t) = v at *
    obtain ⟨_, _, eo, ro, hcn, _⟩ := RowS.of_owns OWNB.out
    cases eo
    have bv := BV.out
    have rr := RR.out.below bv
    have bw := below2 B2.out bv
    clear hcA hfA hcB hfB ev
    have rl : RowI .i64 (v.alloc (.cells #[.int .i64 (A : Int), .int .i64 (B : Int)] 3)) (some ⟨v.heap.size, 0, none⟩) 2 L1 := by
      have h := RowI.new .i64 v [(A : Int), (B : Int)] #[.int .i64 (A : Int), .int .i64 (B : Int)] 3 rfl
      rw [HL1.out]; exact h
    have alv : Below v.heap.size v (v.alloc (.cells #[.int .i64 (A : Int), .int .i64 (B : Int)] 3)) := (Below.refl _ v).alloc (Nat.le_refl _) _
    have h3 := Fill_says N F (by omega) FFH.out (some ⟨gR, 0, none⟩) cR hcR 2 L1 (by omega) (some ⟨v.heap.size, 0, none⟩) 2 (Nat.le_refl _) _ (rr.below alv) rl
    unfold FillSays at h3
    rw [Y1.out, Rf.kF_ok, ES.out] at h3
    clear rl
    refine h3.mono ?_
    rintro e w4 ⟨⟨g4, c4, rfl, r4, hc4⟩, b4⟩
    have b4 : Below v.heap.size v w4 := alv.trans (b4.mono alv.size)
    have ro4 := ro.below b4
    have bw := below2 bw b4
    have rl : RowI .i64 (w4.alloc (.cells #[.int .i64 (B : Int), .int .i64 (A : Int)] 3)) (some ⟨w4.heap.size, 0, none⟩) 2 L2 := by
      have h := RowI.new .i64 w4 [(B : Int), (A : Int)] #[.int .i64 (B : Int), .int .i64 (A : Int)] 3 rfl
      rw [HL2.out]; exact h
    have al4 : Below w4.heap.size w4 (w4.alloc (.cells #[.int .i64 (B : Int), .int .i64 (A : Int)] 3)) := (Below.refl _ w4).alloc (Nat.le_refl _) _
    have h5 := Fill_says N O (by omega) OSH.out (some ⟨gn, 0, none⟩) cn hcn 2 L2 (by omega) (some ⟨w4.heap.size, 0, none⟩) 2 (Nat.le_refl _) _ (ro4.below al4) rl
    unfold FillSays at h5
    rw [Y2.out, Rf.kF_ok] at h5
    clear rl h3
    go_wp2_with fail
    refine h5.mono ?_
    rintro e w5 ⟨⟨g5, c5, rfl, r5, hc5⟩, b5⟩
    have b5 : Below w4.heap.size w4 w5 := al4.trans (b5.mono al4.size)
    have r4 := r4.below b5
    have bw := below2 bw b5
    have hS := Same_any N N (Rf.fillF N F 2 L1) (Rf.fillF N O 2 L2) (by omega) (by omega) g4 g5 c4 c5 w5 r4 r5
    rw [SAME.out] at hS
    clear h5 SAME
    go_wp2_with fail
    refine hS.mono ?_
    rintro e w6 ⟨rfl, b6⟩
    have BE : Hid (Below w.heap.size w w6) := below2 bw b6
    clear bw b6 b5 b4
    go_wp2
    go_ret
    exact ⟨rfl, BE.out⟩

set_option maxRecDepth 100000 in
set_option maxHeartbeats 8000000 in
theorem core_met (w : World) (a0 : Option Addr) (n0 cap0 : Nat) (f : Nat → ByteArray) (hr0 : RowS w a0 n0 f) (hm0 : n0 ≤ maxLen) (hsz0 : ∀ j, (f j).size ≤ maxLen) (k a b : Nat) (s t : ByteArray) (N A B : Nat) (hk : k < 256) (hNk : 4 + k % 7 = N) (ha256 : a < 256) (hb256 : b < 256) (hA : A < N) (hB : B < N) (hAB : A ≠ B) (ha : a % N = A) (hb : b % N = A ∧ (A + 1) % N = B) :
    Calls Try.prog 7 #[.slice a0 n0 cap0, .int .u8 k, .int .u8 a, .int .u8 b, .string s, .string t] w fun e w' => e = .returned (.bool true) ∧ Below w.heap.size w w' := by
  have HY := heavy6_any w a0 n0 cap0 f hr0 hsz0 hm0 none 0 0 (by decide)
  obtain ⟨r, hr⟩ : ∃ r : Nat, r = k % 7 := ⟨_, rfl⟩
  have hr7 : r < 7 := by omega
  have hrm : (k : Int).tmod 7 = (r : Int) := by rw [hr, Int.tmod_eq_emod_of_nonneg (by omega)]; omega
  have m1 : (a : Int).tmod (N : Int) = (A : Int) := by rw [Int.tmod_eq_emod_of_nonneg (by omega), ← ha]; omega
  have m2 : (b : Int).tmod (N : Int) = (A : Int) := by rw [Int.tmod_eq_emod_of_nonneg (by omega), ← hb.1]; omega
  have m3 : ((A : Int) + 1).tmod (N : Int) = (B : Int) := by rw [Int.tmod_eq_emod_of_nonneg (by omega), ← hb.2, Int.natCast_emod]; rfl
  have e1 : (4 : Int) + (r : Int) = (N : Int) := by omega
  have hN10 : N ≤ 10 := by omega
  have hN4 : 4 ≤ N := by omega
  clear hsz0 hm0 hr hNk ha hb
  go_enter Try.func7, Try.ntmps7
  go_wp2_with fail
  refine HY.mono ?_
  rintro e w' ⟨hw, h⟩
  subst w'
  clear HY
  rcases h with rfl | ⟨rfl, hL⟩
  · go_wp2_with fail
    refine (shown6_any _).mono ?_
    rintro e w1 ⟨rfl, b1⟩
    go_wp2
    go_ret
    exact ⟨rfl, b1⟩
  · have hn20 := hL.1
    have hF0 := hL.fits
    obtain ⟨m, HN⟩ : ∃ m, Hid (N = m + 2) := ⟨N - 2, by show _ = _; omega⟩
    have m2' : 2 ≤ m := by have := HN.out; omega
    have m8 : m ≤ 8 := by have := HN.out; omega
    clear hL
    by_cases hs : (s.size : Int) ≤ 100
    rotate_left
    · have hs1 : (100 : Int) < (s.size : Int) := by omega
      clear hs
      go_wp2_with fail
      refine (shown6_any _).mono ?_
      rintro e w1 ⟨rfl, b1⟩
      go_wp2
      go_ret
      exact ⟨rfl, b1⟩
    have hs1 : ¬ (100 : Int) < (s.size : Int) := by omega
    by_cases ht : (t.size : Int) ≤ 100
    rotate_left
    · have ht1 : (100 : Int) < (t.size : Int) := by omega
      clear ht
      go_wp2_with fail
      refine (shown6_any _).mono ?_
      rintro e w1 ⟨rfl, b1⟩
      go_wp2
      go_ret
      exact ⟨rfl, b1⟩
    have ht1 : ¬ (100 : Int) < (t.size : Int) := by omega
    go_wp2_with fail
    refine (shown6_any _).mono ?_
    rintro e w1 ⟨rfl, b1⟩
    have hQ := square_any n0 f (by omega) a0 cap0 N (by omega) hF0 w1 (hr0.below b1)
    go_wp2_with fail
    refine hQ.mono ?_
    rintro e w2 ⟨⟨gR, cR, rfl, own⟩, b2⟩
    obtain ⟨_, _, er, rr, hcR, _⟩ := RowS.of_owns own
    cases er
    have b2 := below2 b1 b2
    obtain ⟨F, hFe⟩ : ∃ F, sqF n0 f = F := ⟨_, rfl⟩
    have FS : ∀ i, (F i).size = 12 := fun i => by rw [← hFe]; exact sqF_size n0 f i
    have FF : ∀ q, Fits 1048576 q F := fun q i _ => by rw [FS]; decide
    rw [hFe] at rr
    clear own hQ hFe hr0 hF0
    obtain ⟨L1, hL1⟩ : ∃ L1 : Nat → Int, L1 = fun i => [(A : Int), (B : Int)].getD i 0 := ⟨_, rfl⟩
    have l0 : L1 0 = (A : Int) := by rw [hL1]; rfl
    have l1 : L1 1 = (B : Int) := by rw [hL1]; rfl
    have z1 : Rf.Lost m 2 L1 := Rf.Lost.pair (by omega) (by have := HN.out; omega) (by have := HN.out; omega) hAB L1 l0 l1
    have y1 : Rf.mayF N F 2 L1 = 0 := by rw [HN.out]; exact Rf.mayF_fine z1 m2' m8 (show 12 ≤ 4096 by decide) fun i _ _ => FS i
    obtain ⟨L2, hL2⟩ : ∃ L2 : Nat → Int, L2 = fun i => [(B : Int), (A : Int)].getD i 0 := ⟨_, rfl⟩
    have k0 : L2 0 = (B : Int) := by rw [hL2]; rfl
    have k1 : L2 1 = (A : Int) := by rw [hL2]; rfl
    have z2 : Rf.Lost m 2 L2 := Rf.Lost.pair (by omega) (by have := HN.out; omega) (by have := HN.out; omega) (fun h => hAB h.symm) L2 k0 k1
    obtain ⟨O, hO⟩ : ∃ O, Gfm.upd (Gfm.upd F A s) B t = O := ⟨_, rfl⟩
    have OF : ∀ i, i ≠ A → i ≠ B → O i = F i := fun i h1 h2 => by rw [← hO, Gfm.upd_other _ _ h2, Gfm.upd_other _ _ h1]
    have OK2 : ∀ i : Nat, Rf.hasF 2 L2 (i : Int) = false → O i = F i := fun i hh => OF i ((Rf.has_pair k0 k1).1 hh).2 ((Rf.has_pair k0 k1).1 hh).1
    have OS : Fits 1048576 N O := fun i _ => by
      by_cases h2 : i = B
      · rw [← hO, h2, Gfm.upd_same]; omega
      · by_cases h1 : i = A
        · rw [← hO, Gfm.upd_other _ _ h2, h1, Gfm.upd_same]; omega
        · rw [OF i h1 h2, FS]; decide
    have y2 : Rf.mayF N O 2 L2 = 0 := by rw [HN.out]; exact Rf.mayF_fine z2 m2' m8 (show 12 ≤ 4096 by decide) fun i _ hh => by rw [OK2 i hh]; exact FS i
    have SAME : Hid (Rf.sameB N (Rf.fillF N F 2 L1) N (Rf.fillF N O 2 L2) = true) := by
      show _ = _
      rw [HN.out]
      refine Rf.sameB_yes fun i hi => (Rf.fillF_good z2 (s := 12) (by omega) (fun i hi => Rf.fillF_size (Rf.szF_same z1 (by omega) fun i _ _ => FS i) i) (fun i hi hh => ?_) (fun q => Rf.fillF_two z1 rfl (by omega) (fun i _ _ => FS i) q) i hi).symm
      rw [OK2 i hh]
      exact (Rf.fillF_keeps z1 (by omega) (fun i _ _ => FS i) hi ((Rf.has_pair l0 l1).2 ⟨((Rf.has_pair k0 k1).1 hh).2, ((Rf.has_pair k0 k1).1 hh).1⟩)).symm
    have OWN1 : Hid ((w2.alloc (.cells #[] 9)).ownsRow w2.heap.size 9 1 (.slice (some ⟨w2.heap.size, 0, none⟩) 0 0) 0 (textVals 0 F)) := World.ownsRow_made w2 #[] 0 (Nat.le_refl _) (by decide) rfl
    have RA : Hid (RowS (w2.alloc (.cells #[] 9)) (some ⟨gR, 0, none⟩) N F) := rr.below ((Below.refl _ w2).alloc (Nat.le_refl _) _)
    have RR : Hid (RowS w2 (some ⟨gR, 0, none⟩) N F) := rr
    have e0 : 0 + N = N := by omega
    have HJ : Hid (textVals N (joinF 0 F F) = textVals N F) := textVals_congr fun j _ => by unfold joinF; rw [if_neg (by omega), Nat.sub_zero]
    have B2 : Hid (Below w.heap.size w w2) := b2
    have Y1 : Hid (Rf.mayF N F 2 L1 = 0) := y1
    have Y2 : Hid (Rf.mayF N O 2 L2 = 0) := y2
    have OSH : Hid (Fits 1048576 N O) := OS
    have FFH : Hid (Fits 1048576 N F) := FF N
    have HO : Hid (Gfm.upd (Gfm.upd F A s) B t = O) := hO
    have HL1 : Hid (L1 = fun i => [(A : Int), (B : Int)].getD i 0) := hL1
    have HL2 : Hid (L2 = fun i => [(B : Int), (A : Int)].getD i 0) := hL2
    have t1 : True := trivial
    clear rr b2 b1 y1 y2 OS OF OK2 hO FF FS hL1 hL2 z1 z2 k0 k1 l0 l1
    go_wp2_with (at_builtin; have _t := t1; refine wpList_append_texts _ rfl _ _ rfl w2.heap.size w2.heap.size 0 0 F rfl OWN1.out (some ⟨gR, 0, none⟩) N cR F rfl RA.out (by omega) (by simp) ?_; intro gn cn w3 own2 grow2 lies2; rw [e0, HJ.out] at own2; (have B3 : Hid (Below w2.heap.size w2 w3) := below_joined ((Below.refl _ w2).alloc (Nat.le_refl _) _) (by simp) OWN1.out grow2); (have hlow := owns_low own2); (have hcA : w3.cell? ⟨gn, A, none⟩ = some (.string (F A)) := by rw [own2.cellAt A (by omega)]; exact textVals_at F hA); (have hfA : w3.frozen? ⟨gn, A, none⟩ = false := own2.frozenAt A); (have ownA := (own2.stored A (.string s)).1); rw [textVals_set] at ownA; (have hcB : (w3.setCell ⟨gn, A, none⟩ (.string s)).cell? ⟨gn, B, none⟩ = some (.string (Gfm.upd F A s B)) := by rw [ownA.cellAt B (by omega)]; exact textVals_at _ hB); (have hfB : (w3.setCell ⟨gn, A, none⟩ (.string s)).frozen? ⟨gn, B, none⟩ = false := ownA.frozenAt B); (have ownB := (ownA.stored B (.string t)).1); rw [textVals_set, HO.out] at ownB; (have OWNB : Hid (((w3.setCell ⟨gn, A, none⟩ (.string s)).setCell ⟨gn, B, none⟩ (.string t)).ownsRow w2.heap.size 9 1 (.slice (some ⟨gn, 0, none⟩) N cn) N (textVals N O)) := ownB); (have BV : Hid (Below w2.heap.size w2 ((w3.setCell ⟨gn, A, none⟩ (.string s)).setCell ⟨gn, B, none⟩ (.string t))) := (B3.out.setCell (p := ⟨gn, A, none⟩) hlow _).setCell (p := ⟨gn, B, none⟩) hlow _); (have ES : Hid (((w3.setCell ⟨gn, A, none⟩ (.string s)).setCell ⟨gn, B, none⟩ (.string t)).heap.size = w3.heap.size) := by show _ = _; simp); clear own2 ownA ownB grow2 lies2 t1 hlow)
    generalize ev : (w3.setCell ⟨gn, A, none⟩ (.string s)).setCell ⟨gn, B, none⟩ (.string t) = v at *
    obtain ⟨_, _, eo, ro, hcn, _⟩ := RowS.of_owns OWNB.out
    cases eo
    have bv := BV.out
    have rr := RR.out.below bv
    have bw := below2 B2.out bv
    clear hcA hfA hcB hfB ev
    have rl : RowI .i64 (v.alloc (.cells #[.int .i64 (A : Int), .int .i64 (B : Int)] 3)) (some ⟨v.heap.size, 0, none⟩) 2 L1 := by
      have h := RowI.new .i64 v [(A : Int), (B : Int)] #[.int .i64 (A : Int), .int .i64 (B : Int)] 3 rfl
      rw [HL1.out]; exact h
    have alv : Below v.heap.size v (v.alloc (.cells #[.int .i64 (A : Int), .int .i64 (B : Int)] 3)) := (Below.refl _ v).alloc (Nat.le_refl _) _
    have h3 := Fill_says N F (by omega) FFH.out (some ⟨gR, 0, none⟩) cR hcR 2 L1 (by omega) (some ⟨v.heap.size, 0, none⟩) 2 (Nat.le_refl _) _ (rr.below alv) rl
    unfold FillSays at h3
    rw [Y1.out, Rf.kF_ok, ES.out] at h3
    clear rl
    refine h3.mono ?_
    rintro e w4 ⟨⟨g4, c4, rfl, r4, hc4⟩, b4⟩
    have b4 : Below v.heap.size v w4 := alv.trans (b4.mono alv.size)
    have ro4 := ro.below b4
    have bw := below2 bw b4
    have rl : RowI .i64 (w4.alloc (.cells #[.int .i64 (B : Int), .int .i64 (A : Int)] 3)) (some ⟨w4.heap.size, 0, none⟩) 2 L2 := by
      have h := RowI.new .i64 w4 [(B : Int), (A : Int)] #[.int .i64 (B : Int), .int .i64 (A : Int)] 3 rfl
      rw [HL2.out]; exact h
    have al4 : Below w4.heap.size w4 (w4.alloc (.cells #[.int .i64 (B : Int), .int .i64 (A : Int)] 3)) := (Below.refl _ w4).alloc (Nat.le_refl _) _
    have h5 := Fill_says N O (by omega) OSH.out (some ⟨gn, 0, none⟩) cn hcn 2 L2 (by omega) (some ⟨w4.heap.size, 0, none⟩) 2 (Nat.le_refl _) _ (ro4.below al4) rl
    unfold FillSays at h5
    rw [Y2.out, Rf.kF_ok] at h5
    clear rl h3
    go_wp2_with fail
    refine h5.mono ?_
    rintro e w5 ⟨⟨g5, c5, rfl, r5, hc5⟩, b5⟩
    have b5 : Below w4.heap.size w4 w5 := al4.trans (b5.mono al4.size)
    have r4 := r4.below b5
    have bw := below2 bw b5
    have hS := Same_any N N (Rf.fillF N F 2 L1) (Rf.fillF N O 2 L2) (by omega) (by omega) g4 g5 c4 c5 w5 r4 r5
    rw [SAME.out] at hS
    clear h5 SAME
    go_wp2_with fail
    refine hS.mono ?_
    rintro e w6 ⟨rfl, b6⟩
    have BE : Hid (Below w.heap.size w w6) := below2 bw b6
    clear bw b6 b5 b4
    go_wp2
    go_ret
    exact ⟨rfl, BE.out⟩

theorem walk (w : World) (a0 : Option Addr) (len0 cap0 : Nat) (z0 : List ByteArray) (w0 : IsStrs w a0 len0 cap0 z0) (a1 : Int) (w1 : (Lit.int .u8 a1).wf = true) (a2 : Int) (w2 : (Lit.int .u8 a2).wf = true) (a3 : Int) (w3 : (Lit.int .u8 a3).wf = true) (a4 : ByteArray) (_w4 : a4.size ≤ maxLen) (a5 : ByteArray) (_w5 : a5.size ≤ maxLen) :
    Calls Try.prog 7 #[.slice a0 len0 cap0, .int .u8 a1, .int .u8 a2, .int .u8 a3, .string a4, .string a5] w fun e w' => e = .returned (.bool true) ∧ Below w.heap.size w w' := by
  obtain ⟨f, hm, _, hsz, hr⟩ := w0.open6
  have b1 := bounds_u8 w1
  have b2 := bounds_u8 w2
  have b3 := bounds_u8 w3
  obtain ⟨k, rfl⟩ := Int.eq_ofNat_of_zero_le b1.1
  obtain ⟨a, rfl⟩ := Int.eq_ofNat_of_zero_le b2.1
  obtain ⟨b, rfl⟩ := Int.eq_ofNat_of_zero_le b3.1
  obtain ⟨N, hN⟩ : ∃ N, 4 + k % 7 = N := ⟨_, rfl⟩
  have hN0 : 4 ≤ N := by omega
  have ma := Nat.mod_lt a (show 0 < N by omega)
  have mb := Nat.mod_lt b (show 0 < N by omega)
  by_cases h : a % N = b % N
  · have mc := Nat.mod_lt (a % N + 1) (show 0 < N by omega)
    have hne : a % N ≠ (a % N + 1) % N := by
      by_cases c : a % N + 1 < N
      · rw [Nat.mod_eq_of_lt c]; omega
      · rw [show a % N + 1 = N from by omega, Nat.mod_self]; omega
    exact core_met w a0 len0 cap0 f hr hm hsz k a b a4 a5 N (a % N) ((a % N + 1) % N) (by omega) hN (by omega) (by omega) ma mc hne rfl ⟨h.symm, rfl⟩
  · exact core_apart w a0 len0 cap0 f hr hm hsz k a b a4 a5 N (a % N) (b % N) (by omega) hN (by omega) (by omega) ma mb h rfl rfl

theorem own : ownKnob Try.prog.godebug = none := by kernel_rfl
theorem laidOut : laidOutB Try.prog = true := by kernel_rfl
set_option linter.unusedVariables false in
set_option maxRecDepth 100000 in
theorem lifted (os : Os) (started : os.Started) (H : Type) (enc : TypeId × Value → H) :
    ReturnsInHanded {} Try.checked os 7 .any (Rows.refillOrderSpec.pre6 enc Try.prog Try.f7 Rows.refillOrderRow.domain false) (Rows.refillOrderSpec.post enc Try.prog Try.f7 false true false false) := by
  refine returnsInHanded_of_change (C := Try.checked) own started (by kernel_rfl) Try.func7
    (ChangeSpec.witness6 (enc := enc) (C := Try.checked) false ⟨#[], #[.slice none 0 0, .int .u8 0, .int .u8 0, .int .u8 0, .string ByteArray.empty, .string ByteArray.empty], []⟩ 8 (by kernel_rfl) (by kernel_rfl) (by kernel_rfl) (by kernel_rfl)) ?_
  intro W base args ds gs before hval0 hW hcnd _
  have hval : ∀ (j : Nat) t v, Try.f7.params[j]? = some t → args[j]? = some v → Value.okWide Try.prog W .any base t v := hval0
  have hW' := hW
  obtain ⟨p, q, hA0, hV, rfl, hfz, hnd⟩ := hW
  have hA : DataW.TrodAll enc Try.prog W 0 (fun _ => true) true Try.f7.params.toList args.toList ds p := hA0
  rw [Try.params7] at hA hval
  obtain ⟨v0, vs0, d0, ds0, p0, q0, hargs, rfl, rfl, h0, r0⟩ := trodAll_cons hA
  obtain ⟨v1, vs1, d1, ds1, p1, q1, rfl, rfl, rfl, h1, r1⟩ := trodAll_cons r0
  obtain ⟨v2, vs2, d2, ds2, p2, q2, rfl, rfl, rfl, h2, r2⟩ := trodAll_cons r1
  obtain ⟨v3, vs3, d3, ds3, p3, q3, rfl, rfl, rfl, h3, r3⟩ := trodAll_cons r2
  obtain ⟨v4, vs4, d4, ds4, p4, q4, rfl, rfl, rfl, h4, r4⟩ := trodAll_cons r3
  obtain ⟨v5, vs5, d5, ds5, p5, q5, rfl, rfl, rfl, h5, r5⟩ := trodAll_cons r4
  obtain ⟨rfl, rfl, rfl⟩ := trodAll_nil r5
  obtain rfl : args = #[v0, v1, v2, v3, v4, v5] := by cases args; simp_all
  obtain ⟨rfl, rfl⟩ := trodVars_none hV
  obtain ⟨a0, len0, cap0, rfl⟩ := okWide_slice Try.underlying22 (hval 0 22 v0 rfl rfl)
  have k0 := h0
  have lt0 : ∀ x ∈ p0, x.block < W.heap.size := by obtain ⟨m, hm⟩ := k0; exact DataW.trod_lt m _ _ _ hm
  obtain ⟨z0, w0⟩ : ∃ zs, IsStrs W a0 len0 cap0 zs := by
    obtain ⟨fuel, hf⟩ := h0
    rcases open_strings Try.underlying22 Try.underlying9 (by kernel_rfl) hf with ⟨hcs, _⟩ | ⟨x, l, c, zs, hcs, _, hl, hm, hz, _, hcell, hwz⟩
    · simp [Value.cells] at hcs
      obtain ⟨rfl, rfl, rfl⟩ := hcs
      exact ⟨[], .inl ⟨rfl, rfl, rfl, rfl⟩⟩
    · simp [Value.cells] at hcs
      obtain ⟨rfl, rfl, rfl⟩ := hcs
      exact ⟨zs, .inr ⟨_, rfl, hl, hm, by simpa using hz, hcell, hwz⟩⟩
  obtain ⟨a1, rfl, rfl, rfl, w1⟩ := open_int Try.underlying5 (hval 1 5 v1 rfl rfl) h1
  obtain ⟨a2, rfl, rfl, rfl, w2⟩ := open_int Try.underlying5 (hval 2 5 v2 rfl rfl) h2
  obtain ⟨a3, rfl, rfl, rfl, w3⟩ := open_int Try.underlying5 (hval 3 5 v3 rfl rfl) h3
  obtain ⟨a4, rfl, rfl, rfl, w4⟩ := open_string Try.underlying9 (hval 4 9 v4 rfl rfl) h4
  obtain ⟨a5, rfl, rfl, rfl, w5⟩ := open_string Try.underlying9 (hval 5 9 v5 rfl rfl) h5
  clear hA0 hval0
  simp only [List.append_nil] at hW'
  refine (walk W a0 len0 cap0 z0 w0 a1 w1 a2 w2 a3 w3 a4 w4 a5 w5).mono fun e W' ⟨he, hg⟩ => ?_
  subst he
  exact ⟨_, rfl, _, _, _, [], _, [], hW', trodAll_mk1 (shut_bool Try.underlying4 _), (trodAll_cons_mk (Below.trod laidOut (by kernel_rfl) (of_decide_eq_true (by kernel_rfl)) k0 hg lt0) (trodAll_cons_mk (shut_int Try.underlying5 w1) (trodAll_cons_mk (shut_int Try.underlying5 w2) (trodAll_cons_mk (shut_int Try.underlying5 w3) (trodAll_cons_mk (shut_string Try.underlying9 w4) (trodAll_cons_mk (shut_string Try.underlying9 w5) trodAll_mk0)))))), rfl, hg.frame _, fun h => by cases h⟩
/-- For every input the law returns true, and each argument reads as it did. -/
theorem proved : Rows.RefillOrderSaid :=
  OpenClaim.holds_of_wide 7 Try.f7 rfl rfl rfl rfl rfl rfl rfl ⟨rfl, rfl, rfl, rfl, rfl⟩ rfl rfl rfl rfl rfl (by kernel_rfl) Try.func7 (by kernel_rfl)
    (of_decide_eq_true (by kernel_rfl)) (by unfold Func.isWrapper; first | (rw [if_pos (by decide +kernel)]; kernel_rfl) | (rw [if_neg (by decide +kernel)]; exact ⟨rfl, rfl⟩))
    (fun os started H enc _ => lifted os started H enc)
end Go.Proofs.Ytjephdeolifbpaa.refillOrder
