/- For all columns, three numbers and a text the law RefillTwo returns true: whatever two columns are lost of what was made, whatever stands there instead, they are found again (up to the law's own bound on lengths; beyond it the law says nothing). No condition. -/
import Derived.Test.YtjephdeolifbpaaRf06Square
import Derived.Test.YtjephdeolifbpaaRef05Sum
import Derived.Test.YtjephdeolifbpaaRfRows
import Derived.Test.YtjephdeolifbpaaRef06Same
import Derived.Test.YtjephdeolifbpaaSynOne
import Derived.Test.YtjephdeolifbpaaKitJoin
import Derived.Test.YtjephdeolifbpaaKitDet
import Derived.ProofKit
import Derived.OpenShut
import Derived.ShutString
import Derived.ChangeOld
import Derived.Below
namespace Go.Proofs.Ytjephdeolifbpaa.refillTwo
open Go.ChangeShapes Go.WideShapes Go.ChangeAt Go.RowKit
open Go.ChangeMaps (open_string shut_string)

set_option maxRecDepth 100000 in
set_option maxHeartbeats 8000000 in
theorem core_apart (w : World) (a0 : Option Addr) (n0 cap0 : Nat) (f : Nat → ByteArray) (hr0 : RowS w a0 n0 f) (hm0 : n0 ≤ maxLen) (hsz0 : ∀ j, (f j).size ≤ maxLen) (k a b : Nat) (s : ByteArray) (N A B : Nat) (hk : k < 256) (hNk : 4 + k % 7 = N) (ha256 : a < 256) (hb256 : b < 256) (hA : A < N) (hB : B < N) (hAB : A ≠ B) (ha : a % N = A) (hb : b % N = B) :
    Calls Try.prog 4 #[.slice a0 n0 cap0, .int .u8 k, .int .u8 a, .int .u8 b, .string s] w fun e w' => e = .returned (.bool true) ∧ Below w.heap.size w w' := by
  have HY := heavy6_any w a0 n0 cap0 f hr0 hsz0 hm0 none 0 0 (by decide)
  obtain ⟨r, hr⟩ : ∃ r : Nat, r = k % 7 := ⟨_, rfl⟩
  have hr7 : r < 7 := by omega
  have hrm : (k : Int).tmod 7 = (r : Int) := by rw [hr, Int.tmod_eq_emod_of_nonneg (by omega)]; omega
  have m1 : (a : Int).tmod (N : Int) = (A : Int) := by rw [Int.tmod_eq_emod_of_nonneg (by omega), ← ha]; omega
  have m2 : (b : Int).tmod (N : Int) = (B : Int) := by rw [Int.tmod_eq_emod_of_nonneg (by omega), ← hb]; omega
  have m3 : ((B : Int) != (A : Int)) = true := by rw [bne_iff_ne]; omega
  have e1 : (4 : Int) + (r : Int) = (N : Int) := by omega
  have hN10 : N ≤ 10 := by omega
  have hN4 : 4 ≤ N := by omega
  clear hsz0 hm0 hr hNk ha hb
  go_enter Try.func4, Try.ntmps4
  go_wp2_with fail
  refine HY.mono ?_
  rintro e w' ⟨hw, h⟩
  subst w'
  clear HY
  rcases h with rfl | ⟨rfl, hL⟩
  · go_wp2_with fail
    refine (shown6_any _).mono ?_
    rintro e w1 ⟨rfl, b1⟩
    go_wp2
    go_ret
    exact ⟨rfl, b1⟩
  · have hn20 := hL.1
    have hF0 := hL.fits
    obtain ⟨m, HN⟩ : ∃ m, Hid (N = m + 2) := ⟨N - 2, by show _ = _; omega⟩
    have m2' : 2 ≤ m := by have := HN.out; omega
    have m8 : m ≤ 8 := by have := HN.out; omega
    have e2 : (m : Int) + 2 = (N : Int) := by have := HN.out; omega
    have e3 : (2 : Int) + (r : Int) = (m : Int) := by have := HN.out; omega
    clear hL e1
    by_cases hs : (s.size : Int) ≤ 100
    rotate_left
    · have hs1 : (100 : Int) < (s.size : Int) := by omega
      clear hs
      go_wp2_with fail
      refine (shown6_any _).mono ?_
      rintro e w1 ⟨rfl, b1⟩
      go_wp2
      go_ret
      exact ⟨rfl, b1⟩
    have hs1 : ¬ (100 : Int) < (s.size : Int) := by omega
    go_wp2_with fail
    refine (shown6_any _).mono ?_
    rintro e w1 ⟨rfl, b1⟩
    have hQ := square_any n0 f (by omega) a0 cap0 m (by omega) hF0 w1 (hr0.below b1)
    go_wp2_with fail
    refine hQ.mono ?_
    rintro e w2 ⟨⟨gR, cR, rfl, own⟩, b2⟩
    obtain ⟨_, _, er, rr, hcR, _⟩ := RowS.of_owns own
    cases er
    have b2 := below2 b1 b2
    obtain ⟨F, hFe⟩ : ∃ F, sqF n0 f = F := ⟨_, rfl⟩
    have FS : ∀ i, (F i).size = 12 := fun i => by rw [← hFe]; exact sqF_size n0 f i
    have FF : ∀ q, Fits 1048576 q F := fun q i _ => by rw [FS]; decide
    rw [hFe] at rr
    clear own hQ hFe hr0 hF0
    have z0 : Rf.Lost m 0 (fun _ => 0) := Rf.Lost.zero (by omega) _
    have y5 : Rf.mayF (m + 2) (ownRow m F) 0 (fun _ => 0) = 0 := Rf.mayF_fine z0 m2' m8 (show 12 ≤ 4096 by decide) fun i hi _ => Rf.own_size (s := 12) (by omega) (fun i _ => FS i) hi
    have h5 := Make_says m F (by omega) (FF m) (some ⟨gR, 0, none⟩) cR hcR w2 rr
    unfold MakeSays at h5
    rw [y5, Rf.kF_ok, ← HN.out] at h5
    have RG := Rf.own_bytes m F
    have RS : ∀ i, i < N → (ownRow m F i).size = 12 := fun i hi => Rf.own_size (s := 12) (by omega) (fun i _ => FS i) (by have := HN.out; omega)
    obtain ⟨R, hR⟩ : ∃ R, ownRow m F = R := ⟨_, rfl⟩
    have GOODR : Hid (goodF m R = true) := by show _ = _; rw [← hR]; exact Rf.good_bytes RG
    rw [hR] at h5 RG RS
    clear y5 hR FF FS rr z0
    go_wp2_with fail
    refine h5.mono ?_
    rintro e w3 ⟨⟨g3, c3, rfl, r3, hc3⟩, b3⟩
    have b3 := below2 b2 b3
    have hGood := refGood_some m R (by omega) (fun i hi => by rw [RS i (by have := HN.out; omega)]; decide) g3 c3 (by have := HN.out; omega) w3 (by rw [← HN.out]; exact r3)
    rw [GOODR.out, ← HN.out] at hGood
    clear h5
    go_wp2_with fail
    refine hGood.mono ?_
    rintro e w4 ⟨rfl, b4⟩
    have r4 := r3.below b4
    have b4 := below2 b3 b4
    clear hGood GOODR r3 b1 b2 b3
    obtain ⟨O, hO⟩ : ∃ O, Gfm.upd (Gfm.upd R A s) B s = O := ⟨_, rfl⟩
    have OF : ∀ i, i ≠ A → i ≠ B → O i = R i := fun i h1 h2 => by rw [← hO, Gfm.upd_other _ _ h2, Gfm.upd_other _ _ h1]
    have OS : Fits 1048576 N O := fun i hi => by
      by_cases h2 : i = B
      · rw [← hO, h2, Gfm.upd_same]; omega
      · by_cases h1 : i = A
        · rw [← hO, Gfm.upd_other _ _ h2, h1, Gfm.upd_same]; omega
        · rw [OF i h1 h2, RS i hi]; decide
    obtain ⟨L1, hL1⟩ : ∃ L1 : Nat → Int, L1 = fun i => [(A : Int), (B : Int)].getD i 0 := ⟨_, rfl⟩
    have l0 : L1 0 = (A : Int) := by rw [hL1]; rfl
    have l1 : L1 1 = (B : Int) := by rw [hL1]; rfl
    have z1 : Rf.Lost m 2 L1 := Rf.Lost.pair (by omega) (by have := HN.out; omega) (by have := HN.out; omega) hAB L1 l0 l1
    have OK1 : ∀ i : Nat, Rf.hasF 2 L1 (i : Int) = false → O i = R i := fun i hh => OF i ((Rf.has_pair l0 l1).1 hh).1 ((Rf.has_pair l0 l1).1 hh).2
    have y1 : Rf.mayF N O 2 L1 = 0 := by rw [HN.out]; exact Rf.mayF_fine z1 m2' m8 (show 12 ≤ 4096 by decide) fun i hi hh => by rw [OK1 i hh]; exact RS i (by have := HN.out; omega)
    have SAME : Hid (Rf.sameB N (Rf.fillF N O 2 L1) N R = true) := by
      show _ = _
      rw [HN.out]
      exact Rf.sameB_yes (Rf.fillF_good z1 (s := 12) (by omega) (fun i hi => RS i (by have := HN.out; omega)) (fun i _ hh => OK1 i hh) RG)
    have R4 : Hid (RowS w4 g3 N R) := r4
    have B4 : Hid (Below w.heap.size w w4) := b4
    have e0 : 0 + N = N := by omega
    have HJ : Hid (textVals N (joinF 0 R R) = textVals N R) := textVals_congr fun j _ => by unfold joinF; rw [if_neg (by omega), Nat.sub_zero]
    have Y1 : Hid (Rf.mayF N O 2 L1 = 0) := y1
    have OSH : Hid (Fits 1048576 N O) := OS
    have HO : Hid (Gfm.upd (Gfm.upd R A s) B s = O) := hO
    have HL1 : Hid (L1 = fun i => [(A : Int), (B : Int)].getD i 0) := hL1
    have hsz1 : (w4.alloc (.cells #[.int .i64 (A : Int)] 3)).heap.size = w4.heap.size + 1 := by simp
    have ALA : Hid (Below w4.heap.size w4 (w4.alloc (.cells #[.int .i64 (A : Int)] 3))) := (Below.refl _ w4).alloc (Nat.le_refl _) _
    obtain ⟨i0, hi, hz0, hz1, hz2⟩ := info_parts (show (Try.prog.info? 3).map (fun i => (i.zero, i.size, i.bytes)) = some (some (.int .i64 0), 1, 8) by kernel_rfl)
    have OWNL : Hid ((w4.alloc (.cells #[.int .i64 (A : Int)] 3)).ownsRow w4.heap.size 3 1 (.slice (some ⟨w4.heap.size, 0, none⟩) 1 1) 1 [.int .i64 (A : Int)]) := World.ownsRow_lit (base := w4.heap.size) (e := 3) (size := 1) w4 #[.int .i64 (A : Int)] 1 (Nat.le_refl _) (by decide) rfl
    have CELL : Hid (∀ j u, [Value.int .i64 (B : Int)][j]? = some u → ((w4.alloc (.cells #[.int .i64 (A : Int)] 3)).alloc (.cells #[.int .i64 (B : Int)] 3)).cell? ((⟨w4.heap.size + 1, 0, none⟩ : Addr).add j) = some u) := by
      have := cell_one_new (w4.alloc (.cells #[.int .i64 (A : Int)] 3)) (.int .i64 (B : Int)) 3
      rw [hsz1] at this
      exact this
    have t0 : True := trivial
    clear r4 b4 y1 OS OF OK1 hO hL1 z1 l0 l1 RS RG hsz1
    go_wp2_with (first | (at_builtin; have _t := t0; go_loud (refine wpList_append_own _ rfl _ _ 23 rfl w4.heap.size 3 i0 (.int .i64 0) 1 8 Try.underlying23 hi hz0 hz1 hz2 rfl (by decide) (.slice (some ⟨w4.heap.size, 0, none⟩) 1 1) 1 [.int .i64 (A : Int)] rfl (OWNL.out.alloc _) ⟨w4.heap.size + 1, 0, none⟩ 1 1 [.int .i64 (B : Int)] rfl rfl CELL.out (by simp [Value.oneCell']) (by decide) (by decide) (by simp; omega) ?_; intro v' w5 hown5 hgrow5 _; (have hcap5 : ∀ a' cap', v' = .slice a' 2 cap' → 2 ≤ cap' := fun a' cap' he => by rcases hown5.2 with ⟨h9, _⟩ | ⟨g9, cap9, cur9, h9, _, _, hnc, _⟩ <;> rw [he] at h9 <;> cases h9 <;> assumption); obtain ⟨a5, cap5, rfl, hI5, _⟩ := RowI.of_owns (k := .i64) (l := [(A : Int), (B : Int)]) hown5; (have hcap6 := hcap5 a5 cap5 rfl); (have RL : Hid (RowI .i64 w5 a5 2 L1) := by show RowI _ _ _ _ _; rw [HL1.out]; exact hI5); (have B5 : Hid (Below w4.heap.size w4 w5) := (((Below.refl _ w4).alloc (Nat.le_refl _) _).alloc (by simp) _).grown hgrow5 (by simp <;> omega) (fun k hk => by cases hk; exact Nat.le_refl _)); (have OWN1 : Hid ((w5.alloc (.cells #[] 9)).ownsRow w5.heap.size 9 1 (.slice (some ⟨w5.heap.size, 0, none⟩) 0 0) 0 (textVals 0 R)) := World.ownsRow_made w5 #[] 0 (Nat.le_refl _) (by decide) rfl); (have RA : Hid (RowS (w5.alloc (.cells #[] 9)) g3 N R) := R4.out.below (B5.out.trans (((Below.refl _ w5).alloc (Nat.le_refl _) _).mono B5.out.size))); (have t1 : True := trivial); clear hown5 hgrow5 hI5 hcap5 t0)) | (at_builtin; have _t := t1; go_loud (refine wpList_append_texts _ rfl _ _ rfl w5.heap.size w5.heap.size 0 0 R rfl OWN1.out g3 N c3 R rfl RA.out (by omega) (by simp) ?_; intro gn cn w6 own2 grow2 lies2; rw [e0, HJ.out] at own2; (have B6 : Hid (Below w5.heap.size w5 w6) := below_joined ((Below.refl _ w5).alloc (by simp) _) (by simp) OWN1.out grow2); (have hlow := owns_low own2); (have hcA : w6.cell? ⟨gn, A, none⟩ = some (.string (R A)) := by rw [own2.cellAt A (by omega)]; exact textVals_at R hA); (have hfA : w6.frozen? ⟨gn, A, none⟩ = false := own2.frozenAt A); (have ownA := (own2.stored A (.string s)).1); rw [textVals_set] at ownA; (have hcB : (w6.setCell ⟨gn, A, none⟩ (.string s)).cell? ⟨gn, B, none⟩ = some (.string (Gfm.upd R A s B)) := by rw [ownA.cellAt B (by omega)]; exact textVals_at _ hB); (have hfB : (w6.setCell ⟨gn, A, none⟩ (.string s)).frozen? ⟨gn, B, none⟩ = false := ownA.frozenAt B); (have ownB := (ownA.stored B (.string s)).1); rw [textVals_set, HO.out] at ownB; (have OWNB : Hid (((w6.setCell ⟨gn, A, none⟩ (.string s)).setCell ⟨gn, B, none⟩ (.string s)).ownsRow w5.heap.size 9 1 (.slice (some ⟨gn, 0, none⟩) N cn) N (textVals N O)) := ownB); (have BV : Hid (Below w5.heap.size w5 ((w6.setCell ⟨gn, A, none⟩ (.string s)).setCell ⟨gn, B, none⟩ (.string s))) := (B6.out.setCell (p := ⟨gn, A, none⟩) hlow _).setCell (p := ⟨gn, B, none⟩) hlow _); clear own2 ownA ownB grow2 lies2 t1 hlow)))
    generalize ev : (w6.setCell ⟨gn, A, none⟩ (.string s)).setCell ⟨gn, B, none⟩ (.string s) = v at *
    obtain ⟨_, _, eo, ro, hcn, _⟩ := RowS.of_owns OWNB.out
    cases eo
    have bv := BV.out
    have rl := RL.out.below bv
    have b4v := B5.out.trans (bv.mono B5.out.size)
    have r4v := R4.out.below b4v
    have bw := below2 B4.out b4v
    clear hcA hfA hcB hfB ev
    have h3 := Fill_says N O (by omega) OSH.out (some ⟨gn, 0, none⟩) cn hcn 2 L1 (by decide) a5 cap5 hcap6 v ro rl
    unfold FillSays at h3
    rw [Y1.out, Rf.kF_ok] at h3
    clear rl
    refine h3.mono ?_
    rintro e w7 ⟨⟨g7, c7, rfl, r7, hc7⟩, b7⟩
    have r47 := r4v.below b7
    have bw := below2 bw b7
    have hS := Same_any N N (Rf.fillF N O 2 L1) R (by omega) (by omega) g7 g3 c7 c3 w7 r7 r47
    rw [SAME.out] at hS
    clear h3 SAME
    go_wp2_with fail
    refine hS.mono ?_
    rintro e w8 ⟨rfl, b8⟩
    have BE : Hid (Below w.heap.size w w8) := below2 bw b8
    clear bw b8 b7
    go_wp2
    go_ret
    exact ⟨rfl, BE.out⟩

set_option maxRecDepth 100000 in
set_option maxHeartbeats 8000000 in
theorem core_met (w : World) (a0 : Option Addr) (n0 cap0 : Nat) (f : Nat → ByteArray) (hr0 : RowS w a0 n0 f) (hm0 : n0 ≤ maxLen) (hsz0 : ∀ j, (f j).size ≤ maxLen) (k a b : Nat) (s : ByteArray) (N A : Nat) (hk : k < 256) (hNk : 4 + k % 7 = N) (ha256 : a < 256) (hb256 : b < 256) (hA : A < N) (ha : a % N = A) (hb : b % N = A) :
    Calls Try.prog 4 #[.slice a0 n0 cap0, .int .u8 k, .int .u8 a, .int .u8 b, .string s] w fun e w' => e = .returned (.bool true) ∧ Below w.heap.size w w' := by
  have HY := heavy6_any w a0 n0 cap0 f hr0 hsz0 hm0 none 0 0 (by decide)
  obtain ⟨r, hr⟩ : ∃ r : Nat, r = k % 7 := ⟨_, rfl⟩
  have hr7 : r < 7 := by omega
  have hrm : (k : Int).tmod 7 = (r : Int) := by rw [hr, Int.tmod_eq_emod_of_nonneg (by omega)]; omega
  have m1 : (a : Int).tmod (N : Int) = (A : Int) := by rw [Int.tmod_eq_emod_of_nonneg (by omega), ← ha]; omega
  have m2 : (b : Int).tmod (N : Int) = (A : Int) := by rw [Int.tmod_eq_emod_of_nonneg (by omega), ← hb]; omega
  have e1 : (4 : Int) + (r : Int) = (N : Int) := by omega
  have hN10 : N ≤ 10 := by omega
  have hN4 : 4 ≤ N := by omega
  clear hsz0 hm0 hr hNk ha hb
  go_enter Try.func4, Try.ntmps4
  go_wp2_with fail
  refine HY.mono ?_
  rintro e w' ⟨hw, h⟩
  subst w'
  clear HY
  rcases h with rfl | ⟨rfl, hL⟩
  · go_wp2_with fail
    refine (shown6_any _).mono ?_
    rintro e w1 ⟨rfl, b1⟩
    go_wp2
    go_ret
    exact ⟨rfl, b1⟩
  · have hn20 := hL.1
    have hF0 := hL.fits
    obtain ⟨m, HN⟩ : ∃ m, Hid (N = m + 2) := ⟨N - 2, by show _ = _; omega⟩
    have m2' : 2 ≤ m := by have := HN.out; omega
    have m8 : m ≤ 8 := by have := HN.out; omega
    have e2 : (m : Int) + 2 = (N : Int) := by have := HN.out; omega
    have e3 : (2 : Int) + (r : Int) = (m : Int) := by have := HN.out; omega
    clear hL e1
    by_cases hs : (s.size : Int) ≤ 100
    rotate_left
    · have hs1 : (100 : Int) < (s.size : Int) := by omega
      clear hs
      go_wp2_with fail
      refine (shown6_any _).mono ?_
      rintro e w1 ⟨rfl, b1⟩
      go_wp2
      go_ret
      exact ⟨rfl, b1⟩
    have hs1 : ¬ (100 : Int) < (s.size : Int) := by omega
    go_wp2_with fail
    refine (shown6_any _).mono ?_
    rintro e w1 ⟨rfl, b1⟩
    have hQ := square_any n0 f (by omega) a0 cap0 m (by omega) hF0 w1 (hr0.below b1)
    go_wp2_with fail
    refine hQ.mono ?_
    rintro e w2 ⟨⟨gR, cR, rfl, own⟩, b2⟩
    obtain ⟨_, _, er, rr, hcR, _⟩ := RowS.of_owns own
    cases er
    have b2 := below2 b1 b2
    obtain ⟨F, hFe⟩ : ∃ F, sqF n0 f = F := ⟨_, rfl⟩
    have FS : ∀ i, (F i).size = 12 := fun i => by rw [← hFe]; exact sqF_size n0 f i
    have FF : ∀ q, Fits 1048576 q F := fun q i _ => by rw [FS]; decide
    rw [hFe] at rr
    clear own hQ hFe hr0 hF0
    have z0 : Rf.Lost m 0 (fun _ => 0) := Rf.Lost.zero (by omega) _
    have y5 : Rf.mayF (m + 2) (ownRow m F) 0 (fun _ => 0) = 0 := Rf.mayF_fine z0 m2' m8 (show 12 ≤ 4096 by decide) fun i hi _ => Rf.own_size (s := 12) (by omega) (fun i _ => FS i) hi
    have h5 := Make_says m F (by omega) (FF m) (some ⟨gR, 0, none⟩) cR hcR w2 rr
    unfold MakeSays at h5
    rw [y5, Rf.kF_ok, ← HN.out] at h5
    have RG := Rf.own_bytes m F
    have RS : ∀ i, i < N → (ownRow m F i).size = 12 := fun i hi => Rf.own_size (s := 12) (by omega) (fun i _ => FS i) (by have := HN.out; omega)
    obtain ⟨R, hR⟩ : ∃ R, ownRow m F = R := ⟨_, rfl⟩
    have GOODR : Hid (goodF m R = true) := by show _ = _; rw [← hR]; exact Rf.good_bytes RG
    rw [hR] at h5 RG RS
    clear y5 hR FF FS rr z0
    go_wp2_with fail
    refine h5.mono ?_
    rintro e w3 ⟨⟨g3, c3, rfl, r3, hc3⟩, b3⟩
    have b3 := below2 b2 b3
    have hGood := refGood_some m R (by omega) (fun i hi => by rw [RS i (by have := HN.out; omega)]; decide) g3 c3 (by have := HN.out; omega) w3 (by rw [← HN.out]; exact r3)
    rw [GOODR.out, ← HN.out] at hGood
    clear h5
    go_wp2_with fail
    refine hGood.mono ?_
    rintro e w4 ⟨rfl, b4⟩
    have r4 := r3.below b4
    have b4 := below2 b3 b4
    clear hGood GOODR r3 b1 b2 b3
    obtain ⟨O, hO⟩ : ∃ O, Gfm.upd (Gfm.upd R A s) A s = O := ⟨_, rfl⟩
    have OF : ∀ i, i ≠ A → i ≠ A → O i = R i := fun i h1 h2 => by rw [← hO, Gfm.upd_other _ _ h2, Gfm.upd_other _ _ h1]
    have OS : Fits 1048576 N O := fun i hi => by
      by_cases h2 : i = A
      · rw [← hO, h2, Gfm.upd_same]; omega
      · by_cases h1 : i = A
        · rw [← hO, Gfm.upd_other _ _ h2, h1, Gfm.upd_same]; omega
        · rw [OF i h1 h2, RS i hi]; decide
    obtain ⟨L1, hL1⟩ : ∃ L1 : Nat → Int, L1 = fun i => [(A : Int)].getD i 0 := ⟨_, rfl⟩
    have l0 : L1 0 = (A : Int) := by rw [hL1]; rfl
    have l1 : True := trivial
    have z1 : Rf.Lost m 1 L1 := Rf.Lost.one (by omega) (by have := HN.out; omega) L1 l0
    have OK1 : ∀ i : Nat, Rf.hasF 1 L1 (i : Int) = false → O i = R i := fun i hh => by
      have hne : i ≠ A := fun hi => by rw [Rf.hasF_succ, Rf.hasF_zero, l0, hi] at hh; simp at hh
      exact OF i hne hne
    have y1 : Rf.mayF N O 1 L1 = 0 := by rw [HN.out]; exact Rf.mayF_fine z1 m2' m8 (show 12 ≤ 4096 by decide) fun i hi hh => by rw [OK1 i hh]; exact RS i (by have := HN.out; omega)
    have SAME : Hid (Rf.sameB N (Rf.fillF N O 1 L1) N R = true) := by
      show _ = _
      rw [HN.out]
      exact Rf.sameB_yes (Rf.fillF_good z1 (s := 12) (by omega) (fun i hi => RS i (by have := HN.out; omega)) (fun i _ hh => OK1 i hh) RG)
    have R4 : Hid (RowS w4 g3 N R) := r4
    have B4 : Hid (Below w.heap.size w w4) := b4
    have e0 : 0 + N = N := by omega
    have HJ : Hid (textVals N (joinF 0 R R) = textVals N R) := textVals_congr fun j _ => by unfold joinF; rw [if_neg (by omega), Nat.sub_zero]
    have Y1 : Hid (Rf.mayF N O 1 L1 = 0) := y1
    have OSH : Hid (Fits 1048576 N O) := OS
    have HO : Hid (Gfm.upd (Gfm.upd R A s) A s = O) := hO
    have HL1 : Hid (L1 = fun i => [(A : Int)].getD i 0) := hL1
    have hsz1 : (w4.alloc (.cells #[.int .i64 (A : Int)] 3)).heap.size = w4.heap.size + 1 := by simp
    have ALA : Hid (Below w4.heap.size w4 (w4.alloc (.cells #[.int .i64 (A : Int)] 3))) := (Below.refl _ w4).alloc (Nat.le_refl _) _
    have RL : Hid (RowI .i64 (w4.alloc (.cells #[.int .i64 (A : Int)] 3)) (some ⟨w4.heap.size, 0, none⟩) 1 L1) := by
      have h := RowI.new .i64 w4 [(A : Int)] #[.int .i64 (A : Int)] 3 rfl
      show RowI _ _ _ _ _; rw [hL1]; exact h
    have OWN1 : Hid (((w4.alloc (.cells #[.int .i64 (A : Int)] 3)).alloc (.cells #[] 9)).ownsRow (w4.heap.size + 1) 9 1 (.slice (some ⟨w4.heap.size + 1, 0, none⟩) 0 0) 0 (textVals 0 R)) := by
      have h := World.ownsRow_made (base := (w4.alloc (.cells #[.int .i64 (A : Int)] 3)).heap.size) (e := 9) (size := 1) (w4.alloc (.cells #[.int .i64 (A : Int)] 3)) #[] 0 (Nat.le_refl _) (by decide) rfl
      rw [hsz1] at h
      exact h
    have RA : Hid (RowS ((w4.alloc (.cells #[.int .i64 (A : Int)] 3)).alloc (.cells #[] 9)) g3 N R) := R4.out.below (ALA.out.alloc (by simp) _)
    have t1 : True := trivial
    clear r4 b4 y1 OS OF OK1 hO hL1 z1 l0 l1 RS RG hsz1
    go_wp2_with (at_builtin; have _t := t1; go_loud (refine wpList_append_texts _ rfl _ _ rfl (w4.heap.size + 1) (w4.heap.size + 1) 0 0 R rfl OWN1.out g3 N c3 R rfl RA.out (by omega) (by simp) ?_; intro gn cn w6 own2 grow2 lies2; rw [e0, HJ.out] at own2; (have B6 : Hid (Below (w4.heap.size + 1) (w4.alloc (.cells #[.int .i64 (A : Int)] 3)) w6) := below_joined ((Below.refl _ (w4.alloc (.cells #[.int .i64 (A : Int)] 3))).alloc (by simp) _) (by simp) OWN1.out grow2); (have hlow := owns_low own2); (have hcA : w6.cell? ⟨gn, A, none⟩ = some (.string (R A)) := by rw [own2.cellAt A (by omega)]; exact textVals_at R hA); (have hfA : w6.frozen? ⟨gn, A, none⟩ = false := own2.frozenAt A); (have ownA := (own2.stored A (.string s)).1); rw [textVals_set] at ownA; (have hcB : (w6.setCell ⟨gn, A, none⟩ (.string s)).cell? ⟨gn, A, none⟩ = some (.string (Gfm.upd R A s A)) := by rw [ownA.cellAt A (by omega)]; exact textVals_at _ hA); (have hfB : (w6.setCell ⟨gn, A, none⟩ (.string s)).frozen? ⟨gn, A, none⟩ = false := ownA.frozenAt A); (have ownB := (ownA.stored A (.string s)).1); rw [textVals_set, HO.out] at ownB; (have OWNB : Hid (((w6.setCell ⟨gn, A, none⟩ (.string s)).setCell ⟨gn, A, none⟩ (.string s)).ownsRow (w4.heap.size + 1) 9 1 (.slice (some ⟨gn, 0, none⟩) N cn) N (textVals N O)) := ownB); (have BV : Hid (Below (w4.heap.size + 1) (w4.alloc (.cells #[.int .i64 (A : Int)] 3)) ((w6.setCell ⟨gn, A, none⟩ (.string s)).setCell ⟨gn, A, none⟩ (.string s))) := (B6.out.setCell (p := ⟨gn, A, none⟩) hlow _).setCell (p := ⟨gn, A, none⟩) hlow _); clear own2 ownA ownB grow2 lies2 t1 hlow))
    generalize ev : (w6.setCell ⟨gn, A, none⟩ (.string s)).setCell ⟨gn, A, none⟩ (.string s) = v at *
    obtain ⟨_, _, eo, ro, hcn, _⟩ := RowS.of_owns OWNB.out
    cases eo
    have bv := BV.out
    have rl := RL.out.below (by rw [show (w4.alloc (.cells #[.int .i64 (A : Int)] 3)).heap.size = w4.heap.size + 1 by simp]; exact bv)
    have b4v := ALA.out.trans (bv.mono (by simp))
    have r4v := R4.out.below b4v
    have bw := below2 B4.out b4v
    clear hcA hfA hcB hfB ev
    have h3 := Fill_says N O (by omega) OSH.out (some ⟨gn, 0, none⟩) cn hcn 1 L1 (by decide) (some ⟨w4.heap.size, 0, none⟩) 1 (Nat.le_refl _) v ro rl
    unfold FillSays at h3
    rw [Y1.out, Rf.kF_ok] at h3
    clear rl
    refine h3.mono ?_
    rintro e w7 ⟨⟨g7, c7, rfl, r7, hc7⟩, b7⟩
    have r47 := r4v.below b7
    have bw := below2 bw b7
    have hS := Same_any N N (Rf.fillF N O 1 L1) R (by omega) (by omega) g7 g3 c7 c3 w7 r7 r47
    rw [SAME.out] at hS
    clear h3 SAME
    go_wp2_with fail
    refine hS.mono ?_
    rintro e w8 ⟨rfl, b8⟩
    have BE : Hid (Below w.heap.size w w8) := below2 bw b8
    clear bw b8 b7
    go_wp2
    go_ret
    exact ⟨rfl, BE.out⟩

theorem walk (w : World) (a0 : Option Addr) (len0 cap0 : Nat) (z0 : List ByteArray) (w0 : IsStrs w a0 len0 cap0 z0) (a1 : Int) (w1 : (Lit.int .u8 a1).wf = true) (a2 : Int) (w2 : (Lit.int .u8 a2).wf = true) (a3 : Int) (w3 : (Lit.int .u8 a3).wf = true) (a4 : ByteArray) (_w4 : a4.size ≤ maxLen) :
    Calls Try.prog 4 #[.slice a0 len0 cap0, .int .u8 a1, .int .u8 a2, .int .u8 a3, .string a4] w fun e w' => e = .returned (.bool true) ∧ Below w.heap.size w w' := by
  obtain ⟨f, hm, _, hsz, hr⟩ := w0.open6
  have b1 := bounds_u8 w1
  have b2 := bounds_u8 w2
  have b3 := bounds_u8 w3
  obtain ⟨k, rfl⟩ := Int.eq_ofNat_of_zero_le b1.1
  obtain ⟨a, rfl⟩ := Int.eq_ofNat_of_zero_le b2.1
  obtain ⟨b, rfl⟩ := Int.eq_ofNat_of_zero_le b3.1
  obtain ⟨N, hN⟩ : ∃ N, 4 + k % 7 = N := ⟨_, rfl⟩
  have ma := Nat.mod_lt a (show 0 < N by omega)
  have mb := Nat.mod_lt b (show 0 < N by omega)
  by_cases h : a % N = b % N
  · exact core_met w a0 len0 cap0 f hr hm hsz k a b a4 N (a % N) (by omega) hN (by omega) (by omega) ma rfl h.symm
  · exact core_apart w a0 len0 cap0 f hr hm hsz k a b a4 N (a % N) (b % N) (by omega) hN (by omega) (by omega) ma mb h rfl rfl

theorem own : ownKnob Try.prog.godebug = none := by kernel_rfl
theorem laidOut : laidOutB Try.prog = true := by kernel_rfl
set_option linter.unusedVariables false in
set_option maxRecDepth 100000 in
theorem lifted (os : Os) (started : os.Started) (H : Type) (enc : TypeId × Value → H) :
    ReturnsInHanded {} Try.checked os 4 .any (Rows.refillTwoSpec.pre6 enc Try.prog Try.f4 Rows.refillTwoRow.domain false) (Rows.refillTwoSpec.post enc Try.prog Try.f4 false true false false) := by
  refine returnsInHanded_of_change (C := Try.checked) own started (by kernel_rfl) Try.func4
    (ChangeSpec.witness6 (enc := enc) (C := Try.checked) false ⟨#[], #[.slice none 0 0, .int .u8 0, .int .u8 0, .int .u8 0, .string ByteArray.empty], []⟩ 8 (by kernel_rfl) (by kernel_rfl) (by kernel_rfl) (by kernel_rfl)) ?_
  intro W base args ds gs before hval0 hW hcnd _
  have hval : ∀ (j : Nat) t v, Try.f4.params[j]? = some t → args[j]? = some v → Value.okWide Try.prog W .any base t v := hval0
  have hW' := hW
  obtain ⟨p, q, hA0, hV, rfl, hfz, hnd⟩ := hW
  have hA : DataW.TrodAll enc Try.prog W 0 (fun _ => true) true Try.f4.params.toList args.toList ds p := hA0
  rw [Try.params4] at hA hval
  obtain ⟨v0, vs0, d0, ds0, p0, q0, hargs, rfl, rfl, h0, r0⟩ := trodAll_cons hA
  obtain ⟨v1, vs1, d1, ds1, p1, q1, rfl, rfl, rfl, h1, r1⟩ := trodAll_cons r0
  obtain ⟨v2, vs2, d2, ds2, p2, q2, rfl, rfl, rfl, h2, r2⟩ := trodAll_cons r1
  obtain ⟨v3, vs3, d3, ds3, p3, q3, rfl, rfl, rfl, h3, r3⟩ := trodAll_cons r2
  obtain ⟨v4, vs4, d4, ds4, p4, q4, rfl, rfl, rfl, h4, r4⟩ := trodAll_cons r3
  obtain ⟨rfl, rfl, rfl⟩ := trodAll_nil r4
  obtain rfl : args = #[v0, v1, v2, v3, v4] := by cases args; simp_all
  obtain ⟨rfl, rfl⟩ := trodVars_none hV
  obtain ⟨a0, len0, cap0, rfl⟩ := okWide_slice Try.underlying22 (hval 0 22 v0 rfl rfl)
  have k0 := h0
  have lt0 : ∀ x ∈ p0, x.block < W.heap.size := by obtain ⟨m, hm⟩ := k0; exact DataW.trod_lt m _ _ _ hm
  obtain ⟨z0, w0⟩ : ∃ zs, IsStrs W a0 len0 cap0 zs := by
    obtain ⟨fuel, hf⟩ := h0
    rcases open_strings Try.underlying22 Try.underlying9 (by kernel_rfl) hf with ⟨hcs, _⟩ | ⟨x, l, c, zs, hcs, _, hl, hm, hz, _, hcell, hwz⟩
    · simp [Value.cells] at hcs
      obtain ⟨rfl, rfl, rfl⟩ := hcs
      exact ⟨[], .inl ⟨rfl, rfl, rfl, rfl⟩⟩
    · simp [Value.cells] at hcs
      obtain ⟨rfl, rfl, rfl⟩ := hcs
      exact ⟨zs, .inr ⟨_, rfl, hl, hm, by simpa using hz, hcell, hwz⟩⟩
  obtain ⟨a1, rfl, rfl, rfl, w1⟩ := open_int Try.underlying5 (hval 1 5 v1 rfl rfl) h1
  obtain ⟨a2, rfl, rfl, rfl, w2⟩ := open_int Try.underlying5 (hval 2 5 v2 rfl rfl) h2
  obtain ⟨a3, rfl, rfl, rfl, w3⟩ := open_int Try.underlying5 (hval 3 5 v3 rfl rfl) h3
  obtain ⟨a4, rfl, rfl, rfl, w4⟩ := open_string Try.underlying9 (hval 4 9 v4 rfl rfl) h4
  clear hA0 hval0
  simp only [List.append_nil] at hW'
  refine (walk W a0 len0 cap0 z0 w0 a1 w1 a2 w2 a3 w3 a4 w4).mono fun e W' ⟨he, hg⟩ => ?_
  subst he
  exact ⟨_, rfl, _, _, _, [], _, [], hW', trodAll_mk1 (shut_bool Try.underlying4 _), (trodAll_cons_mk (Below.trod laidOut (by kernel_rfl) (of_decide_eq_true (by kernel_rfl)) k0 hg lt0) (trodAll_cons_mk (shut_int Try.underlying5 w1) (trodAll_cons_mk (shut_int Try.underlying5 w2) (trodAll_cons_mk (shut_int Try.underlying5 w3) (trodAll_cons_mk (shut_string Try.underlying9 w4) trodAll_mk0))))), rfl, hg.frame _, fun h => by cases h⟩
/-- For every input the law returns true, and each argument reads as it did. -/
theorem proved : Rows.RefillTwoSaid :=
  OpenClaim.holds_of_wide 4 Try.f4 rfl rfl rfl rfl rfl rfl rfl ⟨rfl, rfl, rfl, rfl, rfl⟩ rfl rfl rfl rfl rfl (by kernel_rfl) Try.func4 (by kernel_rfl)
    (of_decide_eq_true (by kernel_rfl)) (by unfold Func.isWrapper; first | (rw [if_pos (by decide +kernel)]; kernel_rfl) | (rw [if_neg (by decide +kernel)]; exact ⟨rfl, rfl⟩))
    (fun os started H enc _ => lifted os started H enc)
end Go.Proofs.Ytjephdeolifbpaa.refillTwo
