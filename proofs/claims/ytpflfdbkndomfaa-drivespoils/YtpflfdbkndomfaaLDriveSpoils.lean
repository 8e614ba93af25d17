/- A sector that is spoilt can't be read till it is written; the others can. Proved for every pair of texts and every number. -/
import Derived.Test.YtpflfdbkndomfaaDrvBase
import Derived.ProofKit
import Derived.OpenShut
import Derived.ShutString
namespace Go.Proofs.Ytpflfdbkndomfaa.driveSpoils
open Go.ChangeShapes Go.WideShapes Go.ChangeAt Go.RowKit
open Go.ChangeMaps (open_string shut_string)

theorem rem5 (m : Nat) : ∃ k : Nat, (m : Int) % 5 = (k : Int) ∧ k < 5 := ⟨m % 5, by omega, Nat.mod_lt _ (by omega)⟩
theorem next5 (k : Nat) (_hk : k < 5) : ∃ o : Nat, ((k : Int) + 1) % 5 = (o : Int) ∧ o < 5 ∧ o ≠ k := ⟨(k + 1) % 5, by omega, Nat.mod_lt _ (by omega), by omega⟩

set_option maxHeartbeats 400000 in
theorem walk_long (s t : ByteArray) (m : Nat) (_hm : m < 256) (hs : s.size ≤ maxLen) (ht : t.size ≤ maxLen) (h : 100 < s.size ∨ 100 < t.size) (w : World) :
    Calls Try.prog 6 #[.string s, .string t, .int .u8 (m : Nat)] w fun e w' => e = .returned (.bool true) ∧ Below w.heap.size w w' := by
  unfold maxLen at hs ht
  by_cases h1 : (100 : Int) < (s.size : Int)
  · clear h
    go_enter Try.func6, Try.ntmps6
    go_wp2_with fail
    refine (shown_any _).mono ?_
    rintro e w1 ⟨rfl, b1⟩
    go_wp2
    go_ret
    exact ⟨rfl, b1⟩
  · have h2 : (100 : Int) < (t.size : Int) := by omega
    clear h
    go_enter Try.func6, Try.ntmps6
    go_wp2_with fail
    refine (shown_any _).mono ?_
    rintro e w1 ⟨rfl, b1⟩
    go_wp2
    go_ret
    exact ⟨rfl, b1⟩

set_option maxHeartbeats 2000000 in
theorem walk_short (s t : ByteArray) (m : Nat) (hm : m < 256) (hs : s.size ≤ 100) (ht : t.size ≤ 100) (w : World) :
    Calls Try.prog 6 #[.string s, .string t, .int .u8 (m : Nat)] w fun e w' => e = .returned (.bool true) ∧ Below w.heap.size w w' := by
  obtain ⟨k, hk, hk5⟩ := rem5 m
  obtain ⟨o, ho, ho5, hok⟩ := next5 k hk5
  have fS := full_any s hs
  have fT := full_any t ht
  obtain ⟨fs, efs⟩ : ∃ fs, fs = fullB s := ⟨_, rfl⟩
  obtain ⟨ft, eft⟩ : ∃ ft, ft = fullB t := ⟨_, rfl⟩
  have hfs : fs.size = 64 := by rw [efs]; exact fullB_size _
  have hft : ft.size = 64 := by rw [eft]; exact fullB_size _
  rw [← efs] at fS
  rw [← eft] at fT
  have FS : Hid (∀ W, Calls Try.prog 11 #[.string s] W fun e w' => e = .returned (.string fs) ∧ w' = W) := fS
  have FT : Hid (∀ W, Calls Try.prog 11 #[.string t] W fun e w' => e = .returned (.string ft) ∧ w' = W) := fT
  have HS : Hid (fs.size = 64) := hfs
  have HT : Hid (ft.size = 64) := hft
  have HOK : Hid (o ≠ k) := hok
  have K5 : Hid (k < 5) := hk5
  have O5 : Hid (o < 5) := ho5
  have d1 : ¬ (100 : Int) < (s.size : Int) := by omega
  have d2 : ¬ (100 : Int) < (t.size : Int) := by omega
  -- the states
  have D0 : Hid (∃ D, D = Dr.fresh 5) := ⟨_, rfl⟩
  obtain ⟨A, hA⟩ : ∃ A, A = (Dr.fresh 5).put k fs.data.toList := ⟨_, rfl⟩
  obtain ⟨B, hB⟩ : ∃ B, B = A.put o ft.data.toList := ⟨_, rfl⟩
  obtain ⟨C, hC⟩ : ∃ C, C = B.spoil k := ⟨_, rfl⟩
  obtain ⟨E, hE⟩ : ∃ E, E = C.settle fun _ c => c := ⟨_, rfl⟩
  obtain ⟨G, hG⟩ : ∃ G, G = E.put k ft.data.toList := ⟨_, rfl⟩
  have lA : A.Live 5 := hA ▸ (Dr.Live.fresh 5).put _ _
  have lB : B.Live 5 := hB ▸ lA.put _ _
  have lC : C.Live 5 := hC ▸ lB.spoil _
  have lE : E.Live 5 := hE ▸ lC.settle _
  have lG : G.Live 5 := hG ▸ lE.put _ _
  have wA : A.writes k = [fs.data.toList] := by rw [hA, Dr.put_same]; rfl
  have wA' : ∀ j, j ≠ k → A.writes j = [] := fun j hj => by rw [hA, Dr.put_other _ _ hj]; rfl
  have wB : B.writes o = [ft.data.toList] := by rw [hB, Dr.put_same, wA' o hok]; rfl
  have wB' : B.writes k = [fs.data.toList] := by rw [hB, Dr.put_other _ _ (Ne.symm hok)]; exact wA
  have wC : ∀ j, C.writes j = B.writes j := fun j => by rw [hC]; rfl
  have sA : ∀ j, A.spoilt.getD j false = false := fun j => by rw [hA]; exact Dr.put_spoilt _ _ _ (Dr.fresh_spoilt 5 j)
  have sB : ∀ j, B.spoilt.getD j false = false := fun j => by rw [hB]; exact Dr.put_spoilt _ _ _ (sA j)
  have slB : B.spoilt.length = 5 := by rw [hB, hA]; simp [Dr.put, Dr.fresh]
  have sC : C.spoilt.getD k false = true := by rw [hC]; exact Dr.getD_set_same (by omega)
  have sC' : C.spoilt.getD o false = false := by rw [hC]; exact (Dr.getD_set_other (Ne.symm hok)).trans (sB o)
  have sE : E.spoilt.getD k false = true := by rw [hE]; exact sC
  have lastC : C.last o = ft.data.toList := by unfold Dr.last; rw [wC, wB]; rfl
  have lastC' : C.last k = fs.data.toList := by unfold Dr.last; rw [wC, wB']; rfl
  have safeE : E.safe.getD k [] = fs.data.toList := by rw [hE, Dr.flush_one lC hk5]; exact lastC'
  have sG : G.spoilt.getD k false = false := by
    rw [hG]; refine Dr.getD_set_same ?_
    rw [hE, hC]; simp [Dr.settle, Dr.spoil, slB]; omega
  have lastG : G.last k = ft.data.toList := by rw [hG]; exact Dr.put_last _ _ _
  have safeG : G.safe.getD k [] = fs.data.toList := by rw [hG]; exact safeE
  have lenF : ∀ j, ((Dr.fresh 5).writes j).length ≤ 1000000 := fun j => Nat.zero_le _
  have lenA : (A.writes o).length ≤ 1000000 := by rw [wA' o hok]; exact Nat.zero_le _
  have lenC : ∀ j, (C.writes j).length ≤ 1000000 := fun j => by
    rw [wC]
    by_cases e : j = o
    · subst e; rw [wB]; simp
    · rw [hB, Dr.put_other _ _ e]
      by_cases e' : j = k
      · subst e'; rw [wA]; simp
      · rw [wA' j e']; simp
  have lenE : (E.writes k).length ≤ 1000000 := by rw [hE]; exact Nat.zero_le _
  have PK : Hid (A.Live 5 ∧ B.Live 5 ∧ C.Live 5 ∧ E.Live 5 ∧ G.Live 5) := ⟨lA, lB, lC, lE, lG⟩
  have PW : Hid ((A.writes o).length ≤ 1000000 ∧ (∀ j, (C.writes j).length ≤ 1000000) ∧ (E.writes k).length ≤ 1000000) := ⟨lenA, lenC, lenE⟩
  have PS : Hid (C.spoilt.getD k false = true ∧ C.spoilt.getD o false = false ∧ E.spoilt.getD k false = true ∧ G.spoilt.getD k false = false) := ⟨sC, sC', sE, sG⟩
  have PL : Hid (C.last o = ft.data.toList ∧ G.last k = ft.data.toList ∧ G.safe.getD k [] = fs.data.toList) := ⟨lastC, lastG, safeG⟩
  have EA : Hid (A = (Dr.fresh 5).put k fs.data.toList) := hA
  have EB : Hid (B = A.put o ft.data.toList) := hB
  have EC : Hid (C = B.spoil k) := hC
  have EE : Hid (E = C.settle fun _ c => c) := hE
  have EG : Hid (G = E.put k ft.data.toList) := hG
  clear fS fT efs eft hfs hft hok D0 hA hB hC hE hG lA lB lC lE lG wA wA' wB wB' wC sA sB slB sC sC' sE lastC lastC' safeE sG lastG safeG lenF lenA lenC lenE hs ht
  go_enter Try.func6, Try.ntmps6
  go_wp2_with fail
  refine (shown_any _).mono ?_
  rintro e w1 ⟨rfl, b1⟩
  have B1 : Hid (Below w.heap.size w w1) := b1
  clear b1
  go_wp2_with fail
  refine (new_mine 5 w.heap.size (by omega) (by omega) _ B1.out.size).mono ?_
  rintro e w2 ⟨p, rfl, m2, b2⟩
  have M2 : Hid (Mine w2 w.heap.size p (Dr.fresh 5)) := m2
  have B2 : Hid (Below w.heap.size w w2) := B1.out.trans b2
  clear m2 b2
  go_wp2_with fail
  refine (FS.out _).mono ?_
  rintro e w' ⟨rfl, rfl⟩
  go_wp2_with fail
  refine (write_mine M2.out (Dr.Live.fresh 5) k K5.out fs HS.out (Nat.zero_le _)).mono ?_
  rintro e w3 ⟨rfl, m3, b3⟩
  rw [← EA.out] at m3
  have M3 : Hid (Mine w3 w.heap.size p A) := m3
  have B3 : Hid (Below w.heap.size w w3) := B2.out.trans b3
  clear m3 b3
  go_wp2_with fail
  refine (FT.out _).mono ?_
  rintro e w' ⟨rfl, rfl⟩
  go_wp2_with fail
  refine (write_mine M3.out PK.out.1 o O5.out ft HT.out PW.out.1).mono ?_
  rintro e w4 ⟨rfl, m4, b4⟩
  rw [← EB.out] at m4
  have M4 : Hid (Mine w4 w.heap.size p B) := m4
  have B4 : Hid (Below w.heap.size w w4) := B3.out.trans b4
  clear m4 b4
  go_wp2_with fail
  refine (spoil_mine M4.out PK.out.2.1 k K5.out).mono ?_
  rintro e w5 ⟨rfl, m5, b5⟩
  rw [← EC.out] at m5
  have M5 : Hid (Mine w5 w.heap.size p C) := m5
  have B5 : Hid (Below w.heap.size w w5) := B4.out.trans b5
  clear m5 b5
  go_wp2_with fail
  refine (read_mine_bad M5.out PK.out.2.2.1 k K5.out PS.out.1).mono ?_
  rintro e w6 ⟨rfl, m6, b6⟩
  have M6 : Hid (Mine w6 w.heap.size p C) := m6
  have B6 : Hid (Below w.heap.size w w6) := B5.out.trans b6
  clear m6 b6
  go_wp2_with fail
  refine (read_mine M6.out PK.out.2.2.1 o O5.out PS.out.2.1 ft PL.out.1).mono ?_
  rintro e w7 ⟨rfl, m7, b7⟩
  have M7 : Hid (Mine w7 w.heap.size p C) := m7
  have B7 : Hid (Below w.heap.size w w7) := B6.out.trans b7
  clear m7 b7
  go_wp2_with fail
  refine (flush_mine M7.out PK.out.2.2.1 PW.out.2.1).mono ?_
  rintro e w8 ⟨rfl, m8, b8⟩
  rw [← EE.out] at m8
  have M8 : Hid (Mine w8 w.heap.size p E) := m8
  have B8 : Hid (Below w.heap.size w w8) := B7.out.trans b8
  clear m8 b8
  go_wp2_with fail
  refine (read_mine_bad M8.out PK.out.2.2.2.1 k K5.out PS.out.2.2.1).mono ?_
  rintro e w9 ⟨rfl, m9, b9⟩
  have M9 : Hid (Mine w9 w.heap.size p E) := m9
  have B9 : Hid (Below w.heap.size w w9) := B8.out.trans b9
  clear m9 b9
  go_wp2_with fail
  refine (FT.out _).mono ?_
  rintro e w' ⟨rfl, rfl⟩
  go_wp2_with fail
  refine (FT.out _).mono ?_
  rintro e w' ⟨rfl, rfl⟩
  go_wp2_with fail
  refine (write_mine M9.out PK.out.2.2.2.1 k K5.out ft HT.out PW.out.2.2).mono ?_
  rintro e w10 ⟨rfl, m10, b10⟩
  rw [← EG.out] at m10
  have M10 : Hid (Mine w10 w.heap.size p G) := m10
  have B10 : Hid (Below w.heap.size w w10) := B9.out.trans b10
  clear m10 b10
  go_wp2_with fail
  refine (read_mine M10.out PK.out.2.2.2.2 k K5.out PS.out.2.2.2 ft PL.out.2.1).mono ?_
  rintro e w11 ⟨rfl, m11, b11⟩
  have M11 : Hid (Mine w11 w.heap.size p G) := m11
  have B11 : Hid (Below w.heap.size w w11) := B10.out.trans b11
  clear m11 b11
  go_wp2_with fail
  refine (safe_live M11.out.1 PK.out.2.2.2.2 k K5.out fs PL.out.2.2).mono ?_
  rintro e w' ⟨rfl, rfl⟩
  go_wp2_with fail
  refine (FT.out _).mono ?_
  rintro e w' ⟨rfl, rfl⟩
  go_wp2_with fail
  refine (FS.out _).mono ?_
  rintro e w' ⟨rfl, rfl⟩
  go_wp2_with fail
  refine (spoil_mine_out M11.out PK.out.2.2.2.2 5 (by omega)).mono ?_
  rintro e w' ⟨rfl, rfl⟩
  go_wp2
  go_ret
  exact ⟨rfl, B11.out⟩

theorem walk (a0 : ByteArray) (w0 : a0.size ≤ maxLen) (a1 : ByteArray) (w1 : a1.size ≤ maxLen) (a2 : Int) (w2 : (Lit.int .u8 a2).wf = true) (w : World) :
    Calls Try.prog 6 #[.string a0, .string a1, .int .u8 a2] w fun e w' => e = .returned (.bool true) ∧ Below w.heap.size w w' := by
  have b2 := bounds_u8 w2
  obtain ⟨m, rfl⟩ := Int.eq_ofNat_of_zero_le b2.1
  by_cases h : 100 < a0.size ∨ 100 < a1.size
  · exact walk_long a0 a1 m (by omega) w0 w1 h w
  · exact walk_short a0 a1 m (by omega) (by omega) (by omega) w

theorem own : ownKnob Try.prog.godebug = none := by kernel_rfl
set_option linter.unusedVariables false in
set_option maxRecDepth 100000 in
theorem lifted (os : Os) (started : os.Started) (H : Type) (enc : TypeId × Value → H) :
    ReturnsInHanded {} Try.checked os 6 .any (Rows.driveSpoilsSpec.pre6 enc Try.prog Try.f6 Rows.driveSpoilsRow.domain false) (Rows.driveSpoilsSpec.post enc Try.prog Try.f6 false true false false) := by
  refine returnsInHanded_of_change (C := Try.checked) own started (by kernel_rfl) Try.func6
    (ChangeSpec.witness6 (enc := enc) (C := Try.checked) false ⟨#[], #[.string ByteArray.empty, .string ByteArray.empty, .int .u8 0], []⟩ 8 (by kernel_rfl) (by kernel_rfl) (by kernel_rfl) (by kernel_rfl)) ?_
  intro W base args ds gs before hval0 hW hcnd _
  have hval : ∀ (j : Nat) t v, Try.f6.params[j]? = some t → args[j]? = some v → Value.okWide Try.prog W .any base t v := hval0
  have hW' := hW
  obtain ⟨p, q, hA0, hV, rfl, hfz, hnd⟩ := hW
  have hA : DataW.TrodAll enc Try.prog W 0 (fun _ => true) true Try.f6.params.toList args.toList ds p := hA0
  rw [Try.params6] at hA hval
  obtain ⟨v0, vs0, d0, ds0, p0, q0, hargs, rfl, rfl, h0, r0⟩ := trodAll_cons hA
  obtain ⟨v1, vs1, d1, ds1, p1, q1, rfl, rfl, rfl, h1, r1⟩ := trodAll_cons r0
  obtain ⟨v2, vs2, d2, ds2, p2, q2, rfl, rfl, rfl, h2, r2⟩ := trodAll_cons r1
  obtain ⟨rfl, rfl, rfl⟩ := trodAll_nil r2
  obtain rfl : args = #[v0, v1, v2] := by cases args; simp_all
  obtain ⟨rfl, rfl⟩ := trodVars_none hV
  obtain ⟨a0, rfl, rfl, rfl, w0⟩ := open_string Try.underlying9 (hval 0 9 v0 rfl rfl) h0
  obtain ⟨a1, rfl, rfl, rfl, w1⟩ := open_string Try.underlying9 (hval 1 9 v1 rfl rfl) h1
  obtain ⟨a2, rfl, rfl, rfl, w2⟩ := open_int Try.underlying5 (hval 2 5 v2 rfl rfl) h2
  clear hA0 hval0
  simp only [List.append_nil] at hW'
  refine (walk a0 w0 a1 w1 a2 w2 W).mono fun e W' ⟨he, hg⟩ => ?_
  subst he
  exact ⟨_, rfl, _, _, _, [], [], [], hW', trodAll_mk1 (shut_bool Try.underlying4 _), (trodAll_cons_mk (shut_string Try.underlying9 w0) (trodAll_cons_mk (shut_string Try.underlying9 w1) (trodAll_cons_mk (shut_int Try.underlying5 w2) trodAll_mk0))), rfl, hg.frame _, fun h => by cases h⟩
/-- For every input the law returns true, and each argument reads as it did. -/
theorem proved : Rows.DriveSpoilsSaid :=
  OpenClaim.holds_of_wide 6 Try.f6 rfl rfl rfl rfl rfl rfl rfl ⟨rfl, rfl, rfl, rfl, rfl⟩ rfl rfl rfl rfl rfl (by kernel_rfl) Try.func6 (by kernel_rfl)
    (of_decide_eq_true (by kernel_rfl)) (by unfold Func.isWrapper; first | (rw [if_pos (by decide +kernel)]; kernel_rfl) | (rw [if_neg (by decide +kernel)]; exact ⟨rfl, rfl⟩))
    (fun os started H enc _ => lifted os started H enc)
end Go.Proofs.Ytpflfdbkndomfaa.driveSpoils
