/- Of each sector a crash keeps the first ones of its writes: with none kept it is the safe one, with all the last one. Proved for every list of texts. -/
import Derived.Test.YtpflfdbkndomfaaDrvFirst
import Derived.ProofKit
import Derived.OpenShut
import Derived.ShutString
namespace Go.Proofs.Ytpflfdbkndomfaa.driveKeeps
open Go.ChangeShapes Go.WideShapes Go.ChangeAt Go.RowKit
open Go.ChangeMaps (open_string shut_string)

set_option maxHeartbeats 400000 in
theorem walk_long (w : World) (a : Option Addr) (cap n : Nat) (hn : n ≤ maxLen) (h : 60 < n) (b : Bool) :
    Calls Try.prog 7 #[.slice a n cap, .bool b] w fun e w' => e = .returned (.bool true) ∧ Below w.heap.size w w' := by
  unfold maxLen at hn
  have h1 : (60 : Int) < (n : Int) := by omega
  clear h
  go_enter Try.func7, Try.ntmps7
  go_wp2_with fail
  refine (shown_any _).mono ?_
  rintro e w1 ⟨rfl, b1⟩
  go_wp2
  go_ret
  exact ⟨rfl, b1⟩

set_option maxHeartbeats 2000000 in
theorem walk_short (w : World) (a : Option Addr) (cap : Nat) (l : List ByteArray) (hl : l.length ≤ 60) (hsz : ∀ j, (l.getD j ByteArray.empty).size ≤ maxLen) (hr : RowS w a l.length (fun j => l.getD j ByteArray.empty)) (b : Bool) :
    Calls Try.prog 7 #[.slice a l.length cap, .bool b] w fun e w' => e = .returned (.bool true) ∧ Below w.heap.size w w' := by
  obtain ⟨n, hn⟩ : ∃ n, n = l.length := ⟨_, rfl⟩
  rw [← hn] at hl hr ⊢
  have HN : Hid (n = l.length) := hn
  have HR : Hid (RowS w a n (fun j => l.getD j ByteArray.empty)) := hr
  have HZ : Hid (∀ j, (l.getD j ByteArray.empty).size ≤ maxLen) := hsz
  have d0 : ¬ (60 : Int) < (n : Int) := by omega
  have hn60 : n ≤ 60 := hl
  clear hn hr hsz hl
  go_enter Try.func7, Try.ntmps7
  go_wp2_with fail
  refine (shown_any _).mono ?_
  rintro e w1 ⟨rfl, b1⟩
  have B1 : Hid (Below w.heap.size w w1) := b1
  clear b1
  go_wp2_with fail
  refine (new_mine 1 w.heap.size (by omega) (by omega) _ B1.out.size).mono ?_
  rintro e w2 ⟨p, rfl, m2, b2⟩
  have M2 : Hid (Mine w2 w.heap.size p (Dr.fresh 1)) := m2
  have B2 : Hid (Below w.heap.size w w2) := B1.out.trans b2
  clear m2 b2
  go_wp2_with fail
  refine (first_any _).mono ?_
  rintro e w' ⟨rfl, rfl⟩
  go_wp2_with fail
  refine (write_mine M2.out (Dr.Live.fresh 1) 0 (by omega) firstB first_size (Nat.zero_le _)).mono ?_
  rintro e w3 ⟨rfl, m3, b3⟩
  have M3 : Hid (Mine w3 w.heap.size p ((Dr.fresh 1).put 0 firstB.data.toList)) := m3
  have B3 : Hid (Below w.heap.size w w3) := B2.out.trans b3
  clear m3 b3
  go_wp2_with fail
  refine (flush_mine M3.out ((Dr.Live.fresh 1).put _ _) (one_lens _)).mono ?_
  rintro e w4 ⟨rfl, m4, b4⟩
  have M4 : Hid (Mine w4 w.heap.size p St0) := m4
  have B4 : Hid (Below w.heap.size w w4) := B3.out.trans b4
  clear m4 b4
  go_wp2
  go_loopw [6] (fun i wr => ∃ (k : Nat) (D : Dr), k ≤ n ∧ i = .int .i64 k ∧ Mine wr w.heap.size p D ∧ D.Solo firstB.data.toList (fulls l k) ∧ D.goes = false ∧ Shorts l k ∧ Below w.heap.size w wr) (fun i _ => n - (intOf i).toNat)
  case atStart => exact ⟨0, St0, Nat.zero_le _, rfl, M4.out, st0_solo, rfl, fun j hj => absurd hj (Nat.not_lt_zero _), B4.out⟩
  case round =>
    obtain ⟨k, D, hk, rfl, hm, hs, hg, hsh, hb⟩ := hrel
    have HM : Hid (Mine wr w.heap.size p D) := hm
    have HS : Hid (D.Solo firstB.data.toList (fulls l k)) := hs
    have HG : Hid (D.goes = false) := hg
    have HSH : Hid (Shorts l k) := hsh
    have HB : Hid (Below w.heap.size w wr) := hb
    have HRr : Hid (RowS wr a n (fun j => l.getD j ByteArray.empty)) := HR.out.below HB.out
    clear hm hs hg hsh hb
    by_cases hlt : k < n
    · obtain ⟨bb, off, rfl, hc⟩ := HRr.out k hlt
      obtain ⟨s, es⟩ : ∃ s, s = l.getD k ByteArray.empty := ⟨_, rfl⟩
      replace hc : wr.cell? ⟨bb, off + k, none⟩ = some (.string (l.getD k ByteArray.empty)) := hc
      have hsz := HZ.out k
      rw [← es] at hc hsz
      have ES : Hid (s = l.getD k ByteArray.empty) := es
      unfold maxLen at hsz
      clear es
      by_cases h100 : (100 : Int) < (s.size : Int)
      · go_wp2_with fail
        refine (shown_any _).mono ?_
        rintro e w5 ⟨rfl, b5⟩
        have B5 : Hid (Below w.heap.size w w5) := below2 HB.out b5
        clear b5
        go_wp2
        go_ret
        exact ⟨rfl, B5.out⟩
      · have hs1 : s.size ≤ 100 := by omega
        go_wp2_with fail
        refine (full_any s hs1 _).mono ?_
        rintro e w' ⟨rfl, rfl⟩
        go_wp2_with fail
        refine (write_mine HM.out (HS.out.live HG.out) 0 (by omega) (fullB s) (fullB_size s) (HS.out.lens (by rw [fulls_length l (by rw [← HN.out]; exact hk)]; omega) 0)).mono ?_
        rintro e w5 ⟨rfl, m5, b5⟩
        have M5 : Hid (Mine w5 w.heap.size p (D.put 0 (fullB s).data.toList)) := m5
        have B5 : Hid (Below w.heap.size w w5) := HB.out.trans b5
        have S5 : Hid ((D.put 0 (fullB s).data.toList).Solo firstB.data.toList (fulls l (k + 1))) := by
          unfold Hid; rw [fulls_succ l (by rw [← HN.out]; exact hlt), ← ES.out]; exact HS.out.put _
        have SH5 : Hid (Shorts l (k + 1)) := fun j hj => by
          by_cases e : j = k
          · subst e; rw [← ES.out]; exact hs1
          · exact HSH.out j (by omega)
        clear m5 b5
        go_wp2
        go_roundw
        case rel => exact ⟨k + 1, _, by omega, by go_num, M5.out, S5.out, HG.out, SH5.out, B5.out⟩
        case measure => simp [intOf]; omega
    · have hkn : k = n := by omega
      subst hkn
      cases b with
      | false =>
        go_wp2_with fail
        refine (first_any _).mono ?_
        rintro e w' ⟨rfl, rfl⟩
        have M5 : Hid (Mine (wr.alloc (.cells #[] 5)) w.heap.size p D) := HM.out.below ((Below.refl _ wr).alloc (Nat.le_refl _) _)
        have B5 : Hid (Below w.heap.size w (wr.alloc (.cells #[] 5))) := HB.out.alloc HB.out.size _
        have hc := crash_mine M5.out (HS.out.lens (by rw [fulls_length l (by rw [← HN.out]; exact Nat.le_refl _)]; omega)) [] (some ⟨wr.heap.size, 0, none⟩) 0 (RowI.nil _ _ _ _) (by decide) (fun j => by simp) (fun h => absurd h (by decide))
        have CS : Hid ((D.crash []).Solo firstB.data.toList []) := HS.out.crash_none
        have HC : Hid (Calls Try.prog 13 #[.pointer (some ⟨p, 0, none⟩), .slice (some ⟨wr.heap.size, 0, none⟩) 0 0] (wr.alloc (.cells #[] 5)) fun e w' => e = .returned (.tuple #[]) ∧ Mine w' w.heap.size p (D.crash []) ∧ Below w.heap.size (wr.alloc (.cells #[] 5)) w') := hc
        clear hc
        go_wp2_with fail
        refine HC.out.mono ?_
        rintro e w6 ⟨rfl, m6, b6⟩
        have M6 : Hid (Mine w6 w.heap.size p (D.crash [])) := m6
        have B6 : Hid (Below w.heap.size w w6) := B5.out.trans b6
        clear m6 b6
        go_wp2_with fail
        refine (read_mine M6.out (Dr.crash_live CS.out) 0 (by omega) CS.out.spoilt firstB CS.out.last).mono ?_
        rintro e w7 ⟨rfl, m7, b7⟩
        have M7 : Hid (Mine w7 w.heap.size p (D.crash [])) := m7
        have B7 : Hid (Below w.heap.size w w7) := B6.out.trans b7
        clear m7 b7
        have hpd := pending_mine M7.out (by rw [CS.out.pending]; simp)
        rw [CS.out.pending] at hpd
        have HP : Hid (Calls Try.prog 17 #[.pointer (some ⟨p, 0, none⟩)] w7 fun e w' => e = .returned (.int .i64 0) ∧ Mine w' w.heap.size p (D.crash []) ∧ Below w.heap.size w7 w') := hpd
        clear hpd
        go_wp2_with fail
        refine HP.out.mono ?_
        rintro e w8 ⟨rfl, m8, b8⟩
        have B8 : Hid (Below w.heap.size w w8) := B7.out.trans b8
        clear m8 b8
        go_wp2
        go_ret
        exact ⟨rfl, B8.out⟩
      | true =>
        by_cases h0 : k = 0
        · subst h0
          go_wp2_with fail
          refine (first_any _).mono ?_
          rintro e w' ⟨rfl, rfl⟩
          have M5 : Hid (Mine (wr.alloc (.cells #[] 5)) w.heap.size p D) := HM.out.below ((Below.refl _ wr).alloc (Nat.le_refl _) _)
          have B5 : Hid (Below w.heap.size w (wr.alloc (.cells #[] 5))) := HB.out.alloc HB.out.size _
          have hc := crash_mine M5.out (HS.out.lens (by rw [fulls_length l (by rw [← HN.out]; exact Nat.le_refl _)]; omega)) [] (some ⟨wr.heap.size, 0, none⟩) 0 (RowI.nil _ _ _ _) (by decide) (fun j => by simp) (fun h => absurd h (by decide))
          have CS : Hid ((D.crash []).Solo firstB.data.toList []) := HS.out.crash_none
          have HC : Hid (Calls Try.prog 13 #[.pointer (some ⟨p, 0, none⟩), .slice (some ⟨wr.heap.size, 0, none⟩) 0 0] (wr.alloc (.cells #[] 5)) fun e w' => e = .returned (.tuple #[]) ∧ Mine w' w.heap.size p (D.crash []) ∧ Below w.heap.size (wr.alloc (.cells #[] 5)) w') := hc
          clear hc
          go_wp2_with fail
          refine HC.out.mono ?_
          rintro e w6 ⟨rfl, m6, b6⟩
          have M6 : Hid (Mine w6 w.heap.size p (D.crash [])) := m6
          have B6 : Hid (Below w.heap.size w w6) := B5.out.trans b6
          clear m6 b6
          go_wp2_with fail
          refine (read_mine M6.out (Dr.crash_live CS.out) 0 (by omega) CS.out.spoilt firstB CS.out.last).mono ?_
          rintro e w7 ⟨rfl, m7, b7⟩
          have M7 : Hid (Mine w7 w.heap.size p (D.crash [])) := m7
          have B7 : Hid (Below w.heap.size w w7) := B6.out.trans b7
          clear m7 b7
          have hpd := pending_mine M7.out (by rw [CS.out.pending]; simp)
          rw [CS.out.pending] at hpd
          have HP : Hid (Calls Try.prog 17 #[.pointer (some ⟨p, 0, none⟩)] w7 fun e w' => e = .returned (.int .i64 0) ∧ Mine w' w.heap.size p (D.crash []) ∧ Below w.heap.size w7 w') := hpd
          clear hpd
          go_wp2_with fail
          refine HP.out.mono ?_
          rintro e w8 ⟨rfl, m8, b8⟩
          have B8 : Hid (Below w.heap.size w w8) := B7.out.trans b8
          clear m8 b8
          go_wp2
          go_ret
          exact ⟨rfl, B8.out⟩
        · skip
          obtain ⟨q, rfl⟩ : ∃ q, k = q + 1 := ⟨k - 1, by omega⟩
          obtain ⟨bb, off, rfl, hc⟩ := HRr.out q (by omega)
          obtain ⟨s, es⟩ : ∃ s, s = l.getD q ByteArray.empty := ⟨_, rfl⟩
          replace hc : wr.cell? ⟨bb, off + q, none⟩ = some (.string (l.getD q ByteArray.empty)) := hc
          have hs1 : s.size ≤ 100 := by rw [es]; exact HSH.out q (by omega)
          rw [← es] at hc
          have hbb := World.block_lt_of_cell? wr _ hc
          have ES : Hid (s = l.getD q ByteArray.empty) := es
          have FL : Hid ((fulls l (q + 1)).length = q + 1) := fulls_length l (by rw [← HN.out]; exact Nat.le_refl _)
          have CS : Hid ((D.crash [q + 1]).Solo (fullB s).data.toList []) := by
            have h1 := HS.out.crash_all (fun e => by have := FL.out; rw [e] at this; simp at this)
            rw [FL.out, Nat.add_sub_cancel, fulls_get l (by rw [← HN.out]; exact Nat.le_refl _) (Nat.lt_succ_self q), ← ES.out] at h1
            exact h1
          have hw8 : IntKind.u8.wrap ((q : Int) + 1) = ((q + 1 : Nat) : Int) := by rw [IntKind.wrap_u8]; omega
          obtain ⟨i0, hi, hz0, hz1, hz2⟩ := info_parts info_u8
          clear es h0
          go_wp2_with fail
          refine (first_any _).mono ?_
          rintro e w' ⟨rfl, rfl⟩
          have hsz1 : (wr.alloc (.cells #[] 5)).heap.size = wr.heap.size + 1 := by simp
          have OWN : Hid ((wr.alloc (.cells #[] 5)).ownsRow wr.heap.size 5 1 (.slice (some ⟨wr.heap.size, 0, none⟩) 0 0) 0 []) := World.ownsRow_made (base := wr.heap.size) (e := 5) (size := 1) wr #[] 0 (Nat.le_refl _) (by decide) rfl
          have CELL : Hid (∀ j u, [Value.int .u8 ((q : Int) + 1)][j]? = some u → ((wr.alloc (.cells #[] 5)).alloc (.cells #[.int .u8 ((q : Int) + 1)] 5)).cell? ((⟨wr.heap.size + 1, 0, none⟩ : Addr).add j) = some u) := by
            have := cell_one_new (wr.alloc (.cells #[] 5)) (.int .u8 ((q : Int) + 1)) 5
            rw [hsz1] at this
            exact this
          clear hsz1
          go_wp2_with (at_builtin; (refine wpList_append_own _ rfl _ _ 23 rfl wr.heap.size 5 i0 (.int .u8 0) 1 1 Try.underlying23 hi hz0 hz1 hz2 rfl (by decide) (.slice (some ⟨wr.heap.size, 0, none⟩) 0 0) 0 [] rfl (OWN.out.alloc _) ⟨wr.heap.size + 1, 0, none⟩ 1 1 [.int .u8 ((q : Int) + 1)] rfl rfl CELL.out (by simp [Value.oneCell']) (by decide) (by decide) (by simp; omega) ?_); intro v' w5 hown5 hgrow5 _; obtain ⟨a', cap', rfl, hI5, hba5⟩ := RowI.of_owns (k := .u8) (l := [(q : Int) + 1]) hown5; (have HI5 : Hid (RowI .u8 w5 a' [q + 1].length (fun j => (([q + 1].getD j 0 : Nat) : Int))) := hI5.mono (Nat.le_refl _) (fun j hj => by have hj1 : j < 1 := hj; obtain rfl : j = 0 := (by omega); rfl)); have HBA : Hid (∀ x, a' = some x → wr.heap.size ≤ x.block) := hba5; (have B5 : Hid (Below wr.heap.size wr w5) := (((Below.refl _ wr).alloc (Nat.le_refl _) _).alloc (by simp) _).grown hgrow5 (by simp <;> omega) (fun k hk => by cases hk; exact Nat.le_refl _)); have hc5 : w5.cell? ⟨bb, off + q, none⟩ = some (.string s) := (B5.out.cell (p := ⟨bb, off + q, none⟩) hbb).trans hc; clear hown5 hgrow5 hI5 hba5)
          refine (full_any s hs1 _).mono ?_
          rintro e w' ⟨rfl, rfl⟩
          have hcr := crash_mine_own HM.out B5.out (HS.out.lens (by rw [FL.out]; omega)) [q + 1] a' cap' HI5.out (show 1 ≤ maxLen by decide) (fun j => by cases j with | zero => show q + 1 < 256; omega | succ j => simp) HBA.out
          have HC : Hid (Calls Try.prog 13 #[.pointer (some ⟨p, 0, none⟩), .slice a' 1 cap'] w' fun e w2 => e = .returned (.tuple #[]) ∧ Mine w2 w.heap.size p (D.crash [q + 1]) ∧ Below w.heap.size w' w2) := hcr
          clear hcr
          go_wp2_with fail
          refine HC.out.mono ?_
          rintro e w6 ⟨rfl, m6, b6⟩
          have M6 : Hid (Mine w6 w.heap.size p (D.crash [q + 1])) := m6
          have B6 : Hid (Below w.heap.size w w6) := (HB.out.trans (B5.out.mono HB.out.size)).trans b6
          clear m6 b6
          go_wp2_with fail
          refine (read_mine M6.out (Dr.crash_live CS.out) 0 (by omega) CS.out.spoilt (fullB s) CS.out.last).mono ?_
          rintro e w7 ⟨rfl, m7, b7⟩
          have M7 : Hid (Mine w7 w.heap.size p (D.crash [q + 1])) := m7
          have B7 : Hid (Below w.heap.size w w7) := B6.out.trans b7
          clear m7 b7
          have hpd := pending_mine M7.out (by rw [CS.out.pending]; simp)
          rw [CS.out.pending] at hpd
          have HP : Hid (Calls Try.prog 17 #[.pointer (some ⟨p, 0, none⟩)] w7 fun e w' => e = .returned (.int .i64 0) ∧ Mine w' w.heap.size p (D.crash [q + 1]) ∧ Below w.heap.size w7 w') := hpd
          clear hpd
          go_wp2_with fail
          refine HP.out.mono ?_
          rintro e w8 ⟨rfl, m8, b8⟩
          have B8 : Hid (Below w.heap.size w w8) := B7.out.trans b8
          clear m8 b8
          go_wp2
          go_ret
          exact ⟨rfl, B8.out⟩

theorem walk (w : World) (a0 : Option Addr) (len0 cap0 : Nat) (z0 : List ByteArray) (w0 : IsStrs w a0 len0 cap0 z0) (a1 : Bool) :
    Calls Try.prog 7 #[.slice a0 len0 cap0, .bool a1] w fun e w' => e = .returned (.bool true) ∧ Below w.heap.size w w' := by
  obtain ⟨l, rfl, hm, hsz, hr⟩ := w0.row
  by_cases h : 60 < l.length
  · exact walk_long w a0 cap0 l.length hm h a1
  · exact walk_short w a0 cap0 l (by omega) hsz hr a1

theorem own : ownKnob Try.prog.godebug = none := by kernel_rfl
theorem laidOut : laidOutB Try.prog = true := by kernel_rfl
set_option linter.unusedVariables false in
set_option maxRecDepth 100000 in
theorem lifted (os : Os) (started : os.Started) (H : Type) (enc : TypeId × Value → H) :
    ReturnsInHanded {} Try.checked os 7 .any (Rows.driveKeepsSpec.pre6 enc Try.prog Try.f7 Rows.driveKeepsRow.domain false) (Rows.driveKeepsSpec.post enc Try.prog Try.f7 false true false false) := by
  refine returnsInHanded_of_change (C := Try.checked) own started (by kernel_rfl) Try.func7
    (ChangeSpec.witness6 (enc := enc) (C := Try.checked) false ⟨#[], #[.slice none 0 0, .bool false], []⟩ 8 (by kernel_rfl) (by kernel_rfl) (by kernel_rfl) (by kernel_rfl)) ?_
  intro W base args ds gs before hval0 hW hcnd _
  have hval : ∀ (j : Nat) t v, Try.f7.params[j]? = some t → args[j]? = some v → Value.okWide Try.prog W .any base t v := hval0
  have hW' := hW
  obtain ⟨p, q, hA0, hV, rfl, hfz, hnd⟩ := hW
  have hA : DataW.TrodAll enc Try.prog W 0 (fun _ => true) true Try.f7.params.toList args.toList ds p := hA0
  rw [Try.params7] at hA hval
  obtain ⟨v0, vs0, d0, ds0, p0, q0, hargs, rfl, rfl, h0, r0⟩ := trodAll_cons hA
  obtain ⟨v1, vs1, d1, ds1, p1, q1, rfl, rfl, rfl, h1, r1⟩ := trodAll_cons r0
  obtain ⟨rfl, rfl, rfl⟩ := trodAll_nil r1
  obtain rfl : args = #[v0, v1] := by cases args; simp_all
  obtain ⟨rfl, rfl⟩ := trodVars_none hV
  obtain ⟨a0, len0, cap0, rfl⟩ := okWide_slice Try.underlying22 (hval 0 22 v0 rfl rfl)
  have k0 := h0
  have lt0 : ∀ x ∈ p0, x.block < W.heap.size := by obtain ⟨m, hm⟩ := k0; exact DataW.trod_lt m _ _ _ hm
  obtain ⟨z0, w0⟩ : ∃ zs, IsStrs W a0 len0 cap0 zs := by
    obtain ⟨fuel, hf⟩ := h0
    rcases open_strings Try.underlying22 Try.underlying9 (by kernel_rfl) hf with ⟨hcs, _⟩ | ⟨x, l, c, zs, hcs, _, hl, hm, hz, _, hcell, hwz⟩
    · simp [Value.cells] at hcs
      obtain ⟨rfl, rfl, rfl⟩ := hcs
      exact ⟨[], .inl ⟨rfl, rfl, rfl, rfl⟩⟩
    · simp [Value.cells] at hcs
      obtain ⟨rfl, rfl, rfl⟩ := hcs
      exact ⟨zs, .inr ⟨_, rfl, hl, hm, by simpa using hz, hcell, hwz⟩⟩
  obtain ⟨a1, rfl, rfl, rfl⟩ := open_bool Try.underlying4 (hval 1 4 v1 rfl rfl) h1
  clear hA0 hval0
  simp only [List.append_nil] at hW'
  refine (walk W a0 len0 cap0 z0 w0 a1).mono fun e W' ⟨he, hg⟩ => ?_
  subst he
  exact ⟨_, rfl, _, _, _, [], _, [], hW', trodAll_mk1 (shut_bool Try.underlying4 _), (trodAll_cons_mk (Below.trod laidOut (by kernel_rfl) (of_decide_eq_true (by kernel_rfl)) k0 hg lt0) (trodAll_cons_mk (shut_bool Try.underlying4 a1) trodAll_mk0)), rfl, hg.frame _, fun h => by cases h⟩
/-- For every input the law returns true, and each argument reads as it did. -/
theorem proved : Rows.DriveKeepsSaid :=
  OpenClaim.holds_of_wide 7 Try.f7 rfl rfl rfl rfl rfl rfl rfl ⟨rfl, rfl, rfl, rfl, rfl⟩ rfl rfl rfl rfl rfl (by kernel_rfl) Try.func7 (by kernel_rfl)
    (of_decide_eq_true (by kernel_rfl)) (by unfold Func.isWrapper; first | (rw [if_pos (by decide +kernel)]; kernel_rfl) | (rw [if_neg (by decide +kernel)]; exact ⟨rfl, rfl⟩))
    (fun os started H enc _ => lifted os started H enc)
end Go.Proofs.Ytpflfdbkndomfaa.driveKeeps
