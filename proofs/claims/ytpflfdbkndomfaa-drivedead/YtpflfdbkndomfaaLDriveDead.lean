/- A drive that is dead answers nothing but that; what is safe on it stays. Proved for every text, every number and every list of calls. -/
import Derived.Test.YtpflfdbkndomfaaRefPair
import Derived.Test.YtpflfdbkndomfaaRefHeavy
import Derived.ProofKit
import Derived.OpenShut
import Derived.ShutString
namespace Go.Proofs.Ytpflfdbkndomfaa.driveDead
open Go.ChangeShapes Go.WideShapes Go.ChangeAt Go.RowKit
open Go.ChangeMaps (open_string shut_string)

theorem heavy_any (w : World) (a : Option Addr) (n cap : Nat) (f : Nat → ActR) (hn : n ≤ maxLen) (hA : 0 < n → ∃ b off, a = some ⟨b, off, none⟩ ∧ ∀ j, j < n → ActAt w b (off + j * 4) (f j)) :
    Calls Try.prog 18 #[.slice a n cap] w fun e w' => w' = w ∧ ∃ hv, e = .returned (.bool hv) ∧ (hv = false → Light n f) := by
  by_cases h0 : 0 < n
  · obtain ⟨b, off, rfl, hA2⟩ := hA h0
    exact (heavy_some w b off n cap f hA2 hn).mono fun _ _ ⟨hw, he⟩ => ⟨hw, by
      rcases he with he | ⟨he, hl⟩
      · exact ⟨true, he, fun h => by cases h⟩
      · exact ⟨false, he, fun _ => hl⟩⟩
  · obtain rfl : n = 0 := by omega
    exact (heavy_nil w a cap).mono fun _ _ ⟨hw, he⟩ => ⟨hw, false, he, fun _ => ⟨by omega, fun j hj => absurd hj (Nat.not_lt_zero _)⟩⟩

set_option maxHeartbeats 2000000 in
theorem walk (w : World) (s : ByteArray) (hs : s.size ≤ maxLen) (i : Int) (a : Option Addr) (n cap : Nat) (f : Nat → ActR) (hn : n ≤ maxLen) (hA : 0 < n → ∃ b off, a = some ⟨b, off, none⟩ ∧ ∀ j, j < n → ActAt w b (off + j * 4) (f j)) :
    Calls Try.prog 4 #[.string s, .int .i64 i, .slice a n cap] w fun e w' => e = .returned (.bool true) ∧ Below w.heap.size w w' := by
  have hh := heavy_any w a n cap f hn hA
  have HA : Hid (0 < n → ∃ b off, a = some ⟨b, off, none⟩ ∧ ∀ j, j < n → ActAt w b (off + j * 4) (f j)) := hA
  clear hA
  unfold maxLen at hs hn
  go_enter Try.func4, Try.ntmps4
  go_wp2_with fail
  refine hh.mono ?_
  rintro e w' ⟨hw', hv, rfl, hl⟩
  subst w'
  have HL : Hid (hv = false → Light n f) := hl
  clear hl hh
  cases hv with
  | true =>
    go_wp2_with fail
    refine (shown_any _).mono ?_
    rintro e w1 ⟨rfl, b1⟩
    go_wp2
    go_ret
    exact ⟨rfl, b1⟩
  | false =>
  have HLT : Hid (Light n f) := HL.out rfl
  clear HL
  by_cases h1 : (100 : Int) < (s.size : Int)
  · go_wp2_with fail
    refine (shown_any _).mono ?_
    rintro e w1 ⟨rfl, b1⟩
    go_wp2
    go_ret
    exact ⟨rfl, b1⟩
  have fS := full_any s (by omega)
  obtain ⟨fs, efs⟩ : ∃ fs, fs = fullB s := ⟨_, rfl⟩
  have hfs : fs.size = 64 := by rw [efs]; exact fullB_size _
  rw [← efs] at fS
  have FS : Hid (∀ W, Calls Try.prog 11 #[.string s] W fun e w' => e = .returned (.string fs) ∧ w' = W) := fS
  have HS : Hid (fs.size = 64) := hfs
  clear fS efs hfs
  go_wp2_with fail
  refine (shown_any _).mono ?_
  rintro e w1 ⟨rfl, b1⟩
  have B1 : Hid (Below w.heap.size w w1) := b1
  clear b1
  go_wp2_with fail
  refine (new_yes 5 (by omega) (by omega) _).mono ?_
  rintro e w2 ⟨p, rfl, m2, b2⟩
  have M2 : Hid (DriveAt w2 p (Dr.fresh 5) (fun k => w.heap.size ≤ k)) := m2.mono fun _ hk => Nat.le_trans B1.out.size hk
  have B2 : Hid (Below w.heap.size w w2) := below2 B1.out b2
  clear m2 b2
  go_wp2_with fail
  refine (pair_new M2.out B2.out.size).mono ?_
  rintro e w3 ⟨rp, vS, vW, vP, F, rfl, m3, b3⟩
  have M3 : Hid (Pair w3 w.heap.size p rp vS vW vP (Dr.fresh 5) F (List.replicate 5 blankB) (List.replicate 5 nilS)) := m3
  have B3 : Hid (Below w.heap.size w w3) := B2.out.trans b3
  clear m3 b3 M2
  go_wp2_with fail
  refine (FS.out _).mono ?_
  rintro e w' ⟨rfl, rfl⟩
  go_wp2_with fail
  refine (pair_write M3.out (Dr.Live.fresh 5) fs HS.out (Nat.zero_le _)).mono ?_
  rintro e w4 ⟨rfl, F', m4, b4⟩
  have M4 : Hid (Pair w4 w.heap.size p rp vS vW vP ((Dr.fresh 5).put 2 fs.data.toList) F' (List.replicate 5 blankB) (List.replicate 5 nilS)) := m4
  have B4 : Hid (Below w.heap.size w w4) := B3.out.trans b4
  clear m4 b4
  go_wp2_with fail
  refine (pair_flush M4.out ((Dr.Live.fresh 5).put _ _) (fun j => by
    by_cases e : j = 2
    · subst e; rw [Dr.put_same]; simp [Dr.fresh]
    · rw [Dr.put_other _ _ e]; simp [Dr.fresh])).mono ?_
  rintro e w5 ⟨rfl, m5, b5⟩
  have M5 : Hid (Pair w5 w.heap.size p rp vS vW vP (((Dr.fresh 5).put 2 fs.data.toList).settle fun _ c => c) F' (List.replicate 5 blankB) (List.replicate 5 nilS)) := m5
  have B5 : Hid (Below w.heap.size w w5) := B4.out.trans b5
  clear m5 b5
  go_wp2_with fail
  refine (FS.out _).mono ?_
  rintro e w' ⟨rfl, rfl⟩
  go_wp2_with fail
  refine (pair_rwrite M5.out rfl fs HS.out).mono ?_
  rintro e w6 ⟨rfl, g, cp, m6, hw6, b6⟩
  have M6 : Hid (Pair w6 w.heap.size p rp vS vW vP (((Dr.fresh 5).put 2 fs.data.toList).settle fun _ c => c) F' (List.replicate 5 blankB) (oneW (.slice (some ⟨g, 0, none⟩) 1 cp)) ∧ Wrote w6 rp vS vW vP fs g cp) := ⟨m6, hw6⟩
  have B6 : Hid (Below w.heap.size w w6) := B5.out.trans b6
  clear m6 b6 hw6
  go_wp2_with fail
  refine (pair_rflush M6.out.1 rfl M6.out.2).mono ?_
  rintro e w7 ⟨rfl, m7, b7⟩
  have M7 : Hid (Pair w7 w.heap.size p rp vS vW vP (((Dr.fresh 5).put 2 fs.data.toList).settle fun _ c => c) F' (S5 fs) (List.replicate 5 nilS)) := m7
  have B7 : Hid (Below w.heap.size w w7) := B6.out.trans b7
  clear m7 b7
  go_wp2_with fail
  refine (pair_die M7.out).mono ?_
  rintro e w8 ⟨rfl, m8, b8⟩
  obtain ⟨⟨gv, hc3⟩, hf3⟩ := m8.cells
  have hgone := m8.gone (dd_dead fs)
  have M9 : Hid (Dead2 (w8.setCell ⟨rp, 3, none⟩ (.bool true)) w.heap.size w8.heap.size p rp fs) := hgone.1
  have B9 : Hid (Below w.heap.size w (w8.setCell ⟨rp, 3, none⟩ (.bool true))) := (B7.out.trans b8).trans hgone.2
  clear m8 b8 hgone M3 M4 M5 M6 M7 B1 B2 B3 B4 B5 B6 B7
  go_wp2
  go_loopg [9] n (fun gg kk wr => ∃ k : Nat, k ≤ n ∧ gg = n - k ∧ kk = .int .i64 k ∧ Dead2 wr w.heap.size w8.heap.size p rp fs ∧ Below w.heap.size w wr)
  case atStart => exact ⟨0, Nat.zero_le _, rfl, rfl, M9.out, B9.out⟩
  case round =>
    obtain ⟨k, hk, rfl, rfl, hd, hb⟩ := hrel
    have HD : Hid (Dead2 wr w.heap.size w8.heap.size p rp fs) := hd
    have HB : Hid (Below w.heap.size w wr) := hb
    clear hd hb
    by_cases hlt : k < n
    · obtain ⟨b, off, hab, hA⟩ := HA.out (by omega)
      obtain ⟨c0, c1, c2, c3, k0, k1, k2, k3, l, hll, hli, h8, hlB⟩ := hA k hlt
      have hLt := HLT.out.2 k hlt
      obtain ⟨z, hz⟩ : ∃ z, z = f k := ⟨_, rfl⟩
      rw [← hz] at c0 c1 c2 c3 k0 k1 k2 k3 hll hli hlB hLt
      obtain ⟨kd, ii, st, aa, nn, cc⟩ := z
      simp only at c0 c1 c2 c3 k0 k1 k2 k3 hll hli hlB hLt
      have bi := bounds_i64 k1
      have hb0 : ∀ {p : Addr} {v : Value}, w.cell? p = some v → wr.cell? p = some v := fun h => (HB.out.cell (World.block_lt_of_cell? w _ h)).trans h
      replace c0 := hb0 c0
      replace c1 := hb0 c1
      replace c2 := hb0 c2
      replace c3 := hb0 c3
      have hdoes := does_any HD.out kd ii st aa nn cc (by omega) hLt.1 l hll (hli.below HB.out) h8 hlB (by omega)
      unfold Done actV at hdoes
      clear hz hll hli h8 hlB hLt bi hb0 hA k0 k1 k2 k3
      subst hab
      go_wp2_with fail
      refine hdoes.mono ?_
      rintro e w9 ⟨rfl, hd9, ht9⟩
      have HD9 : Hid (Dead2 w9 w.heap.size w8.heap.size p rp fs) := hd9
      have HB9 : Hid (Below w.heap.size w w9) := HB.out.trans (ht9.below (fun _ h => h.1) HB.out.size)
      clear hd9 ht9 hdoes
      go_wp2
      go_roundg (n - (k + 1))
      case measure => omega
      case rel => exact ⟨k + 1, by omega, rfl, by go_num, HD9.out, HB9.out⟩
    · have hkn : k = n := by omega
      subst hkn
      have h1 := HD.out.safe 2
      have h2 := HD.out.read i
      have h3 := HD.out.write i fs
      have h4 := HD.out.flush
      have h5 := HD.out.spoil i
      have h6 := HD.out.change i s
      have h7 := HD.out.dead
      have e1 : safeT fs 2 = fs := rfl
      have e2 : safeC 2 = 0 := rfl
      rw [e1, e2] at h1
      clear e1 e2
      go_wp2_with (first
        | (go_at_call 15; refine h1.mono ?_; rintro e w' ⟨rfl, rfl⟩)
        | (go_at_call 14; refine h2.mono ?_; rintro e w' ⟨rfl, rfl⟩)
        | (go_at_call 11; refine (FS.out _).mono ?_; rintro e w' ⟨rfl, rfl⟩)
        | (go_at_call 10; refine h3.mono ?_; rintro e w' ⟨rfl, rfl⟩)
        | (go_at_call 12; refine h4.mono ?_; rintro e w' ⟨rfl, rfl⟩)
        | (go_at_call 24; refine h5.mono ?_; rintro e w' ⟨rfl, rfl⟩)
        | (go_at_call 25; refine h6.mono ?_; rintro e w' ⟨rfl, rfl⟩)
        | (go_at_call 26; refine h7.mono ?_; rintro e w' ⟨rfl, rfl⟩))
      go_ret
      exact ⟨rfl, HB.out⟩

theorem walk_law (w : World) (a0 : ByteArray) (w0 : a0.size ≤ maxLen) (a1 : Int) (_w1 : (Lit.int .i64 a1).wf = true) (a2 : Option Addr) (len2 cap2 : Nat) (f2 : Nat → ActR) (m2 : len2 ≤ maxLen) (w2 : 0 < len2 → ∃ b off, a2 = some ⟨b, off, none⟩ ∧ ∀ j, j < len2 → ActAt w b (off + j * 4) (f2 j)) :
    Calls Try.prog 4 #[.string a0, .int .i64 a1, .slice a2 len2 cap2] w fun e w' => e = .returned (.bool true) ∧ Below w.heap.size w w' := by
  exact walk w a0 w0 a1 a2 len2 cap2 f2 m2 w2

theorem own : ownKnob Try.prog.godebug = none := by kernel_rfl
theorem laidOut : laidOutB Try.prog = true := by kernel_rfl
set_option linter.unusedVariables false in
set_option maxRecDepth 100000 in
theorem lifted (os : Os) (started : os.Started) (H : Type) (enc : TypeId × Value → H) :
    ReturnsInHanded {} Try.checked os 4 .any (Rows.driveDeadSpec.pre6 enc Try.prog Try.f4 Rows.driveDeadRow.domain false) (Rows.driveDeadSpec.post enc Try.prog Try.f4 false true false false) := by
  refine returnsInHanded_of_change (C := Try.checked) own started (by kernel_rfl) Try.func4
    (ChangeSpec.witness6 (enc := enc) (C := Try.checked) false ⟨#[], #[.string ByteArray.empty, .int .i64 0, .slice none 0 0], []⟩ 8 (by kernel_rfl) (by kernel_rfl) (by kernel_rfl) (by kernel_rfl)) ?_
  intro W base args ds gs before hval0 hW hcnd _
  have hval : ∀ (j : Nat) t v, Try.f4.params[j]? = some t → args[j]? = some v → Value.okWide Try.prog W .any base t v := hval0
  have hW' := hW
  obtain ⟨p, q, hA0, hV, rfl, hfz, hnd⟩ := hW
  have hA : DataW.TrodAll enc Try.prog W 0 (fun _ => true) true Try.f4.params.toList args.toList ds p := hA0
  rw [Try.params4] at hA hval
  obtain ⟨v0, vs0, d0, ds0, p0, q0, hargs, rfl, rfl, h0, r0⟩ := trodAll_cons hA
  obtain ⟨v1, vs1, d1, ds1, p1, q1, rfl, rfl, rfl, h1, r1⟩ := trodAll_cons r0
  obtain ⟨v2, vs2, d2, ds2, p2, q2, rfl, rfl, rfl, h2, r2⟩ := trodAll_cons r1
  obtain ⟨rfl, rfl, rfl⟩ := trodAll_nil r2
  obtain rfl : args = #[v0, v1, v2] := by cases args; simp_all
  obtain ⟨rfl, rfl⟩ := trodVars_none hV
  obtain ⟨a0, rfl, rfl, rfl, w0⟩ := open_string Try.underlying9 (hval 0 9 v0 rfl rfl) h0
  obtain ⟨a1, rfl, rfl, rfl, w1⟩ := open_int Try.underlying3 (hval 1 3 v1 rfl rfl) h1
  obtain ⟨a2, len2, cap2, rfl⟩ := okWide_slice Try.underlying37 (hval 2 37 v2 rfl rfl)
  have k2 := h2
  have lt2 : ∀ x ∈ p2, x.block < W.heap.size := by obtain ⟨m, hm⟩ := k2; exact DataW.trod_lt m _ _ _ hm
  obtain ⟨f2, m2, w2⟩ : ∃ f : Nat → ActR, len2 ≤ maxLen ∧ (0 < len2 → ∃ b off, a2 = some ⟨b, off, none⟩ ∧ ∀ j, j < len2 → ActAt W b (off + j * 4) (f j)) := by
    obtain ⟨fuel, hf⟩ := h2
    obtain ⟨x, l, c, f, hcs, hm, hA⟩ := open_acts hf
    simp [Value.cells] at hcs
    obtain ⟨rfl, rfl, rfl⟩ := hcs
    exact ⟨f, hm, hA⟩
  clear hA0 hval0
  simp only [List.append_nil] at hW'
  refine (walk_law W a0 w0 a1 w1 a2 len2 cap2 f2 m2 w2).mono fun e W' ⟨he, hg⟩ => ?_
  subst he
  exact ⟨_, rfl, _, _, _, [], _, [], hW', trodAll_mk1 (shut_bool Try.underlying4 _), (trodAll_cons_mk (shut_string Try.underlying9 w0) (trodAll_cons_mk (shut_int Try.underlying3 w1) (trodAll_cons_mk (Below.trod laidOut (by kernel_rfl) (of_decide_eq_true (by kernel_rfl)) k2 hg lt2) trodAll_mk0))), rfl, hg.frame _, fun h => by cases h⟩
/-- For every input the law returns true, and each argument reads as it did. -/
theorem proved : Rows.DriveDeadSaid :=
  OpenClaim.holds_of_wide 4 Try.f4 rfl rfl rfl rfl rfl rfl rfl ⟨rfl, rfl, rfl, rfl, rfl⟩ rfl rfl rfl rfl rfl (by kernel_rfl) Try.func4 (by kernel_rfl)
    (of_decide_eq_true (by kernel_rfl)) (by unfold Func.isWrapper; first | (rw [if_pos (by decide +kernel)]; kernel_rfl) | (rw [if_neg (by decide +kernel)]; exact ⟨rfl, rfl⟩))
    (fun os started H enc _ => lifted os started H enc)
end Go.Proofs.Ytpflfdbkndomfaa.driveDead
