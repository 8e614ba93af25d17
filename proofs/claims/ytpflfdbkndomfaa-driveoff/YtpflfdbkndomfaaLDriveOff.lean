/- A drive whose power is gone does nothing more, till it crashes; then what was flushed is there, and writes that were not are kept from the first one on, or not at all. Proved for every list of texts, every number and every list of numbers. -/
import Derived.Test.YtpflfdbkndomfaaDrvFirst
import Derived.ProofKit
import Derived.OpenShut
import Derived.ShutString
namespace Go.Proofs.Ytpflfdbkndomfaa.driveOff
open Go.ChangeShapes Go.WideShapes Go.ChangeAt Go.RowKit
open Go.ChangeMaps (open_string shut_string)

/-- a drive of one sector whose power goes when m more writes were done -/
structure Going (D : Dr) (ws : List (List UInt8)) (m : Nat) : Prop where
  solo : D.Solo firstB.data.toList ws
  goes : D.goes = true
  left : D.left = m
theorem Going.run {D : Dr} {ws : List (List UInt8)} {m : Nat} (h : Going D ws m) : D.runsE = if m = 0 then 42 else 0 := by
  unfold Dr.runsE; rw [h.solo.dead, h.goes, h.left]
  by_cases e : m = 0
  · subst e; rfl
  · rw [if_neg e]; simp [e]
theorem Going.take {D : Dr} {ws : List (List UInt8)} {m n : Nat} (h : Going D ws m) (hn : n = 64) : D.takeE (0 : Nat) n = if m = 0 then 42 else 0 := by
  have hr := h.run
  by_cases e : m = 0
  · rw [if_pos e] at hr ⊢
    have h1 : D.reachE (0 : Nat) = 42 := by unfold Dr.reachE; rw [hr]; rfl
    unfold Dr.takeE; rw [h1]; rfl
  · rw [if_neg e] at hr ⊢
    have h1 : D.reachE (0 : Nat) = 0 := reachE_yes hr (by rw [h.solo.len]; omega)
    unfold Dr.takeE; rw [h1, if_pos rfl, if_pos hn]
theorem Going.write {D : Dr} {ws : List (List UInt8)} {m : Nat} (h : Going D ws (m + 1)) (s : List UInt8) : Going (D.write 0 s) (ws ++ [s]) m :=
  ⟨(h.solo.put s).spend, h.goes, by show (if D.goes then D.left - 1 else D.left) = m; rw [h.goes, h.left]; rfl⟩
theorem Going.readNo {D : Dr} {ws : List (List UInt8)} (h : Going D ws 0) : D.readE (0 : Nat) = 42 ∧ D.readS (0 : Nat) = [] := by
  have hr := h.run
  have h1 : D.reachE (0 : Nat) = 42 := by unfold Dr.reachE; rw [hr]; rfl
  have e : D.readE (0 : Nat) = 42 := by unfold Dr.readE; rw [h1]; rfl
  exact ⟨e, by unfold Dr.readS; rw [e]; rfl⟩
theorem Going.readYes {D : Dr} {ws : List (List UInt8)} {m : Nat} (h : Going D ws (m + 1)) : D.readE (0 : Nat) = 0 := by
  have hr := h.run
  have h1 : D.reachE (0 : Nat) = 0 := reachE_yes (by rw [hr, if_neg (by omega)]) (by rw [h.solo.len]; omega)
  unfold Dr.readE; rw [h1, if_pos rfl]
  have := h.solo.spoilt
  simp only [Int.toNat_natCast, this]; rfl
theorem write_going {w : World} {B p m : Nat} {D : Dr} {ws : List (List UInt8)} (h : Mine w B p D) (hg : Going D ws (m + 1)) (s : ByteArray) (hs : s.size = 64) (hlen : ws.length ≤ 1000000) :
    Calls Try.prog 10 #[.pointer (some ⟨p, 0, none⟩), .int .i64 0, .string s] w fun e w' => e = .returned (.int .i64 0) ∧ Mine w' B p (D.write 0 s.data.toList) ∧ Below B w w' :=
  (write_yes h.1 0 s (by rw [hg.take hs, if_neg (by omega)]) (by rw [hg.solo.len]; omega) (hg.solo.lens hlen 0)).mono fun _ _ ⟨he, hd, ho⟩ => ⟨he, ⟨based hd h.2, Nat.le_trans h.2 ho.size⟩, turned ho h.2⟩
theorem write_gone {w : World} {B p : Nat} {D : Dr} {ws : List (List UInt8)} (h : Mine w B p D) (hg : Going D ws 0) (s : ByteArray) (hs : s.size = 64) :
    Calls Try.prog 10 #[.pointer (some ⟨p, 0, none⟩), .int .i64 0, .string s] w fun e w' => e = .returned (.int .i64 42) ∧ w' = w := by
  have e : D.takeE (0 : Nat) s.size = 42 := by rw [hg.take hs]; rfl
  have := write_no h.1 (0 : Nat) s (by rw [e]; omega)
  rw [e] at this
  exact this

set_option maxHeartbeats 400000 in
theorem walk_long (w : World) (a : Option Addr) (cap n : Nat) (x : Nat) (b : Option Addr) (cb nb : Nat) (hn : n ≤ maxLen) (hb : nb ≤ maxLen) (h : 60 < n ∨ 50 < nb) :
    Calls Try.prog 5 #[.slice a n cap, .int .u8 (x : Nat), .slice b nb cb] w fun e w' => e = .returned (.bool true) ∧ Below w.heap.size w w' := by
  unfold maxLen at hn hb
  by_cases h1 : (60 : Int) < (n : Int)
  · clear h
    go_enter Try.func5, Try.ntmps5
    go_wp2_with fail
    refine (shown_any _).mono ?_
    rintro e w1 ⟨rfl, b1⟩
    go_wp2
    go_ret
    exact ⟨rfl, b1⟩
  · have h2 : (50 : Int) < (nb : Int) := by omega
    clear h
    go_enter Try.func5, Try.ntmps5
    go_wp2_with fail
    refine (shown_any _).mono ?_
    rintro e w1 ⟨rfl, b1⟩
    go_wp2
    go_ret
    exact ⟨rfl, b1⟩

theorem rem70 (x : Nat) : ∃ m : Nat, (x : Int) % 70 = (m : Int) ∧ m < 70 := ⟨x % 70, by omega, Nat.mod_lt _ (by omega)⟩
theorem pick_rem (x d : Nat) : ∃ r : Nat, (x : Int) % ((d : Int) + 1) = (r : Int) ∧ r = x % (d + 1) := ⟨x % (d + 1), (Int.natCast_emod x (d + 1)).symm, rfl⟩

set_option maxHeartbeats 4000000 in
theorem walk_short (w : World) (a : Option Addr) (cap : Nat) (l : List ByteArray) (hl : l.length ≤ 60) (hsz : ∀ j, (l.getD j ByteArray.empty).size ≤ maxLen) (hr : RowS w a l.length (fun j => l.getD j ByteArray.empty)) (x : Nat) (hx : x < 256)
    (b : Option Addr) (cb : Nat) (keep : List Nat) (hkl : keep.length ≤ 50) (hk8 : ∀ j, keep.getD j 0 < 256) (hkr : RowI .u8 w b keep.length (fun j => ((keep.getD j 0 : Nat) : Int))) :
    Calls Try.prog 5 #[.slice a l.length cap, .int .u8 (x : Nat), .slice b keep.length cb] w fun e w' => e = .returned (.bool true) ∧ Below w.heap.size w w' := by
  obtain ⟨m, hm, hm70⟩ := rem70 x
  obtain ⟨n, hn⟩ : ∃ n, n = l.length := ⟨_, rfl⟩
  obtain ⟨nk, hnk⟩ : ∃ nk, nk = keep.length := ⟨_, rfl⟩
  obtain ⟨d, hd⟩ : ∃ d, d = min m n := ⟨_, rfl⟩
  have hmin : ∀ (ts : Array TypeId) (ty : TypeId) (W : World), (Builtin.min_ ts ty #[.int .i64 (m : Int), .int .i64 (n : Int)]).run Try.prog W = .ok (.int .i64 (d : Int)) W := by
    intro ts ty W
    have e : (if (n : Int) < (m : Int) then (n : Int) else (m : Int)) = (d : Int) := by split <;> omega
    simp [Builtin.min_, Builtin.min2]
    omega
  have hcr : ∀ W D ws, Below w.heap.size w W → (p : Nat) → Mine W w.heap.size p D → D.Solo firstB.data.toList ws → ws.length ≤ 1000000 → Calls Try.prog 13 #[.pointer (some ⟨p, 0, none⟩), .slice b nk cb] W fun e w' => e = .returned (.tuple #[]) ∧ Mine w' w.heap.size p (D.crash keep) ∧ Below w.heap.size W w' := by
    intro W D ws hb p hm hs hl
    rw [hnk]
    exact crash_mine hm (hs.lens hl) keep b cb (hkr.below hb) (by unfold maxLen; omega) hk8 (fun h0 y hy => by
      obtain ⟨bb, off, e, hc⟩ := hkr 0 h0
      have := World.block_lt_of_cell? w _ hc
      rw [hy] at e; injection e with e; rw [e]; exact this)
  rw [← hn] at hl hr ⊢
  rw [← hnk] at hkl hkr ⊢
  have HCR : Hid (∀ W D ws, Below w.heap.size w W → (p : Nat) → Mine W w.heap.size p D → D.Solo firstB.data.toList ws → ws.length ≤ 1000000 → Calls Try.prog 13 #[.pointer (some ⟨p, 0, none⟩), .slice b nk cb] W fun e w' => e = .returned (.tuple #[]) ∧ Mine w' w.heap.size p (D.crash keep) ∧ Below w.heap.size W w') := hcr
  have HN : Hid (n = l.length) := hn
  have HNK : Hid (nk = keep.length) := hnk
  have HD : Hid (d = min m n) := hd
  have HR : Hid (RowS w a n (fun j => l.getD j ByteArray.empty)) := hr
  have HKR : Hid (RowI .u8 w b nk (fun j => ((keep.getD j 0 : Nat) : Int))) := hkr
  have HZ : Hid (∀ j, (l.getD j ByteArray.empty).size ≤ maxLen) := hsz
  have HK8 : Hid (∀ j, keep.getD j 0 < 256) := hk8
  have d0 : ¬ (60 : Int) < (n : Int) := by omega
  have d1 : ¬ (50 : Int) < (nk : Int) := by omega
  have hn60 : n ≤ 60 := hl
  have hdm : d ≤ m := by omega
  have hdn : d ≤ n := by omega
  clear hn hr hsz hl hkr hk8 hcr hnk hd
  go_enter Try.func5, Try.ntmps5
  go_wp2_with fail
  refine (shown_any _).mono ?_
  rintro e w1 ⟨rfl, b1⟩
  have B1 : Hid (Below w.heap.size w w1) := b1
  clear b1
  go_wp2_with fail
  refine (new_mine 1 w.heap.size (by omega) (by omega) _ B1.out.size).mono ?_
  rintro e w2 ⟨p, rfl, m2, b2⟩
  have M2 : Hid (Mine w2 w.heap.size p (Dr.fresh 1)) := m2
  have B2 : Hid (Below w.heap.size w w2) := B1.out.trans b2
  clear m2 b2
  go_wp2_with fail
  refine (first_any _).mono ?_
  rintro e w' ⟨rfl, rfl⟩
  go_wp2_with fail
  refine (write_mine M2.out (Dr.Live.fresh 1) 0 (by omega) firstB first_size (Nat.zero_le _)).mono ?_
  rintro e w3 ⟨rfl, m3, b3⟩
  have M3 : Hid (Mine w3 w.heap.size p ((Dr.fresh 1).put 0 firstB.data.toList)) := m3
  have B3 : Hid (Below w.heap.size w w3) := B2.out.trans b3
  clear m3 b3
  go_wp2_with fail
  refine (flush_mine M3.out ((Dr.Live.fresh 1).put _ _) (one_lens _)).mono ?_
  rintro e w4 ⟨rfl, m4, b4⟩
  have M4 : Hid (Mine w4 w.heap.size p St0) := m4
  have B4 : Hid (Below w.heap.size w w4) := B3.out.trans b4
  clear m4 b4
  go_wp2_with fail
  refine (off_mine M4.out (m : Nat) (by omega)).mono ?_
  rintro e w5 ⟨rfl, m5, b5⟩
  have M5 : Hid (Mine w5 w.heap.size p (St0.off (m : Nat))) := m5
  have B5 : Hid (Below w.heap.size w w5) := B4.out.trans b5
  have G5 : Hid (Going (St0.off (m : Nat)) (fulls l (min m 0)) (m - 0)) := ⟨by rw [Nat.min_zero]; exact st0_solo.off _, rfl, by show ((m : Nat) : Int).toNat = _; simp⟩
  clear m5 b5
  go_wp2
  go_loopw [10] (fun i wr => ∃ (k : Nat) (D : Dr), k ≤ n ∧ i = .int .i64 k ∧ Mine wr w.heap.size p D ∧ Going D (fulls l (min m k)) (m - k) ∧ Shorts l k ∧ Below w.heap.size w wr) (fun i _ => n - (intOf i).toNat)
  case atStart => exact ⟨0, _, Nat.zero_le _, rfl, M5.out, G5.out, fun j hj => absurd hj (Nat.not_lt_zero _), B5.out⟩
  case round =>
    obtain ⟨k, D, hk, rfl, hmm, hg, hsh, hb⟩ := hrel
    have HM : Hid (Mine wr w.heap.size p D) := hmm
    have HG : Hid (Going D (fulls l (min m k)) (m - k)) := hg
    have HSH : Hid (Shorts l k) := hsh
    have HB : Hid (Below w.heap.size w wr) := hb
    have HRr : Hid (RowS wr a n (fun j => l.getD j ByteArray.empty)) := HR.out.below HB.out
    clear hmm hg hsh hb
    by_cases hlt : k < n
    · obtain ⟨bb, off, rfl, hc⟩ := HRr.out k hlt
      obtain ⟨s, es⟩ : ∃ s, s = l.getD k ByteArray.empty := ⟨_, rfl⟩
      replace hc : wr.cell? ⟨bb, off + k, none⟩ = some (.string (l.getD k ByteArray.empty)) := hc
      have hsz := HZ.out k
      rw [← es] at hc hsz
      have ES : Hid (s = l.getD k ByteArray.empty) := es
      unfold maxLen at hsz
      clear es
      by_cases h100 : (100 : Int) < (s.size : Int)
      · go_wp2_with fail
        refine (shown_any _).mono ?_
        rintro e w5 ⟨rfl, b5⟩
        have B5 : Hid (Below w.heap.size w w5) := below2 HB.out b5
        clear b5
        go_wp2
        go_ret
        exact ⟨rfl, B5.out⟩
      · have hs1 : s.size ≤ 100 := by omega
        have SH5 : Hid (Shorts l (k + 1)) := fun j hj => by
          by_cases e : j = k
          · subst e; rw [← ES.out]; exact hs1
          · exact HSH.out j (by omega)
        by_cases hkm : k < m
        · have hG' : Going D (fulls l k) ((m - (k + 1)) + 1) := by have := HG.out; rwa [show min m k = k by omega, show m - k = (m - (k + 1)) + 1 by omega] at this
          have HG' : Hid (Going D (fulls l k) ((m - (k + 1)) + 1)) := hG'
          clear hG'
          go_wp2_with fail
          refine (full_any s hs1 _).mono ?_
          rintro e w' ⟨rfl, rfl⟩
          go_wp2_with fail
          refine (write_going HM.out HG'.out (fullB s) (fullB_size s) (by rw [fulls_length l (by rw [← HN.out]; exact hk)]; omega)).mono ?_
          rintro e w6 ⟨rfl, m6, b6⟩
          have M6 : Hid (Mine w6 w.heap.size p (D.write 0 (fullB s).data.toList)) := m6
          have B6 : Hid (Below w.heap.size w w6) := HB.out.trans b6
          have G6 : Hid (Going (D.write 0 (fullB s).data.toList) (fulls l (min m (k + 1))) (m - (k + 1))) := by
            unfold Hid; rw [show min m (k + 1) = k + 1 by omega, fulls_succ l (by rw [← HN.out]; exact hlt), ← ES.out]; exact HG'.out.write _
          clear m6 b6
          go_wp2
          go_roundw
          case rel => exact ⟨k + 1, _, by omega, by go_num, M6.out, G6.out, SH5.out, B6.out⟩
          case measure => simp [intOf]; omega
        · have hG' : Going D (fulls l m) 0 := by have := HG.out; rwa [show min m k = m by omega, show m - k = 0 by omega] at this
          have HG' : Hid (Going D (fulls l m) 0) := hG'
          clear hG'
          go_wp2_with fail
          refine (full_any s hs1 _).mono ?_
          rintro e w' ⟨rfl, rfl⟩
          go_wp2_with fail
          refine (write_gone HM.out HG'.out (fullB s) (fullB_size s)).mono ?_
          rintro e w' ⟨rfl, rfl⟩
          have G6 : Hid (Going D (fulls l (min m (k + 1))) (m - (k + 1))) := by
            unfold Hid; rw [show min m (k + 1) = m by omega, show m - (k + 1) = 0 by omega]; exact HG'.out
          go_wp2
          go_roundw
          case rel => exact ⟨k + 1, _, by omega, by go_num, HM.out, G6.out, SH5.out, HB.out⟩
          case measure => simp [intOf]; omega
    · have hkn : k = n := by omega
      subst hkn
      have HG0 : Hid (Going D (fulls l d) (m - k)) := by have := HG.out; rwa [← HD.out] at this
      have HFL : Hid ((fulls l d).length = d) := fulls_length l (by rw [← HN.out]; exact hdn)
      by_cases hmk : m ≤ k
      · have hmk' : (m : Int) ≤ (k : Int) := by omega
        have hrd := read_mine_any HM.out (0 : Nat)
        have hgn : Going D (fulls l d) 0 := by have := HG0.out; rwa [show m - k = 0 by omega] at this
        rw [hgn.readNo.1, hgn.readNo.2] at hrd
        have HRD : Hid (Calls Try.prog 14 #[.pointer (some ⟨p, 0, none⟩), .int .i64 0] wr fun e w' => e = .returned (.tuple #[.string (txt []), .int .i64 42]) ∧ Mine w' w.heap.size p D ∧ Below w.heap.size wr w') := hrd
        clear hrd hgn
        go_wp2_with fail
        refine HRD.out.mono ?_
        rintro e w6 ⟨rfl, m6, b6⟩
        have M6 : Hid (Mine w6 w.heap.size p D) := m6
        have B6 : Hid (Below w.heap.size w w6) := HB.out.trans b6
        clear m6 b6
        have hpd := pending_mine M6.out (by rw [HG0.out.solo.pending, HFL.out]; omega)
        rw [HG0.out.solo.pending, HFL.out] at hpd
        have HP : Hid (Calls Try.prog 17 #[.pointer (some ⟨p, 0, none⟩)] w6 fun e w' => e = .returned (.int .i64 (d : Nat)) ∧ Mine w' w.heap.size p D ∧ Below w.heap.size w6 w') := hpd
        clear hpd
        go_wp2_with fail
        refine HP.out.mono ?_
        rintro e w7 ⟨rfl, m7, b7⟩
        have M7 : Hid (Mine w7 w.heap.size p D) := m7
        have B7 : Hid (Below w.heap.size w w7) := B6.out.trans b7
        clear m7 b7
        go_wp2_with fail
        refine (HCR.out w7 D _ B7.out p M7.out HG0.out.solo (by rw [HFL.out]; omega)).mono ?_
        rintro e w8 ⟨rfl, m8, b8⟩
        have M8 : Hid (Mine w8 w.heap.size p (D.crash keep)) := m8
        have B8 : Hid (Below w.heap.size w w8) := B7.out.trans b8
        have CS0 := HG0.out.solo.crash keep
        rw [HFL.out] at CS0
        clear m8 b8
        by_cases hnk0 : nk = 0
        · have e0 : Dr.keeps keep 0 d = 0 := by unfold Dr.keeps; rw [← HNK.out, if_pos hnk0]
          rw [e0, if_neg (fun h => absurd h.1 (Nat.lt_irrefl 0))] at CS0
          have CS : Hid ((D.crash keep).Solo firstB.data.toList []) := CS0
          have hk0 : ¬ (0 : Int) < (nk : Int) := by omega
          clear CS0 e0
          go_wp2_with fail
          refine (read_mine M8.out (Dr.crash_live CS.out) 0 (by omega) CS.out.spoilt firstB CS.out.last).mono ?_
          rintro e w9 ⟨rfl, m9, b9⟩
          have M9 : Hid (Mine w9 w.heap.size p (D.crash keep)) := m9
          have B9 : Hid (Below w.heap.size w w9) := B8.out.trans b9
          clear m9 b9
          go_wp2_with fail
          refine (first_any _).mono ?_
          rintro e w' ⟨rfl, rfl⟩
          go_wp2_with fail
          refine (full_any ⟨#[]⟩ (by decide) _).mono ?_
          rintro e w' ⟨rfl, rfl⟩
          go_wp2_with fail
          refine (write_mine M9.out (Dr.crash_live CS.out) 0 (by omega) _ (fullB_size _) (by rw [CS.out.writes]; exact Nat.zero_le _)).mono ?_
          rintro e w10 ⟨rfl, m10, b10⟩
          have B10 : Hid (Below w.heap.size w w10) := B9.out.trans b10
          clear m10 b10
          go_wp2
          go_ret
          exact ⟨rfl, B10.out⟩
        · obtain ⟨r, hr, er⟩ := pick_rem (keep.getD 0 0) d
          have e0 : Dr.keeps keep 0 d = r := by unfold Dr.keeps; rw [← HNK.out, if_neg hnk0, Nat.zero_mod, er]
          have hrd : r ≤ d := by have := Nat.mod_lt (keep.getD 0 0) (show 0 < d + 1 by omega); omega
          have hk0 : (0 : Int) < (nk : Int) := by omega
          obtain ⟨b3, o3, rfl, hc3⟩ := HKR.out 0 (by omega)
          replace hc3 : w.cell? ⟨b3, o3 + 0, none⟩ = some (.int .u8 (keep.getD 0 0 : Nat)) := hc3
          have hb3 := World.block_lt_of_cell? w _ hc3
          have hk8 := HK8.out 0
          obtain ⟨y, ey⟩ : ∃ y, y = keep.getD 0 0 := ⟨_, rfl⟩
          rw [← ey] at hc3 hr hk8
          rw [Nat.add_zero] at hc3
          have HC3 : Hid (∀ W, Below w.heap.size w W → W.cell? ⟨b3, o3, none⟩ = some (.int .u8 (y : Nat))) := fun W hW => (hW.cell (p := ⟨b3, o3, none⟩) hb3).trans hc3
          have hnk1 : 1 ≤ nk := by omega
          rw [e0] at CS0
          clear er ey e0 hc3 hb3 hnk0
          by_cases hr0 : r = 0
          · subst hr0
            rw [if_neg (fun h => absurd h.1 (Nat.lt_irrefl 0))] at CS0
            have CS : Hid ((D.crash keep).Solo firstB.data.toList []) := CS0
            clear CS0 hrd
            go_wp2_with fail
            refine (read_mine M8.out (Dr.crash_live CS.out) 0 (by omega) CS.out.spoilt firstB CS.out.last).mono ?_
            rintro e w9 ⟨rfl, m9, b9⟩
            have M9 : Hid (Mine w9 w.heap.size p (D.crash keep)) := m9
            have B9 : Hid (Below w.heap.size w w9) := B8.out.trans b9
            clear m9 b9
            have hc3 := HC3.out w9 B9.out
            go_wp2_with fail
            refine (first_any _).mono ?_
            rintro e w' ⟨rfl, rfl⟩
            go_wp2_with fail
            refine (full_any ⟨#[]⟩ (by decide) _).mono ?_
            rintro e w' ⟨rfl, rfl⟩
            go_wp2_with fail
            refine (write_mine M9.out (Dr.crash_live CS.out) 0 (by omega) _ (fullB_size _) (by rw [CS.out.writes]; exact Nat.zero_le _)).mono ?_
            rintro e w10 ⟨rfl, m10, b10⟩
            have B10 : Hid (Below w.heap.size w w10) := B9.out.trans b10
            clear m10 b10
            go_wp2
            go_ret
            exact ⟨rfl, B10.out⟩
          · obtain ⟨q, rfl⟩ : ∃ q, r = q + 1 := ⟨r - 1, by omega⟩
            rw [if_pos ⟨by omega, fun e => by have := HFL.out; rw [e] at this; simp at this; omega⟩, Nat.add_sub_cancel, fulls_get l (by rw [← HN.out]; exact hdn) (by omega)] at CS0
            obtain ⟨b4, o4, rfl, hc4⟩ := HR.out q (by omega)
            replace hc4 : w.cell? ⟨b4, o4 + q, none⟩ = some (.string (l.getD q ByteArray.empty)) := hc4
            have hb4 := World.block_lt_of_cell? w _ hc4
            have hs1 : (l.getD q ByteArray.empty).size ≤ 100 := HSH.out q (by omega)
            obtain ⟨s, es⟩ : ∃ s, s = l.getD q ByteArray.empty := ⟨_, rfl⟩
            rw [← es] at hc4 hs1 CS0
            have HC4 : Hid (∀ W, Below w.heap.size w W → W.cell? ⟨b4, o4 + q, none⟩ = some (.string s)) := fun W hW => (hW.cell (p := ⟨b4, o4 + q, none⟩) hb4).trans hc4
            have CS : Hid ((D.crash keep).Solo (fullB s).data.toList []) := CS0
            have hrn : q + 1 ≤ k := by omega
            clear CS0 es hc4 hb4 hr0
            go_wp2_with fail
            refine (read_mine M8.out (Dr.crash_live CS.out) 0 (by omega) CS.out.spoilt (fullB s) CS.out.last).mono ?_
            rintro e w9 ⟨rfl, m9, b9⟩
            have M9 : Hid (Mine w9 w.heap.size p (D.crash keep)) := m9
            have B9 : Hid (Below w.heap.size w w9) := B8.out.trans b9
            clear m9 b9
            have hc3 := HC3.out w9 B9.out
            have hc4 := HC4.out w9 B9.out
            go_wp2_with fail
            refine (first_any _).mono ?_
            rintro e w' ⟨rfl, rfl⟩
            go_wp2_with fail
            refine (full_any s hs1 _).mono ?_
            rintro e w' ⟨rfl, rfl⟩
            go_wp2_with fail
            refine (full_any ⟨#[]⟩ (by decide) _).mono ?_
            rintro e w' ⟨rfl, rfl⟩
            go_wp2_with fail
            refine (write_mine M9.out (Dr.crash_live CS.out) 0 (by omega) _ (fullB_size _) (by rw [CS.out.writes]; exact Nat.zero_le _)).mono ?_
            rintro e w10 ⟨rfl, m10, b10⟩
            have B10 : Hid (Below w.heap.size w w10) := B9.out.trans b10
            clear m10 b10
            go_wp2
            go_ret
            exact ⟨rfl, B10.out⟩
      · have hmk' : ¬ (m : Int) ≤ (k : Int) := by omega
        have hrd := read_mine_any HM.out (0 : Nat)
        have hgn : Going D (fulls l d) ((m - k - 1) + 1) := by have := HG0.out; rwa [show m - k = (m - k - 1) + 1 by omega] at this
        rw [hgn.readYes] at hrd
        obtain ⟨tx, htx⟩ : ∃ tx, tx = txt (D.readS (0 : Nat)) := ⟨_, rfl⟩
        rw [← htx] at hrd
        have HRD : Hid (Calls Try.prog 14 #[.pointer (some ⟨p, 0, none⟩), .int .i64 0] wr fun e w' => e = .returned (.tuple #[.string tx, .int .i64 0]) ∧ Mine w' w.heap.size p D ∧ Below w.heap.size wr w') := hrd
        clear hrd hgn htx
        go_wp2_with fail
        refine HRD.out.mono ?_
        rintro e w6 ⟨rfl, m6, b6⟩
        have M6 : Hid (Mine w6 w.heap.size p D) := m6
        have B6 : Hid (Below w.heap.size w w6) := HB.out.trans b6
        clear m6 b6
        have hpd := pending_mine M6.out (by rw [HG0.out.solo.pending, HFL.out]; omega)
        rw [HG0.out.solo.pending, HFL.out] at hpd
        have HP : Hid (Calls Try.prog 17 #[.pointer (some ⟨p, 0, none⟩)] w6 fun e w' => e = .returned (.int .i64 (d : Nat)) ∧ Mine w' w.heap.size p D ∧ Below w.heap.size w6 w') := hpd
        clear hpd
        go_wp2_with fail
        refine HP.out.mono ?_
        rintro e w7 ⟨rfl, m7, b7⟩
        have M7 : Hid (Mine w7 w.heap.size p D) := m7
        have B7 : Hid (Below w.heap.size w w7) := B6.out.trans b7
        clear m7 b7
        go_wp2_with fail
        refine (HCR.out w7 D _ B7.out p M7.out HG0.out.solo (by rw [HFL.out]; omega)).mono ?_
        rintro e w8 ⟨rfl, m8, b8⟩
        have M8 : Hid (Mine w8 w.heap.size p (D.crash keep)) := m8
        have B8 : Hid (Below w.heap.size w w8) := B7.out.trans b8
        have CS0 := HG0.out.solo.crash keep
        rw [HFL.out] at CS0
        clear m8 b8
        by_cases hnk0 : nk = 0
        · have e0 : Dr.keeps keep 0 d = 0 := by unfold Dr.keeps; rw [← HNK.out, if_pos hnk0]
          rw [e0, if_neg (fun h => absurd h.1 (Nat.lt_irrefl 0))] at CS0
          have CS : Hid ((D.crash keep).Solo firstB.data.toList []) := CS0
          have hk0 : ¬ (0 : Int) < (nk : Int) := by omega
          clear CS0 e0
          go_wp2_with fail
          refine (read_mine M8.out (Dr.crash_live CS.out) 0 (by omega) CS.out.spoilt firstB CS.out.last).mono ?_
          rintro e w9 ⟨rfl, m9, b9⟩
          have M9 : Hid (Mine w9 w.heap.size p (D.crash keep)) := m9
          have B9 : Hid (Below w.heap.size w w9) := B8.out.trans b9
          clear m9 b9
          go_wp2_with fail
          refine (first_any _).mono ?_
          rintro e w' ⟨rfl, rfl⟩
          go_wp2_with fail
          refine (full_any ⟨#[]⟩ (by decide) _).mono ?_
          rintro e w' ⟨rfl, rfl⟩
          go_wp2_with fail
          refine (write_mine M9.out (Dr.crash_live CS.out) 0 (by omega) _ (fullB_size _) (by rw [CS.out.writes]; exact Nat.zero_le _)).mono ?_
          rintro e w10 ⟨rfl, m10, b10⟩
          have B10 : Hid (Below w.heap.size w w10) := B9.out.trans b10
          clear m10 b10
          go_wp2
          go_ret
          exact ⟨rfl, B10.out⟩
        · obtain ⟨r, hr, er⟩ := pick_rem (keep.getD 0 0) d
          have e0 : Dr.keeps keep 0 d = r := by unfold Dr.keeps; rw [← HNK.out, if_neg hnk0, Nat.zero_mod, er]
          have hrd : r ≤ d := by have := Nat.mod_lt (keep.getD 0 0) (show 0 < d + 1 by omega); omega
          have hk0 : (0 : Int) < (nk : Int) := by omega
          obtain ⟨b3, o3, rfl, hc3⟩ := HKR.out 0 (by omega)
          replace hc3 : w.cell? ⟨b3, o3 + 0, none⟩ = some (.int .u8 (keep.getD 0 0 : Nat)) := hc3
          have hb3 := World.block_lt_of_cell? w _ hc3
          have hk8 := HK8.out 0
          obtain ⟨y, ey⟩ : ∃ y, y = keep.getD 0 0 := ⟨_, rfl⟩
          rw [← ey] at hc3 hr hk8
          rw [Nat.add_zero] at hc3
          have HC3 : Hid (∀ W, Below w.heap.size w W → W.cell? ⟨b3, o3, none⟩ = some (.int .u8 (y : Nat))) := fun W hW => (hW.cell (p := ⟨b3, o3, none⟩) hb3).trans hc3
          have hnk1 : 1 ≤ nk := by omega
          rw [e0] at CS0
          clear er ey e0 hc3 hb3 hnk0
          by_cases hr0 : r = 0
          · subst hr0
            rw [if_neg (fun h => absurd h.1 (Nat.lt_irrefl 0))] at CS0
            have CS : Hid ((D.crash keep).Solo firstB.data.toList []) := CS0
            clear CS0 hrd
            go_wp2_with fail
            refine (read_mine M8.out (Dr.crash_live CS.out) 0 (by omega) CS.out.spoilt firstB CS.out.last).mono ?_
            rintro e w9 ⟨rfl, m9, b9⟩
            have M9 : Hid (Mine w9 w.heap.size p (D.crash keep)) := m9
            have B9 : Hid (Below w.heap.size w w9) := B8.out.trans b9
            clear m9 b9
            have hc3 := HC3.out w9 B9.out
            go_wp2_with fail
            refine (first_any _).mono ?_
            rintro e w' ⟨rfl, rfl⟩
            go_wp2_with fail
            refine (full_any ⟨#[]⟩ (by decide) _).mono ?_
            rintro e w' ⟨rfl, rfl⟩
            go_wp2_with fail
            refine (write_mine M9.out (Dr.crash_live CS.out) 0 (by omega) _ (fullB_size _) (by rw [CS.out.writes]; exact Nat.zero_le _)).mono ?_
            rintro e w10 ⟨rfl, m10, b10⟩
            have B10 : Hid (Below w.heap.size w w10) := B9.out.trans b10
            clear m10 b10
            go_wp2
            go_ret
            exact ⟨rfl, B10.out⟩
          · obtain ⟨q, rfl⟩ : ∃ q, r = q + 1 := ⟨r - 1, by omega⟩
            rw [if_pos ⟨by omega, fun e => by have := HFL.out; rw [e] at this; simp at this; omega⟩, Nat.add_sub_cancel, fulls_get l (by rw [← HN.out]; exact hdn) (by omega)] at CS0
            obtain ⟨b4, o4, rfl, hc4⟩ := HR.out q (by omega)
            replace hc4 : w.cell? ⟨b4, o4 + q, none⟩ = some (.string (l.getD q ByteArray.empty)) := hc4
            have hb4 := World.block_lt_of_cell? w _ hc4
            have hs1 : (l.getD q ByteArray.empty).size ≤ 100 := HSH.out q (by omega)
            obtain ⟨s, es⟩ : ∃ s, s = l.getD q ByteArray.empty := ⟨_, rfl⟩
            rw [← es] at hc4 hs1 CS0
            have HC4 : Hid (∀ W, Below w.heap.size w W → W.cell? ⟨b4, o4 + q, none⟩ = some (.string s)) := fun W hW => (hW.cell (p := ⟨b4, o4 + q, none⟩) hb4).trans hc4
            have CS : Hid ((D.crash keep).Solo (fullB s).data.toList []) := CS0
            have hrn : q + 1 ≤ k := by omega
            clear CS0 es hc4 hb4 hr0
            go_wp2_with fail
            refine (read_mine M8.out (Dr.crash_live CS.out) 0 (by omega) CS.out.spoilt (fullB s) CS.out.last).mono ?_
            rintro e w9 ⟨rfl, m9, b9⟩
            have M9 : Hid (Mine w9 w.heap.size p (D.crash keep)) := m9
            have B9 : Hid (Below w.heap.size w w9) := B8.out.trans b9
            clear m9 b9
            have hc3 := HC3.out w9 B9.out
            have hc4 := HC4.out w9 B9.out
            go_wp2_with fail
            refine (first_any _).mono ?_
            rintro e w' ⟨rfl, rfl⟩
            go_wp2_with fail
            refine (full_any s hs1 _).mono ?_
            rintro e w' ⟨rfl, rfl⟩
            go_wp2_with fail
            refine (full_any ⟨#[]⟩ (by decide) _).mono ?_
            rintro e w' ⟨rfl, rfl⟩
            go_wp2_with fail
            refine (write_mine M9.out (Dr.crash_live CS.out) 0 (by omega) _ (fullB_size _) (by rw [CS.out.writes]; exact Nat.zero_le _)).mono ?_
            rintro e w10 ⟨rfl, m10, b10⟩
            have B10 : Hid (Below w.heap.size w w10) := B9.out.trans b10
            clear m10 b10
            go_wp2
            go_ret
            exact ⟨rfl, B10.out⟩

theorem walk (w : World) (a0 : Option Addr) (len0 cap0 : Nat) (z0 : List ByteArray) (w0 : IsStrs w a0 len0 cap0 z0) (a1 : Int) (w1 : (Lit.int .u8 a1).wf = true) (a2 : Option Addr) (len2 cap2 : Nat) (z2 : List Int) (w2 : IsRow .u8 w a2 len2 cap2 z2) :
    Calls Try.prog 5 #[.slice a0 len0 cap0, .int .u8 a1, .slice a2 len2 cap2] w fun e w' => e = .returned (.bool true) ∧ Below w.heap.size w w' := by
  obtain ⟨l, rfl, hm, hsz, hr⟩ := w0.row
  have b1 := bounds_u8 w1
  obtain ⟨x, rfl⟩ := Int.eq_ofNat_of_zero_le b1.1
  obtain ⟨keep, rfl, hm2, hk8, hkr⟩ := w2.rowN 256 (by decide) (fun y hy => by have := bounds_u8 hy; omega)
  by_cases h : 60 < l.length ∨ 50 < keep.length
  · exact walk_long w a0 cap0 l.length x a2 cap2 keep.length hm hm2 h
  · exact walk_short w a0 cap0 l (by omega) hsz hr x (by omega) a2 cap2 keep (by omega) hk8 hkr

theorem own : ownKnob Try.prog.godebug = none := by kernel_rfl
theorem laidOut : laidOutB Try.prog = true := by kernel_rfl
set_option linter.unusedVariables false in
set_option maxRecDepth 100000 in
theorem lifted (os : Os) (started : os.Started) (H : Type) (enc : TypeId × Value → H) :
    ReturnsInHanded {} Try.checked os 5 .any (Rows.driveOffSpec.pre6 enc Try.prog Try.f5 Rows.driveOffRow.domain false) (Rows.driveOffSpec.post enc Try.prog Try.f5 false true false false) := by
  refine returnsInHanded_of_change (C := Try.checked) own started (by kernel_rfl) Try.func5
    (ChangeSpec.witness6 (enc := enc) (C := Try.checked) false ⟨#[], #[.slice none 0 0, .int .u8 0, .slice none 0 0], []⟩ 8 (by kernel_rfl) (by kernel_rfl) (by kernel_rfl) (by kernel_rfl)) ?_
  intro W base args ds gs before hval0 hW hcnd _
  have hval : ∀ (j : Nat) t v, Try.f5.params[j]? = some t → args[j]? = some v → Value.okWide Try.prog W .any base t v := hval0
  have hW' := hW
  obtain ⟨p, q, hA0, hV, rfl, hfz, hnd⟩ := hW
  have hA : DataW.TrodAll enc Try.prog W 0 (fun _ => true) true Try.f5.params.toList args.toList ds p := hA0
  rw [Try.params5] at hA hval
  obtain ⟨v0, vs0, d0, ds0, p0, q0, hargs, rfl, rfl, h0, r0⟩ := trodAll_cons hA
  obtain ⟨v1, vs1, d1, ds1, p1, q1, rfl, rfl, rfl, h1, r1⟩ := trodAll_cons r0
  obtain ⟨v2, vs2, d2, ds2, p2, q2, rfl, rfl, rfl, h2, r2⟩ := trodAll_cons r1
  obtain ⟨rfl, rfl, rfl⟩ := trodAll_nil r2
  obtain rfl : args = #[v0, v1, v2] := by cases args; simp_all
  obtain ⟨rfl, rfl⟩ := trodVars_none hV
  obtain ⟨a0, len0, cap0, rfl⟩ := okWide_slice Try.underlying22 (hval 0 22 v0 rfl rfl)
  have k0 := h0
  have lt0 : ∀ x ∈ p0, x.block < W.heap.size := by obtain ⟨m, hm⟩ := k0; exact DataW.trod_lt m _ _ _ hm
  obtain ⟨z0, w0⟩ : ∃ zs, IsStrs W a0 len0 cap0 zs := by
    obtain ⟨fuel, hf⟩ := h0
    rcases open_strings Try.underlying22 Try.underlying9 (by kernel_rfl) hf with ⟨hcs, _⟩ | ⟨x, l, c, zs, hcs, _, hl, hm, hz, _, hcell, hwz⟩
    · simp [Value.cells] at hcs
      obtain ⟨rfl, rfl, rfl⟩ := hcs
      exact ⟨[], .inl ⟨rfl, rfl, rfl, rfl⟩⟩
    · simp [Value.cells] at hcs
      obtain ⟨rfl, rfl, rfl⟩ := hcs
      exact ⟨zs, .inr ⟨_, rfl, hl, hm, by simpa using hz, hcell, hwz⟩⟩
  obtain ⟨a1, rfl, rfl, rfl, w1⟩ := open_int Try.underlying5 (hval 1 5 v1 rfl rfl) h1
  obtain ⟨a2, len2, cap2, rfl⟩ := okWide_slice Try.underlying23 (hval 2 23 v2 rfl rfl)
  have k2 := h2
  have lt2 : ∀ x ∈ p2, x.block < W.heap.size := by obtain ⟨m, hm⟩ := k2; exact DataW.trod_lt m _ _ _ hm
  obtain ⟨z2, w2⟩ : ∃ zs, IsRow .u8 W a2 len2 cap2 zs := by
    obtain ⟨fuel, hf⟩ := h2
    rcases open_ints Try.underlying23 Try.underlying5 (by kernel_rfl) hf with ⟨hcs, _⟩ | ⟨x, l, c, zs, hcs, _, hl, hm, hz, _, hcell, hwz⟩
    · simp [Value.cells] at hcs
      obtain ⟨rfl, rfl, rfl⟩ := hcs
      exact ⟨[], .inl ⟨rfl, rfl, rfl, rfl⟩⟩
    · simp [Value.cells] at hcs
      obtain ⟨rfl, rfl, rfl⟩ := hcs
      exact ⟨zs, .inr ⟨_, rfl, hl, hm, by simpa using hz, hcell, hwz⟩⟩
  clear hA0 hval0
  simp only [List.append_nil] at hW'
  refine (walk W a0 len0 cap0 z0 w0 a1 w1 a2 len2 cap2 z2 w2).mono fun e W' ⟨he, hg⟩ => ?_
  subst he
  exact ⟨_, rfl, _, _, _, [], _, [], hW', trodAll_mk1 (shut_bool Try.underlying4 _), (trodAll_cons_mk (Below.trod laidOut (by kernel_rfl) (of_decide_eq_true (by kernel_rfl)) k0 hg lt0) (trodAll_cons_mk (shut_int Try.underlying5 w1) (trodAll_cons_mk (Below.trod laidOut (by kernel_rfl) (of_decide_eq_true (by kernel_rfl)) k2 hg lt2) trodAll_mk0))), rfl, hg.frame _, fun h => by cases h⟩
/-- For every input the law returns true, and each argument reads as it did. -/
theorem proved : Rows.DriveOffSaid :=
  OpenClaim.holds_of_wide 5 Try.f5 rfl rfl rfl rfl rfl rfl rfl ⟨rfl, rfl, rfl, rfl, rfl⟩ rfl rfl rfl rfl rfl (by kernel_rfl) Try.func5 (by kernel_rfl)
    (of_decide_eq_true (by kernel_rfl)) (by unfold Func.isWrapper; first | (rw [if_pos (by decide +kernel)]; kernel_rfl) | (rw [if_neg (by decide +kernel)]; exact ⟨rfl, rfl⟩))
    (fun os started H enc _ => lifted os started H enc)
end Go.Proofs.Ytpflfdbkndomfaa.driveOff
