/- What was flushed outlives any crash, if nothing was written behind it; a sector is what was written to it, as a whole, one of those behind the flush, or the flushed one. Proved for every list of texts, every number and every list of numbers. -/
import Derived.Test.YtpflfdbkndomfaaDrvFour
import Derived.ProofKit
import Derived.Deep.LoopGhost
import Derived.OpenShut
import Derived.ShutString
namespace Go.Proofs.Ytpflfdbkndomfaa.driveSafe
open Go.ChangeShapes Go.WideShapes Go.ChangeAt Go.RowKit
open Go.ChangeMaps (open_string shut_string)

/-- where the drive stands behind k writes -/
def At (l : List ByteArray) (n : Nat) (D : Dr) (k : Nat) : Prop := (k ≤ n ∧ Dr.Pre l D k) ∨ (n < k ∧ Dr.Post l n D k)
theorem At.four {l : List ByteArray} {n k : Nat} {D : Dr} (h : At l n D k) : D.Four := h.elim (fun h => h.2.four) (fun h => h.2.four)
theorem At.lens {l : List ByteArray} {n k : Nat} {D : Dr} (h : At l n D k) (j : Nat) : (D.writes j).length ≤ k := h.elim (fun h => h.2.lens j) (fun h => h.2.lens j)
theorem At.put {l : List ByteArray} {n k : Nat} {D : Dr} (h : At l n D k) (hk : k ≠ n) : At l n (D.put (k % 4) (Go.Proofs.Ytpflfdbkndomfaa.gAt l k)) (k + 1) := by
  rcases h with ⟨h1, h2⟩ | ⟨h1, h2⟩
  · exact .inl ⟨by omega, h2.put⟩
  · exact .inr ⟨by omega, h2.put h1⟩
theorem At.flush {l : List ByteArray} {n : Nat} {D : Dr} (h : At l n D n) : At l n ((D.put (n % 4) (Go.Proofs.Ytpflfdbkndomfaa.gAt l n)).settle fun _ c => c) (n + 1) := by
  rcases h with ⟨h1, h2⟩ | ⟨h1, h2⟩
  · exact .inr ⟨by omega, h2.put.flush⟩
  · exact absurd h1 (Nat.lt_irrefl _)
theorem At.post {l : List ByteArray} {n k : Nat} {D : Dr} (h : At l n D k) (hk : n < k) : Dr.Post l n D k := h.elim (fun h => absurd h.1 (by omega)) (fun h => h.2)

set_option maxHeartbeats 400000 in
theorem walk_long (w : World) (a : Option Addr) (cap n : Nat) (x : Nat) (b : Option Addr) (cb nb : Nat) (hn : n ≤ maxLen) (hb : nb ≤ maxLen) (h : 60 < n ∨ 50 < nb ∨ n = 0) :
    Calls Try.prog 3 #[.slice a n cap, .int .u8 (x : Nat), .slice b nb cb] w fun e w' => e = .returned (.bool true) ∧ Below w.heap.size w w' := by
  unfold maxLen at hn hb
  by_cases h1 : (60 : Int) < (n : Int)
  · clear h
    go_enter Try.func3, Try.ntmps3
    go_wp2_with fail
    refine (shown_any _).mono ?_
    rintro e w1 ⟨rfl, b1⟩
    go_wp2
    go_ret
    exact ⟨rfl, b1⟩
  · by_cases h2 : (50 : Int) < (nb : Int)
    · clear h
      go_enter Try.func3, Try.ntmps3
      go_wp2_with fail
      refine (shown_any _).mono ?_
      rintro e w1 ⟨rfl, b1⟩
      go_wp2
      go_ret
      exact ⟨rfl, b1⟩
    · obtain rfl : n = 0 := by omega
      clear h
      go_enter Try.func3, Try.ntmps3
      go_wp2_with fail
      refine (shown_any _).mono ?_
      rintro e w1 ⟨rfl, b1⟩
      go_wp2
      go_ret
      exact ⟨rfl, b1⟩

theorem rem_of (x L : Nat) (hL : 0 < L) : ∃ m : Nat, (x : Int) % (L : Int) = (m : Int) ∧ m < L := ⟨x % L, (Int.natCast_emod x L).symm, Nat.mod_lt _ hL⟩
theorem rem4 (k : Nat) : ∃ j : Nat, (k : Int) % 4 = (j : Int) ∧ j = k % 4 ∧ j < 4 := ⟨k % 4, by omega, rfl, Nat.mod_lt _ (by omega)⟩

set_option maxRecDepth 100000 in
set_option maxHeartbeats 16000000 in
theorem walk_short (w : World) (a : Option Addr) (cap : Nat) (l : List ByteArray) (hl : l.length ≤ 60) (h0 : 0 < l.length) (hsz : ∀ j, (l.getD j ByteArray.empty).size ≤ maxLen) (hr : RowS w a l.length (fun j => l.getD j ByteArray.empty)) (x : Nat) (hx : x < 256)
    (b : Option Addr) (cb : Nat) (keep : List Nat) (hkl : keep.length ≤ 50) (hk8 : ∀ j, keep.getD j 0 < 256) (hkr : RowI .u8 w b keep.length (fun j => ((keep.getD j 0 : Nat) : Int))) :
    Calls Try.prog 3 #[.slice a l.length cap, .int .u8 (x : Nat), .slice b keep.length cb] w fun e w' => e = .returned (.bool true) ∧ Below w.heap.size w w' := by
  obtain ⟨n, hn, hnL⟩ := rem_of x l.length h0
  obtain ⟨L, hL⟩ : ∃ L, L = l.length := ⟨_, rfl⟩
  obtain ⟨nk, hnk⟩ : ∃ nk, nk = keep.length := ⟨_, rfl⟩
  have hcr : ∀ W D, Below w.heap.size w W → (p : Nat) → Mine W w.heap.size p D → (∀ j, (D.writes j).length ≤ 1000000) → Calls Try.prog 13 #[.pointer (some ⟨p, 0, none⟩), .slice b nk cb] W fun e w' => e = .returned (.tuple #[]) ∧ Mine w' w.heap.size p (D.crash keep) ∧ Below w.heap.size W w' := by
    intro W D hb p hm hl
    rw [hnk]
    exact crash_mine hm hl keep b cb (hkr.below hb) (by unfold maxLen; omega) hk8 (fun h0 y hy => by
      obtain ⟨bb, off, e, hc⟩ := hkr 0 h0
      have := World.block_lt_of_cell? w _ hc
      rw [hy] at e; injection e with e; rw [e]; exact this)
  rw [← hL] at hl hr hn hnL h0 ⊢
  rw [← hnk] at hkl ⊢
  obtain ⟨ab, ao, ha, _⟩ := hr 0 h0
  subst ha
  have HCR : Hid (∀ W D, Below w.heap.size w W → (p : Nat) → Mine W w.heap.size p D → (∀ j, (D.writes j).length ≤ 1000000) → Calls Try.prog 13 #[.pointer (some ⟨p, 0, none⟩), .slice b nk cb] W fun e w' => e = .returned (.tuple #[]) ∧ Mine w' w.heap.size p (D.crash keep) ∧ Below w.heap.size W w') := hcr
  have HL : Hid (L = l.length) := hL
  have HR : Hid (RowS w (some ⟨ab, ao, none⟩) L (fun j => l.getD j ByteArray.empty)) := hr
  have HZ : Hid (∀ j, (l.getD j ByteArray.empty).size ≤ maxLen) := hsz
  have d0 : ¬ (60 : Int) < (L : Int) := by omega
  have d1 : ¬ (50 : Int) < (nk : Int) := by omega
  have d2 : ((L : Int) == 0) = false := by rw [beq_eq_false_iff_ne]; omega
  have hL1 : 1 ≤ L := h0
  have hL60 : L ≤ 60 := hl
  clear hL hr hsz hl hkr hk8 hcr hnk h0
  go_enter Try.func3, Try.ntmps3
  go_wp2_with fail
  refine (shown_any _).mono ?_
  rintro e w1 ⟨rfl, b1⟩
  have B1 : Hid (Below w.heap.size w w1) := b1
  clear b1
  go_wp2_with fail
  refine (new_mine 4 w.heap.size (by omega) (by omega) _ B1.out.size).mono ?_
  rintro e w2 ⟨p, rfl, m2, b2⟩
  have M2 : Hid (Mine w2 w.heap.size p (Dr.fresh 4)) := m2
  have B2 : Hid (Below w.heap.size w w2) := B1.out.trans b2
  clear m2 b2
  go_wp2
  simp only [hn]
  clear hn
  go_loopg [9] L (fun g i wr => ∃ (k : Nat) (D : Dr), k ≤ L ∧ g = L - k ∧ i = .int .i64 k ∧ Mine wr w.heap.size p D ∧ At l n D k ∧ Shorts l k ∧ Below w.heap.size w wr)
  case atStart => exact ⟨0, _, Nat.zero_le _, rfl, rfl, M2.out, .inl ⟨Nat.zero_le _, Dr.Pre.start l⟩, fun j hj => absurd hj (Nat.not_lt_zero _), B2.out⟩
  case round =>
    obtain ⟨k, D, hk, rfl, rfl, hmm, hat, hsh, hb⟩ := hrel
    have HM : Hid (Mine wr w.heap.size p D) := hmm
    have HAT : Hid (At l n D k) := hat
    have HSH : Hid (Shorts l k) := hsh
    have HB : Hid (Below w.heap.size w wr) := hb
    have HRr : Hid (RowS wr (some ⟨ab, ao, none⟩) L (fun j => l.getD j ByteArray.empty)) := HR.out.below HB.out
    clear hmm hat hsh hb
    by_cases hlt : k < L
    · obtain ⟨bb, off, hae, hc⟩ := HRr.out k hlt
      cases hae
      obtain ⟨s, es⟩ : ∃ s, s = l.getD k ByteArray.empty := ⟨_, rfl⟩
      replace hc : wr.cell? ⟨ab, ao + k, none⟩ = some (.string (l.getD k ByteArray.empty)) := hc
      have hsz := HZ.out k
      rw [← es] at hc hsz
      have ES : Hid (s = l.getD k ByteArray.empty) := es
      unfold maxLen at hsz
      clear es
      by_cases h100 : (100 : Int) < (s.size : Int)
      · go_wp2_with fail
        refine (shown_any _).mono ?_
        rintro e w5 ⟨rfl, b5⟩
        have B5 : Hid (Below w.heap.size w w5) := below2 HB.out b5
        clear b5
        go_wp2
        go_ret
        exact ⟨rfl, B5.out⟩
      · have hs1 : s.size ≤ 100 := by omega
        have SH5 : Hid (Shorts l (k + 1)) := fun j hj => by
          by_cases e : j = k
          · subst e; rw [← ES.out]; exact hs1
          · exact HSH.out j (by omega)
        obtain ⟨j, hj, ej, hj4⟩ := rem4 k
        have EJ : Hid (j = k % 4) := ej
        have J4 : Hid (j < 4) := hj4
        have EG : Hid ((fullB s).data.toList = gAt l k) := by unfold Hid gAt; rw [ES.out]
        clear ej
        go_wp2_with fail
        refine (full_any s hs1 _).mono ?_
        rintro e w' ⟨rfl, rfl⟩
        go_wp2_with fail
        refine (write_mine HM.out HAT.out.four.live j J4.out (fullB s) (fullB_size s) (by have := HAT.out.lens j; omega)).mono ?_
        rintro e w6 ⟨rfl, m6, b6⟩
        rw [EG.out, EJ.out] at m6
        have M6 : Hid (Mine w6 w.heap.size p (D.put (k % 4) (gAt l k))) := m6
        have B6 : Hid (Below w.heap.size w w6) := HB.out.trans b6
        clear m6 b6
        by_cases hkn : k = n
        · have hkn' : ((k : Int) == (n : Int)) = true := beq_cast hkn
          have A6 : Hid (At l n ((D.put (k % 4) (gAt l k)).settle fun _ c => c) (k + 1)) := by
            have := HAT.out; rw [hkn] at this ⊢; exact this.flush
          clear hkn
          go_wp2_with fail
          refine (flush_mine M6.out (HAT.out.four.put _ _).live (fun j => by have := Dr.put_lens HAT.out.lens (k % 4) (gAt l k) j; omega)).mono ?_
          rintro e w7 ⟨rfl, m7, b7⟩
          have M7 : Hid (Mine w7 w.heap.size p ((D.put (k % 4) (gAt l k)).settle fun _ c => c)) := m7
          have B7 : Hid (Below w.heap.size w w7) := B6.out.trans b7
          clear m7 b7
          go_wp2
          go_roundg (L - (k + 1))
          case measure => omega
          case rel => exact ⟨k + 1, _, by omega, rfl, by go_num, M7.out, A6.out, SH5.out, B7.out⟩
        · have hkn' : ((k : Int) == (n : Int)) = false := bne_cast hkn
          have A6 : Hid (At l n (D.put (k % 4) (gAt l k)) (k + 1)) := HAT.out.put hkn
          clear hkn
          go_wp2
          go_roundg (L - (k + 1))
          case measure => omega
          case rel => exact ⟨k + 1, _, by omega, rfl, by go_num, M6.out, A6.out, SH5.out, B6.out⟩
    · have hkL : k = L := by omega
      subst hkL
      obtain ⟨hF, hE, hW⟩ := (HAT.out.post hnL).crash hnL keep
      have hLens : ∀ j, (D.writes j).length ≤ 1000000 := fun j => by have := HAT.out.lens j; omega
      have HLens : Hid (∀ j, (D.writes j).length ≤ 1000000) := hLens
      obtain ⟨E, hEq⟩ : ∃ E, E = D.crash keep := ⟨_, rfl⟩
      rw [← hEq] at hF hE hW
      have HEq : Hid (E = D.crash keep) := hEq
      have HF : Hid E.Four := hF
      have HE : Hid (∀ j, j < 4 → Dr.EndIs l n k j (E.safe.getD j [])) := hE
      have HW : Hid (∀ j, E.writes j = []) := hW
      clear hF hE hW hEq hLens
      go_wp2_with fail
      refine (HCR.out wr D HB.out p HM.out HLens.out).mono ?_
      rintro e w6 ⟨rfl, m6, b6⟩
      rw [← HEq.out] at m6
      have M6 : Hid (Mine w6 w.heap.size p E) := m6
      have B6 : Hid (Below w.heap.size w w6) := HB.out.trans b6
      clear m6 b6
      go_wp2
      go_loopg [10] 4 (fun g s wv => ∃ j : Nat, j ≤ 4 ∧ g = 4 - j ∧ s = .int .i64 j ∧ Mine wv w.heap.size p E ∧ Below w.heap.size w wv)
      case atStart => exact ⟨0, by omega, rfl, rfl, M6.out, B6.out⟩
      case round =>
        obtain ⟨j, hj, rfl, rfl, hmm, hb⟩ := hrel
        have HMv : Hid (Mine wr w.heap.size p E) := hmm
        have HBv : Hid (Below w.heap.size w wr) := hb
        clear hmm hb
        by_cases hj4 : j < 4
        · obtain ⟨xb, hxb⟩ : ∃ xb, xb = txt (E.safe.getD j []) := ⟨_, rfl⟩
          have HX : Hid (E.safe.getD j [] = xb.data.toList) := by rw [hxb]; rfl
          have hend := HE.out j hj4
          rw [HX.out] at hend
          have HEND : Hid (Dr.EndIs l n k j xb.data.toList) := hend
          have J4 : Hid (j < 4) := hj4
          clear hxb hend
          go_wp2_with fail
          refine (read_mine HMv.out HF.out.live j J4.out (HF.out.spoilt j) xb ((Dr.quiet_last (HW.out j)).trans HX.out)).mono ?_
          rintro e w7 ⟨rfl, m7, b7⟩
          have M7 : Hid (Mine w7 w.heap.size p E) := m7
          have B7 : Hid (Below w.heap.size w w7) := HBv.out.trans b7
          clear m7 b7
          go_wp2_with fail
          refine (safe_live M7.out.1 HF.out.live j J4.out xb HX.out).mono ?_
          rintro e w' ⟨rfl, rfl⟩
          by_cases hnj : n < j
          · have hnj' : (n : Int) < (j : Int) := by omega
            cases hc0 : (xb.toList == blankB.toList) with
            | true =>
              go_wp2_with fail
              refine (blank_any _).mono ?_
              rintro e w' ⟨rfl, rfl⟩
              go_wp2
              go_loopg [16, 17] (n + 8 - j) (fun g lv iv wz => ∃ q : Nat, Mine wz w.heap.size p E ∧ Below w.heap.size w wz ∧ q % 4 = j ∧ j ≤ q ∧ q ≤ n + 7 ∧ g = n + 8 - q ∧ iv = .int .i64 q ∧ ((q = j ∧ lv = .int .i64 (-1)) ∨ (j < q ∧ q ≤ n + 4 ∧ lv = .int .i64 ((q - 4 : Nat) : Int))))
              case atStart => exact ⟨j, M7.out, B7.out, Nat.mod_eq_of_lt J4.out, Nat.le_refl _, by have := J4.out; omega, rfl, rfl, .inl ⟨rfl, rfl⟩⟩
              case round =>
                obtain ⟨q, mz, bz, hq4, hjq, hqn, rfl, rfl, hlv⟩ := hrel
                have MZ : Hid (Mine wr w.heap.size p E) := mz
                have BZ : Hid (Below w.heap.size w wr) := bz
                clear mz bz
                have HLV : Hid ((q = j ∧ u16 = Value.int .i64 (-1)) ∨ (j < q ∧ q ≤ n + 4 ∧ u16 = Value.int .i64 ((q - 4 : Nat) : Int))) := hlv
                have HQ4 : Hid (q % 4 = j) := hq4
                clear hlv hq4
                by_cases hqn1 : q ≤ n
                · go_wp2
                  go_roundg (n + 8 - (q + 4))
                  case measure => omega
                  case rel => exact ⟨q + 4, MZ.out, BZ.out, by have := HQ4.out; omega, by omega, by omega, rfl, by go_num, .inr ⟨by omega, by omega, by go_num⟩⟩
                · obtain ⟨lastI, hlast, hlw⟩ : ∃ lastI : Int, u16 = .int .i64 lastI ∧ ∀ i : Nat, i % 4 = j → (∀ i', i < i' → i' ≤ n → i' % 4 ≠ j) → lastI ≤ (i : Int) := by
                    rcases HLV.out with ⟨_, e⟩ | ⟨h1, h2, e⟩
                    · exact ⟨_, e, fun i _ _ => by omega⟩
                    · refine ⟨_, e, fun i hi hno => ?_⟩
                      by_cases h3 : i < q - 4
                      · exact absurd (by have := HQ4.out; omega) (hno (q - 4) h3 (by omega))
                      · omega
                  subst hlast
                  have HWIT : Hid (true = true ∨ ∃ i : Nat, j ≤ i ∧ i < k ∧ i % 4 = j ∧ lastI ≤ (i : Int) ∧ xb = fullB (l.getD i ByteArray.empty)) := by
                    exact .inl rfl
                  have hlast1 : -1 ≤ lastI ∧ lastI ≤ 1000 := by
                    rcases HLV.out with ⟨_, e⟩ | ⟨h1, h2, e⟩
                    · injection e with _ e; omega
                    · injection e with _ e; omega
                  obtain ⟨hl1, hl2⟩ := hlast1
                  have hqn2 : ¬ (q : Int) ≤ (n : Int) := by omega
                  clear HLV HQ4 hlw hqn1 hjq hqn
                  go_wp2
                  go_loopg [15, 18] (k + 4 - j) (fun g rv iv wz => ∃ (q : Nat) (rb : Bool), Mine wz w.heap.size p E ∧ Below w.heap.size w wz ∧ q % 4 = j ∧ q ≤ k + 3 ∧ g = k + 4 - q ∧ iv = .int .i64 q ∧ rv = .bool rb ∧ (rb = true ∨ ∃ i : Nat, q ≤ i ∧ i < k ∧ i % 4 = j ∧ lastI ≤ (i : Int) ∧ xb = fullB (l.getD i ByteArray.empty)))
                  case atStart => exact ⟨j, true, MZ.out, BZ.out, Nat.mod_eq_of_lt J4.out, by have := J4.out; omega, rfl, rfl, rfl, by first | exact HWIT.out | exact .inl rfl⟩
                  case round =>
                    obtain ⟨q, rb, my, bY, hq4, hqk, rfl, rfl, rfl, hwit⟩ := hrel
                    have MY : Hid (Mine wr w.heap.size p E) := my
                    have BY : Hid (Below w.heap.size w wr) := bY
                    clear my bY
                    have HWT : Hid (rb = true ∨ ∃ i : Nat, q ≤ i ∧ i < k ∧ i % 4 = j ∧ lastI ≤ (i : Int) ∧ xb = fullB (l.getD i ByteArray.empty)) := hwit
                    have HQ4 : Hid (q % 4 = j) := hq4
                    clear hwit hq4
                    by_cases hqL : q < k
                    · by_cases hge : lastI ≤ (q : Int)
                      · obtain ⟨bb, off, hae, hc⟩ := HR.out q hqL
                        cases hae
                        obtain ⟨s, es⟩ : ∃ s, s = l.getD q ByteArray.empty := ⟨_, rfl⟩
                        replace hc : w.cell? ⟨ab, ao + q, none⟩ = some (.string (l.getD q ByteArray.empty)) := hc
                        rw [← es] at hc
                        have hs1 : s.size ≤ 100 := by rw [es]; exact HSH.out q hqL
                        have hcw := (BY.out.cell (p := ⟨ab, ao + q, none⟩) (World.block_lt_of_cell? w _ hc)).trans hc
                        have ES : Hid (s = l.getD q ByteArray.empty) := es
                        obtain ⟨fs, hfs⟩ : ∃ fs, fs = fullB s := ⟨_, rfl⟩
                        have hfull : ∀ W, Calls Try.prog 11 #[.string s] W fun e w' => e = .returned (.string fs) ∧ w' = W := fun W => by rw [hfs]; exact full_any s hs1 W
                        have HFULL : Hid (∀ W, Calls Try.prog 11 #[.string s] W fun e w' => e = .returned (.string fs) ∧ w' = W) := hfull
                        have HFS : Hid (fs = fullB s) := hfs
                        clear es hc hfull hfs
                        cases hcmp : (xb.toList == fs.toList) with
                        | true =>
                          go_wp2_with fail
                          refine (HFULL.out _).mono ?_
                          rintro e w' ⟨rfl, rfl⟩
                          go_wp2
                          go_roundg (k + 4 - (q + 4))
                          case measure => omega
                          case rel => exact ⟨q + 4, true, MY.out, BY.out, by have := HQ4.out; omega, by omega, rfl, by go_num, rfl, .inl rfl⟩
                        | false =>
                          have HW2 : Hid (rb = true ∨ ∃ i : Nat, q + 4 ≤ i ∧ i < k ∧ i % 4 = j ∧ lastI ≤ (i : Int) ∧ xb = fullB (l.getD i ByteArray.empty)) := by
                            rcases HWT.out with h | ⟨i, h1, h2, h3, h4, h5⟩
                            · exact .inl h
                            · refine .inr ⟨i, ?_, h2, h3, h4, h5⟩
                              by_cases e : i = q
                              · rw [e, ← ES.out, ← HFS.out] at h5
                                rw [h5] at hcmp; simp at hcmp
                              · have := HQ4.out; omega
                          go_wp2_with fail
                          refine (HFULL.out _).mono ?_
                          rintro e w' ⟨rfl, rfl⟩
                          go_wp2
                          go_roundg (k + 4 - (q + 4))
                          case measure => omega
                          case rel => exact ⟨q + 4, rb, MY.out, BY.out, by have := HQ4.out; omega, by omega, rfl, by go_num, rfl, HW2.out⟩
                      · have HW2 : Hid (rb = true ∨ ∃ i : Nat, q + 4 ≤ i ∧ i < k ∧ i % 4 = j ∧ lastI ≤ (i : Int) ∧ xb = fullB (l.getD i ByteArray.empty)) := by
                          rcases HWT.out with h | ⟨i, h1, h2, h3, h4, h5⟩
                          · exact .inl h
                          · refine .inr ⟨i, ?_, h2, h3, h4, h5⟩
                            by_cases e : i = q
                            · rw [e] at h4; exact absurd h4 hge
                            · have := HQ4.out; omega
                        go_wp2
                        go_roundg (k + 4 - (q + 4))
                        case measure => omega
                        case rel => exact ⟨q + 4, rb, MY.out, BY.out, by have := HQ4.out; omega, by omega, rfl, by go_num, rfl, HW2.out⟩
                    · have hrb : rb = true := by
                        rcases HWT.out with h | ⟨i, h1, h2, _⟩
                        · exact h
                        · omega
                      subst hrb
                      go_wp2
                      go_roundg (4 - (j + 1))
                      case measure => have := J4.out; omega
                      case rel => exact ⟨j + 1, by have := J4.out; omega, rfl, by go_num, MY.out, BY.out⟩
            | false =>
              go_wp2_with fail
              refine (blank_any _).mono ?_
              rintro e w' ⟨rfl, rfl⟩
              go_wp2
              go_loopg [16, 17] (n + 8 - j) (fun g lv iv wz => ∃ q : Nat, Mine wz w.heap.size p E ∧ Below w.heap.size w wz ∧ q % 4 = j ∧ j ≤ q ∧ q ≤ n + 7 ∧ g = n + 8 - q ∧ iv = .int .i64 q ∧ ((q = j ∧ lv = .int .i64 (-1)) ∨ (j < q ∧ q ≤ n + 4 ∧ lv = .int .i64 ((q - 4 : Nat) : Int))))
              case atStart => exact ⟨j, M7.out, B7.out, Nat.mod_eq_of_lt J4.out, Nat.le_refl _, by have := J4.out; omega, rfl, rfl, .inl ⟨rfl, rfl⟩⟩
              case round =>
                obtain ⟨q, mz, bz, hq4, hjq, hqn, rfl, rfl, hlv⟩ := hrel
                have MZ : Hid (Mine wr w.heap.size p E) := mz
                have BZ : Hid (Below w.heap.size w wr) := bz
                clear mz bz
                have HLV : Hid ((q = j ∧ u16 = Value.int .i64 (-1)) ∨ (j < q ∧ q ≤ n + 4 ∧ u16 = Value.int .i64 ((q - 4 : Nat) : Int))) := hlv
                have HQ4 : Hid (q % 4 = j) := hq4
                clear hlv hq4
                by_cases hqn1 : q ≤ n
                · go_wp2
                  go_roundg (n + 8 - (q + 4))
                  case measure => omega
                  case rel => exact ⟨q + 4, MZ.out, BZ.out, by have := HQ4.out; omega, by omega, by omega, rfl, by go_num, .inr ⟨by omega, by omega, by go_num⟩⟩
                · obtain ⟨lastI, hlast, hlw⟩ : ∃ lastI : Int, u16 = .int .i64 lastI ∧ ∀ i : Nat, i % 4 = j → (∀ i', i < i' → i' ≤ n → i' % 4 ≠ j) → lastI ≤ (i : Int) := by
                    rcases HLV.out with ⟨_, e⟩ | ⟨h1, h2, e⟩
                    · exact ⟨_, e, fun i _ _ => by omega⟩
                    · refine ⟨_, e, fun i hi hno => ?_⟩
                      by_cases h3 : i < q - 4
                      · exact absurd (by have := HQ4.out; omega) (hno (q - 4) h3 (by omega))
                      · omega
                  subst hlast
                  have HWIT : Hid (false = true ∨ ∃ i : Nat, j ≤ i ∧ i < k ∧ i % 4 = j ∧ lastI ≤ (i : Int) ∧ xb = fullB (l.getD i ByteArray.empty)) := by
                    rcases HEND.out with ⟨i, h1, h2, h3, h4⟩ | ⟨h1, h2⟩
                    · exact .inr ⟨i, by have := Nat.mod_le i 4; omega, h1, h2, hlw i h2 h3, by rw [← txt_data xb, h4]; exact txt_data _⟩
                    · exfalso; rw [show xb = blankB from by rw [← txt_data xb, h2]; rfl] at hc0; simp at hc0
                  have hlast1 : -1 ≤ lastI ∧ lastI ≤ 1000 := by
                    rcases HLV.out with ⟨_, e⟩ | ⟨h1, h2, e⟩
                    · injection e with _ e; omega
                    · injection e with _ e; omega
                  obtain ⟨hl1, hl2⟩ := hlast1
                  have hqn2 : ¬ (q : Int) ≤ (n : Int) := by omega
                  clear HLV HQ4 hlw hqn1 hjq hqn
                  go_wp2
                  go_loopg [15, 18] (k + 4 - j) (fun g rv iv wz => ∃ (q : Nat) (rb : Bool), Mine wz w.heap.size p E ∧ Below w.heap.size w wz ∧ q % 4 = j ∧ q ≤ k + 3 ∧ g = k + 4 - q ∧ iv = .int .i64 q ∧ rv = .bool rb ∧ (rb = true ∨ ∃ i : Nat, q ≤ i ∧ i < k ∧ i % 4 = j ∧ lastI ≤ (i : Int) ∧ xb = fullB (l.getD i ByteArray.empty)))
                  case atStart => exact ⟨j, false, MZ.out, BZ.out, Nat.mod_eq_of_lt J4.out, by have := J4.out; omega, rfl, rfl, rfl, by first | exact HWIT.out | exact .inl rfl⟩
                  case round =>
                    obtain ⟨q, rb, my, bY, hq4, hqk, rfl, rfl, rfl, hwit⟩ := hrel
                    have MY : Hid (Mine wr w.heap.size p E) := my
                    have BY : Hid (Below w.heap.size w wr) := bY
                    clear my bY
                    have HWT : Hid (rb = true ∨ ∃ i : Nat, q ≤ i ∧ i < k ∧ i % 4 = j ∧ lastI ≤ (i : Int) ∧ xb = fullB (l.getD i ByteArray.empty)) := hwit
                    have HQ4 : Hid (q % 4 = j) := hq4
                    clear hwit hq4
                    by_cases hqL : q < k
                    · by_cases hge : lastI ≤ (q : Int)
                      · obtain ⟨bb, off, hae, hc⟩ := HR.out q hqL
                        cases hae
                        obtain ⟨s, es⟩ : ∃ s, s = l.getD q ByteArray.empty := ⟨_, rfl⟩
                        replace hc : w.cell? ⟨ab, ao + q, none⟩ = some (.string (l.getD q ByteArray.empty)) := hc
                        rw [← es] at hc
                        have hs1 : s.size ≤ 100 := by rw [es]; exact HSH.out q hqL
                        have hcw := (BY.out.cell (p := ⟨ab, ao + q, none⟩) (World.block_lt_of_cell? w _ hc)).trans hc
                        have ES : Hid (s = l.getD q ByteArray.empty) := es
                        obtain ⟨fs, hfs⟩ : ∃ fs, fs = fullB s := ⟨_, rfl⟩
                        have hfull : ∀ W, Calls Try.prog 11 #[.string s] W fun e w' => e = .returned (.string fs) ∧ w' = W := fun W => by rw [hfs]; exact full_any s hs1 W
                        have HFULL : Hid (∀ W, Calls Try.prog 11 #[.string s] W fun e w' => e = .returned (.string fs) ∧ w' = W) := hfull
                        have HFS : Hid (fs = fullB s) := hfs
                        clear es hc hfull hfs
                        cases hcmp : (xb.toList == fs.toList) with
                        | true =>
                          go_wp2_with fail
                          refine (HFULL.out _).mono ?_
                          rintro e w' ⟨rfl, rfl⟩
                          go_wp2
                          go_roundg (k + 4 - (q + 4))
                          case measure => omega
                          case rel => exact ⟨q + 4, true, MY.out, BY.out, by have := HQ4.out; omega, by omega, rfl, by go_num, rfl, .inl rfl⟩
                        | false =>
                          have HW2 : Hid (rb = true ∨ ∃ i : Nat, q + 4 ≤ i ∧ i < k ∧ i % 4 = j ∧ lastI ≤ (i : Int) ∧ xb = fullB (l.getD i ByteArray.empty)) := by
                            rcases HWT.out with h | ⟨i, h1, h2, h3, h4, h5⟩
                            · exact .inl h
                            · refine .inr ⟨i, ?_, h2, h3, h4, h5⟩
                              by_cases e : i = q
                              · rw [e, ← ES.out, ← HFS.out] at h5
                                rw [h5] at hcmp; simp at hcmp
                              · have := HQ4.out; omega
                          go_wp2_with fail
                          refine (HFULL.out _).mono ?_
                          rintro e w' ⟨rfl, rfl⟩
                          go_wp2
                          go_roundg (k + 4 - (q + 4))
                          case measure => omega
                          case rel => exact ⟨q + 4, rb, MY.out, BY.out, by have := HQ4.out; omega, by omega, rfl, by go_num, rfl, HW2.out⟩
                      · have HW2 : Hid (rb = true ∨ ∃ i : Nat, q + 4 ≤ i ∧ i < k ∧ i % 4 = j ∧ lastI ≤ (i : Int) ∧ xb = fullB (l.getD i ByteArray.empty)) := by
                          rcases HWT.out with h | ⟨i, h1, h2, h3, h4, h5⟩
                          · exact .inl h
                          · refine .inr ⟨i, ?_, h2, h3, h4, h5⟩
                            by_cases e : i = q
                            · rw [e] at h4; exact absurd h4 hge
                            · have := HQ4.out; omega
                        go_wp2
                        go_roundg (k + 4 - (q + 4))
                        case measure => omega
                        case rel => exact ⟨q + 4, rb, MY.out, BY.out, by have := HQ4.out; omega, by omega, rfl, by go_num, rfl, HW2.out⟩
                    · have hrb : rb = true := by
                        rcases HWT.out with h | ⟨i, h1, h2, _⟩
                        · exact h
                        · omega
                      subst hrb
                      go_wp2
                      go_roundg (4 - (j + 1))
                      case measure => have := J4.out; omega
                      case rel => exact ⟨j + 1, by have := J4.out; omega, rfl, by go_num, MY.out, BY.out⟩
          · have hnj' : ¬ (n : Int) < (j : Int) := by omega
            go_wp2
            go_loopg [16, 17] (n + 8 - j) (fun g lv iv wz => ∃ q : Nat, Mine wz w.heap.size p E ∧ Below w.heap.size w wz ∧ q % 4 = j ∧ j ≤ q ∧ q ≤ n + 7 ∧ g = n + 8 - q ∧ iv = .int .i64 q ∧ ((q = j ∧ lv = .int .i64 (-1)) ∨ (j < q ∧ q ≤ n + 4 ∧ lv = .int .i64 ((q - 4 : Nat) : Int))))
            case atStart => exact ⟨j, M7.out, B7.out, Nat.mod_eq_of_lt J4.out, Nat.le_refl _, by have := J4.out; omega, rfl, rfl, .inl ⟨rfl, rfl⟩⟩
            case round =>
              obtain ⟨q, mz, bz, hq4, hjq, hqn, rfl, rfl, hlv⟩ := hrel
              have MZ : Hid (Mine wr w.heap.size p E) := mz
              have BZ : Hid (Below w.heap.size w wr) := bz
              clear mz bz
              have HLV : Hid ((q = j ∧ u16 = Value.int .i64 (-1)) ∨ (j < q ∧ q ≤ n + 4 ∧ u16 = Value.int .i64 ((q - 4 : Nat) : Int))) := hlv
              have HQ4 : Hid (q % 4 = j) := hq4
              clear hlv hq4
              by_cases hqn1 : q ≤ n
              · go_wp2
                go_roundg (n + 8 - (q + 4))
                case measure => omega
                case rel => exact ⟨q + 4, MZ.out, BZ.out, by have := HQ4.out; omega, by omega, by omega, rfl, by go_num, .inr ⟨by omega, by omega, by go_num⟩⟩
              · obtain ⟨lastI, hlast, hlw⟩ : ∃ lastI : Int, u16 = .int .i64 lastI ∧ ∀ i : Nat, i % 4 = j → (∀ i', i < i' → i' ≤ n → i' % 4 ≠ j) → lastI ≤ (i : Int) := by
                  rcases HLV.out with ⟨_, e⟩ | ⟨h1, h2, e⟩
                  · exact ⟨_, e, fun i _ _ => by omega⟩
                  · refine ⟨_, e, fun i hi hno => ?_⟩
                    by_cases h3 : i < q - 4
                    · exact absurd (by have := HQ4.out; omega) (hno (q - 4) h3 (by omega))
                    · omega
                subst hlast
                have HWIT : Hid (false = true ∨ ∃ i : Nat, j ≤ i ∧ i < k ∧ i % 4 = j ∧ lastI ≤ (i : Int) ∧ xb = fullB (l.getD i ByteArray.empty)) := by
                  rcases HEND.out with ⟨i, h1, h2, h3, h4⟩ | ⟨h1, h2⟩
                  · exact .inr ⟨i, by have := Nat.mod_le i 4; omega, h1, h2, hlw i h2 h3, by rw [← txt_data xb, h4]; exact txt_data _⟩
                  · exact absurd h1 hnj
                have hlast1 : -1 ≤ lastI ∧ lastI ≤ 1000 := by
                  rcases HLV.out with ⟨_, e⟩ | ⟨h1, h2, e⟩
                  · injection e with _ e; omega
                  · injection e with _ e; omega
                obtain ⟨hl1, hl2⟩ := hlast1
                have hqn2 : ¬ (q : Int) ≤ (n : Int) := by omega
                clear HLV HQ4 hlw hqn1 hjq hqn
                go_wp2
                go_loopg [15, 18] (k + 4 - j) (fun g rv iv wz => ∃ (q : Nat) (rb : Bool), Mine wz w.heap.size p E ∧ Below w.heap.size w wz ∧ q % 4 = j ∧ q ≤ k + 3 ∧ g = k + 4 - q ∧ iv = .int .i64 q ∧ rv = .bool rb ∧ (rb = true ∨ ∃ i : Nat, q ≤ i ∧ i < k ∧ i % 4 = j ∧ lastI ≤ (i : Int) ∧ xb = fullB (l.getD i ByteArray.empty)))
                case atStart => exact ⟨j, false, MZ.out, BZ.out, Nat.mod_eq_of_lt J4.out, by have := J4.out; omega, rfl, rfl, rfl, by first | exact HWIT.out | exact .inl rfl⟩
                case round =>
                  obtain ⟨q, rb, my, bY, hq4, hqk, rfl, rfl, rfl, hwit⟩ := hrel
                  have MY : Hid (Mine wr w.heap.size p E) := my
                  have BY : Hid (Below w.heap.size w wr) := bY
                  clear my bY
                  have HWT : Hid (rb = true ∨ ∃ i : Nat, q ≤ i ∧ i < k ∧ i % 4 = j ∧ lastI ≤ (i : Int) ∧ xb = fullB (l.getD i ByteArray.empty)) := hwit
                  have HQ4 : Hid (q % 4 = j) := hq4
                  clear hwit hq4
                  by_cases hqL : q < k
                  · by_cases hge : lastI ≤ (q : Int)
                    · obtain ⟨bb, off, hae, hc⟩ := HR.out q hqL
                      cases hae
                      obtain ⟨s, es⟩ : ∃ s, s = l.getD q ByteArray.empty := ⟨_, rfl⟩
                      replace hc : w.cell? ⟨ab, ao + q, none⟩ = some (.string (l.getD q ByteArray.empty)) := hc
                      rw [← es] at hc
                      have hs1 : s.size ≤ 100 := by rw [es]; exact HSH.out q hqL
                      have hcw := (BY.out.cell (p := ⟨ab, ao + q, none⟩) (World.block_lt_of_cell? w _ hc)).trans hc
                      have ES : Hid (s = l.getD q ByteArray.empty) := es
                      obtain ⟨fs, hfs⟩ : ∃ fs, fs = fullB s := ⟨_, rfl⟩
                      have hfull : ∀ W, Calls Try.prog 11 #[.string s] W fun e w' => e = .returned (.string fs) ∧ w' = W := fun W => by rw [hfs]; exact full_any s hs1 W
                      have HFULL : Hid (∀ W, Calls Try.prog 11 #[.string s] W fun e w' => e = .returned (.string fs) ∧ w' = W) := hfull
                      have HFS : Hid (fs = fullB s) := hfs
                      clear es hc hfull hfs
                      cases hcmp : (xb.toList == fs.toList) with
                      | true =>
                        go_wp2_with fail
                        refine (HFULL.out _).mono ?_
                        rintro e w' ⟨rfl, rfl⟩
                        go_wp2
                        go_roundg (k + 4 - (q + 4))
                        case measure => omega
                        case rel => exact ⟨q + 4, true, MY.out, BY.out, by have := HQ4.out; omega, by omega, rfl, by go_num, rfl, .inl rfl⟩
                      | false =>
                        have HW2 : Hid (rb = true ∨ ∃ i : Nat, q + 4 ≤ i ∧ i < k ∧ i % 4 = j ∧ lastI ≤ (i : Int) ∧ xb = fullB (l.getD i ByteArray.empty)) := by
                          rcases HWT.out with h | ⟨i, h1, h2, h3, h4, h5⟩
                          · exact .inl h
                          · refine .inr ⟨i, ?_, h2, h3, h4, h5⟩
                            by_cases e : i = q
                            · rw [e, ← ES.out, ← HFS.out] at h5
                              rw [h5] at hcmp; simp at hcmp
                            · have := HQ4.out; omega
                        go_wp2_with fail
                        refine (HFULL.out _).mono ?_
                        rintro e w' ⟨rfl, rfl⟩
                        go_wp2
                        go_roundg (k + 4 - (q + 4))
                        case measure => omega
                        case rel => exact ⟨q + 4, rb, MY.out, BY.out, by have := HQ4.out; omega, by omega, rfl, by go_num, rfl, HW2.out⟩
                    · have HW2 : Hid (rb = true ∨ ∃ i : Nat, q + 4 ≤ i ∧ i < k ∧ i % 4 = j ∧ lastI ≤ (i : Int) ∧ xb = fullB (l.getD i ByteArray.empty)) := by
                        rcases HWT.out with h | ⟨i, h1, h2, h3, h4, h5⟩
                        · exact .inl h
                        · refine .inr ⟨i, ?_, h2, h3, h4, h5⟩
                          by_cases e : i = q
                          · rw [e] at h4; exact absurd h4 hge
                          · have := HQ4.out; omega
                      go_wp2
                      go_roundg (k + 4 - (q + 4))
                      case measure => omega
                      case rel => exact ⟨q + 4, rb, MY.out, BY.out, by have := HQ4.out; omega, by omega, rfl, by go_num, rfl, HW2.out⟩
                  · have hrb : rb = true := by
                      rcases HWT.out with h | ⟨i, h1, h2, _⟩
                      · exact h
                      · omega
                    subst hrb
                    go_wp2
                    go_roundg (4 - (j + 1))
                    case measure => have := J4.out; omega
                    case rel => exact ⟨j + 1, by have := J4.out; omega, rfl, by go_num, MY.out, BY.out⟩
        · have hj4 : j = 4 := by omega
          subst hj4
          have hpd := pending_mine HMv.out (by rw [Dr.quiet_pending HW.out]; omega)
          rw [Dr.quiet_pending HW.out] at hpd
          have HP : Hid (Calls Try.prog 17 #[.pointer (some ⟨p, 0, none⟩)] wr fun e w' => e = .returned (.int .i64 0) ∧ Mine w' w.heap.size p E ∧ Below w.heap.size wr w') := hpd
          clear hpd
          go_wp2_with fail
          refine HP.out.mono ?_
          rintro e w8 ⟨rfl, m8, b8⟩
          have B8 : Hid (Below w.heap.size w w8) := HBv.out.trans b8
          clear m8 b8
          go_wp2
          go_ret
          exact ⟨rfl, B8.out⟩

theorem walk (w : World) (a0 : Option Addr) (len0 cap0 : Nat) (z0 : List ByteArray) (w0 : IsStrs w a0 len0 cap0 z0) (a1 : Int) (w1 : (Lit.int .u8 a1).wf = true) (a2 : Option Addr) (len2 cap2 : Nat) (z2 : List Int) (w2 : IsRow .u8 w a2 len2 cap2 z2) :
    Calls Try.prog 3 #[.slice a0 len0 cap0, .int .u8 a1, .slice a2 len2 cap2] w fun e w' => e = .returned (.bool true) ∧ Below w.heap.size w w' := by
  obtain ⟨l, rfl, hm, hsz, hr⟩ := w0.row
  have b1 := bounds_u8 w1
  obtain ⟨x, rfl⟩ := Int.eq_ofNat_of_zero_le b1.1
  obtain ⟨keep, rfl, hm2, hk8, hkr⟩ := w2.rowN 256 (by decide) (fun y hy => by have := bounds_u8 hy; omega)
  by_cases h : 60 < l.length ∨ 50 < keep.length ∨ l.length = 0
  · exact walk_long w a0 cap0 l.length x a2 cap2 keep.length hm hm2 h
  · exact walk_short w a0 cap0 l (by omega) (by omega) hsz hr x (by omega) a2 cap2 keep (by omega) hk8 hkr

theorem own : ownKnob Try.prog.godebug = none := by kernel_rfl
theorem laidOut : laidOutB Try.prog = true := by kernel_rfl
set_option linter.unusedVariables false in
set_option maxRecDepth 100000 in
theorem lifted (os : Os) (started : os.Started) (H : Type) (enc : TypeId × Value → H) :
    ReturnsInHanded {} Try.checked os 3 .any (Rows.driveSafeSpec.pre6 enc Try.prog Try.f3 Rows.driveSafeRow.domain false) (Rows.driveSafeSpec.post enc Try.prog Try.f3 false true false false) := by
  refine returnsInHanded_of_change (C := Try.checked) own started (by kernel_rfl) Try.func3
    (ChangeSpec.witness6 (enc := enc) (C := Try.checked) false ⟨#[], #[.slice none 0 0, .int .u8 0, .slice none 0 0], []⟩ 8 (by kernel_rfl) (by kernel_rfl) (by kernel_rfl) (by kernel_rfl)) ?_
  intro W base args ds gs before hval0 hW hcnd _
  have hval : ∀ (j : Nat) t v, Try.f3.params[j]? = some t → args[j]? = some v → Value.okWide Try.prog W .any base t v := hval0
  have hW' := hW
  obtain ⟨p, q, hA0, hV, rfl, hfz, hnd⟩ := hW
  have hA : DataW.TrodAll enc Try.prog W 0 (fun _ => true) true Try.f3.params.toList args.toList ds p := hA0
  rw [Try.params3] at hA hval
  obtain ⟨v0, vs0, d0, ds0, p0, q0, hargs, rfl, rfl, h0, r0⟩ := trodAll_cons hA
  obtain ⟨v1, vs1, d1, ds1, p1, q1, rfl, rfl, rfl, h1, r1⟩ := trodAll_cons r0
  obtain ⟨v2, vs2, d2, ds2, p2, q2, rfl, rfl, rfl, h2, r2⟩ := trodAll_cons r1
  obtain ⟨rfl, rfl, rfl⟩ := trodAll_nil r2
  obtain rfl : args = #[v0, v1, v2] := by cases args; simp_all
  obtain ⟨rfl, rfl⟩ := trodVars_none hV
  obtain ⟨a0, len0, cap0, rfl⟩ := okWide_slice Try.underlying22 (hval 0 22 v0 rfl rfl)
  have k0 := h0
  have lt0 : ∀ x ∈ p0, x.block < W.heap.size := by obtain ⟨m, hm⟩ := k0; exact DataW.trod_lt m _ _ _ hm
  obtain ⟨z0, w0⟩ : ∃ zs, IsStrs W a0 len0 cap0 zs := by
    obtain ⟨fuel, hf⟩ := h0
    rcases open_strings Try.underlying22 Try.underlying9 (by kernel_rfl) hf with ⟨hcs, _⟩ | ⟨x, l, c, zs, hcs, _, hl, hm, hz, _, hcell, hwz⟩
    · simp [Value.cells] at hcs
      obtain ⟨rfl, rfl, rfl⟩ := hcs
      exact ⟨[], .inl ⟨rfl, rfl, rfl, rfl⟩⟩
    · simp [Value.cells] at hcs
      obtain ⟨rfl, rfl, rfl⟩ := hcs
      exact ⟨zs, .inr ⟨_, rfl, hl, hm, by simpa using hz, hcell, hwz⟩⟩
  obtain ⟨a1, rfl, rfl, rfl, w1⟩ := open_int Try.underlying5 (hval 1 5 v1 rfl rfl) h1
  obtain ⟨a2, len2, cap2, rfl⟩ := okWide_slice Try.underlying23 (hval 2 23 v2 rfl rfl)
  have k2 := h2
  have lt2 : ∀ x ∈ p2, x.block < W.heap.size := by obtain ⟨m, hm⟩ := k2; exact DataW.trod_lt m _ _ _ hm
  obtain ⟨z2, w2⟩ : ∃ zs, IsRow .u8 W a2 len2 cap2 zs := by
    obtain ⟨fuel, hf⟩ := h2
    rcases open_ints Try.underlying23 Try.underlying5 (by kernel_rfl) hf with ⟨hcs, _⟩ | ⟨x, l, c, zs, hcs, _, hl, hm, hz, _, hcell, hwz⟩
    · simp [Value.cells] at hcs
      obtain ⟨rfl, rfl, rfl⟩ := hcs
      exact ⟨[], .inl ⟨rfl, rfl, rfl, rfl⟩⟩
    · simp [Value.cells] at hcs
      obtain ⟨rfl, rfl, rfl⟩ := hcs
      exact ⟨zs, .inr ⟨_, rfl, hl, hm, by simpa using hz, hcell, hwz⟩⟩
  clear hA0 hval0
  simp only [List.append_nil] at hW'
  refine (walk W a0 len0 cap0 z0 w0 a1 w1 a2 len2 cap2 z2 w2).mono fun e W' ⟨he, hg⟩ => ?_
  subst he
  exact ⟨_, rfl, _, _, _, [], _, [], hW', trodAll_mk1 (shut_bool Try.underlying4 _), (trodAll_cons_mk (Below.trod laidOut (by kernel_rfl) (of_decide_eq_true (by kernel_rfl)) k0 hg lt0) (trodAll_cons_mk (shut_int Try.underlying5 w1) (trodAll_cons_mk (Below.trod laidOut (by kernel_rfl) (of_decide_eq_true (by kernel_rfl)) k2 hg lt2) trodAll_mk0))), rfl, hg.frame _, fun h => by cases h⟩
/-- For every input the law returns true, and each argument reads as it did. -/
theorem proved : Rows.DriveSafeSaid :=
  OpenClaim.holds_of_wide 3 Try.f3 rfl rfl rfl rfl rfl rfl rfl ⟨rfl, rfl, rfl, rfl, rfl⟩ rfl rfl rfl rfl rfl (by kernel_rfl) Try.func3 (by kernel_rfl)
    (of_decide_eq_true (by kernel_rfl)) (by unfold Func.isWrapper; first | (rw [if_pos (by decide +kernel)]; kernel_rfl) | (rw [if_neg (by decide +kernel)]; exact ⟨rfl, rfl⟩))
    (fun os started H enc _ => lifted os started H enc)
end Go.Proofs.Ytpflfdbkndomfaa.driveSafe
