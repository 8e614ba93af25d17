/- The walk of the library's joining of rows of texts. -/
import Derived.Test.YtjephdeolifbpaaLayGrow
import Derived.Test.YtjephdeolifbpaaKitJoin
import Derived.Test.YtjephdeolifbpaaSynAdd
import Derived.Deep.LoopGhost
namespace Go.Proofs.Ytjephdeolifbpaa
open Go.RowKit

/-- how many texts the first k rows have -/
def Rf.sumN (N : Nat → Nat) : Nat → Nat
  | 0 => 0
  | k + 1 => Rf.sumN N k + N k
/-- they, one behind the other -/
def Rf.joinAll (N : Nat → Nat) (T : Nat → Nat → ByteArray) : Nat → Nat → ByteArray
  | 0 => fun _ => ByteArray.empty
  | k + 1 => joinF (Rf.sumN N k) (Rf.joinAll N T k) (T k)
theorem Rf.sumN_mono (N : Nat → Nat) {j k : Nat} (h : j ≤ k) : Rf.sumN N j ≤ Rf.sumN N k := by
  induction k with
  | zero => obtain rfl : j = 0 := by omega
            exact Nat.le_refl _
  | succ k ih =>
    by_cases e : j = k + 1
    · subst e; exact Nat.le_refl _
    · have := ih (by omega); show _ ≤ Rf.sumN N k + N k; omega

theorem grow_texts (k : Nat) (h0 : 0 < k) (hk : k ≤ 1000000) (w : World) :
    Calls Try.prog 50 #[.slice none 0 0, .int .i64 (k : Nat)] w fun e w' => ∃ g c, e = .returned (.slice (some ⟨g, 0, none⟩) 0 c) ∧ w'.ownsRow w.heap.size 9 1 (.slice (some ⟨g, 0, none⟩) 0 c) 0 [] ∧ Below w.heap.size w w' := by
  obtain ⟨i0, hi, hz0, hz1, hz2⟩ := info_parts (show (Try.prog.info? 9).map (fun i => (i.zero, i.size, i.bytes)) = some (some (.string ByteArray.empty), 1, 16) from info_str)
  refine (Any8.slices_Grow_grow Try.growS i0 (.string ByteArray.empty) hi hz0 (by omega) none 0 0 k [] w (Nat.le_refl _) (by omega) (by rw [hz2]; omega) (by omega) (by simp) (fun _ => rfl) (fun a e => by cases e)).mono ?_
  rintro e w' ⟨rfl, rfl⟩
  have hC : grownCap w (0 + k) 0 9 ≤ maxLen := grownCap_le_maxLen w (0 + k) 0 9 (by unfold maxLen; omega)
  have hG : 0 + k ≤ grownCap w (0 + k) 0 9 := grownCap_ge w _ _ _
  refine ⟨_, _, rfl, World.ownsRow_made w.drew _ _ (Nat.le_refl _) hC ?_, ((Below.refl _ w).drew).alloc (Nat.le_refl _) _⟩
  have e1 : (Value.string ByteArray.empty).cells = #[.string ByteArray.empty] := rfl
  have ez : ∀ n, (Builtin.zeroCells #[.string ByteArray.empty] n).size = n := fun n => by unfold Builtin.zeroCells; simp
  rw [e1]
  simp only [Array.size_append, ez]
  show 0 + (0 + k - 0) + (grownCap w (0 + k) 0 9 - (0 + k)) = grownCap w (0 + k) 0 9 * 1
  omega

set_option maxRecDepth 100000 in
set_option maxHeartbeats 4000000 in
theorem Concat_any (q : Nat) (hq : q ≤ 1000) (B cap : Nat) (A : Nat → Option Addr) (N C : Nat → Nat) (T : Nat → Nat → ByteArray) (h0 : 0 < Rf.sumN N q) (hS : Rf.sumN N q ≤ 100000) (w : World) (hB : ∀ k, k < q → w.cell? ⟨B, k, none⟩ = some (.slice (A k) (N k) (C k))) (hr : ∀ k, k < q → RowS w (A k) (N k) (T k)) :
    Calls Try.prog 25 #[.slice (some ⟨B, 0, none⟩) q cap] w fun e w' => ∃ g c, e = .returned (.slice (some ⟨g, 0, none⟩) (Rf.sumN N q) c) ∧ w'.ownsRow w.heap.size 9 1 (.slice (some ⟨g, 0, none⟩) (Rf.sumN N q) c) (Rf.sumN N q) (textVals (Rf.sumN N q) (Rf.joinAll N T q)) ∧ Below w.heap.size w w' := by
  have HS : Hid (Rf.sumN N q ≤ 100000) := hS
  have hGr := fun W => grow_texts (Rf.sumN N q) h0 (by omega) W
  have HJ : Hid (∀ k, Rf.sumN N (k + 1) = Rf.sumN N k + N k ∧ Rf.joinAll N T (k + 1) = joinF (Rf.sumN N k) (Rf.joinAll N T k) (T k)) := fun k => ⟨rfl, rfl⟩
  have HM : Hid (∀ j k, j ≤ k → Rf.sumN N j ≤ Rf.sumN N k) := fun j k h => Rf.sumN_mono N h
  have E0 : Hid (Rf.sumN N 0 = 0) := rfl
  obtain ⟨S, hSd⟩ : ∃ S, Rf.sumN N = S := ⟨_, rfl⟩
  rw [hSd] at HS hGr HM E0 HJ
  rw [hSd]
  have HB : Hid (∀ k, k < q → w.cell? ⟨B, k, none⟩ = some (.slice (A k) (N k) (C k))) := hB
  have HR : Hid (∀ k, k < q → RowS w (A k) (N k) (T k)) := hr
  clear hS h0 hSd hB hr
  go_enter Try.func25, Try.ntmps25
  go_wp2
  go_loopg [3, 11] q (fun gg u i wr => ∃ k : Nat, k ≤ q ∧ gg = q - k ∧ u = .int .i64 (S k : Nat) ∧ i = .int .i64 k ∧ wr = w)
  case atStart => exact ⟨0, Nat.zero_le _, rfl, by rw [E0.out]; rfl, rfl, rfl⟩
  case round =>
    obtain ⟨k, hk, rfl, rfl, rfl, hw⟩ := hrel
    subst wr
    by_cases hkq : k < q
    · have hc := HB.out k hkq
      obtain ⟨a, ha⟩ : ∃ a, A k = a := ⟨_, rfl⟩
      obtain ⟨n, hn⟩ : ∃ n, N k = n := ⟨_, rfl⟩
      obtain ⟨c, hcc⟩ : ∃ c, C k = c := ⟨_, rfl⟩
      have e1 := (HJ.out k).1
      have e2 := HM.out (k + 1) q hkq
      have e3 := HS.out
      rw [ha, hn, hcc] at hc
      rw [hn] at e1
      obtain ⟨s, hs⟩ : ∃ s, S k = s := ⟨_, rfl⟩
      obtain ⟨s', hs'⟩ : ∃ s', S (k + 1) = s' := ⟨_, rfl⟩
      have HS' : Hid (S (k + 1) = s') := hs'
      have HSk : Hid (S k = s) := hs
      rw [hs, hs'] at e1
      rw [hs'] at e2
      rw [hs]
      have E1 : Hid (s' = s + n) := e1
      have b1 : s + n ≤ 100000 := by omega
      clear ha hn hcc hs hs' e1 e2 e3
      go_wp2
      go_roundg (q - (k + 1))
      case measure => omega
      case rel => exact ⟨k + 1, by omega, rfl, by rw [HS'.out, E1.out]; first | rfl | go_num, by go_num, rfl⟩
    · have hkk : k = q := by omega
      subst hkk
      go_wp2_with fail
      refine (hGr _).mono ?_
      rintro e w1 ⟨g, c, rfl, own, b1⟩
      have OWN : Hid (w1.ownsRow w.heap.size 9 1 (.slice (some ⟨g, 0, none⟩) 0 c) 0 []) := own
      have B1 : Hid (Below w.heap.size w w1) := b1
      clear own b1 hGr
      go_wp2
      go_loopg [6, 27] k (fun gg u i wr => ∃ (j gn cn : Nat), j ≤ k ∧ gg = k - j ∧ u = .slice (some ⟨gn, 0, none⟩) (S j) cn ∧ i = .int .i64 j ∧ wr.ownsRow w.heap.size 9 1 (.slice (some ⟨gn, 0, none⟩) (S j) cn) (S j) (textVals (S j) (Rf.joinAll N T j)) ∧ Below w.heap.size w wr)
      case atStart => exact ⟨0, g, c, Nat.zero_le _, rfl, by rw [E0.out], rfl, by rw [E0.out]; exact OWN.out, B1.out⟩
      case round =>
        obtain ⟨j, gn, cn, hj, rfl, rfl, rfl, own, hb⟩ := hrel
        by_cases hjk : j < k
        · have hc := (hb.cell (p := ⟨B, j, none⟩) (World.block_lt_of_cell? w _ (HB.out j hjk))).trans (HB.out j hjk)
          have hrr := (HR.out j hjk).below hb
          have hN : A j = A j := rfl
          obtain ⟨a, ha⟩ : ∃ a, A j = a := ⟨_, rfl⟩
          obtain ⟨n, hn⟩ : ∃ n, N j = n := ⟨_, rfl⟩
          obtain ⟨c2, hcc⟩ : ∃ c, C j = c := ⟨_, rfl⟩
          obtain ⟨t, ht⟩ : ∃ t, T j = t := ⟨_, rfl⟩
          obtain ⟨e1, e1'⟩ := HJ.out j
          have e2 := HM.out (j + 1) k hjk
          have e3 := HS.out
          rw [ha, hn, hcc] at hc
          rw [ha, hn, ht] at hrr
          rw [hn] at e1
          rw [ht] at e1'
          obtain ⟨s, hs⟩ : ∃ s, S j = s := ⟨_, rfl⟩
          obtain ⟨F, hF⟩ : ∃ F, Rf.joinAll N T j = F := ⟨_, rfl⟩
          rw [hs] at e1 own
          rw [hF] at own e1'
          rw [hs]
          have HSk : Hid (S (j + 1) = s + n) := e1
          have HFk : Hid (Rf.joinAll N T (j + 1) = joinF s F t) := by
            show _ = _; rw [e1', hs]
          have b1 : s + n ≤ 100000 := by omega
          have OW : Hid (wr.ownsRow w.heap.size 9 1 (.slice (some ⟨gn, 0, none⟩) s cn) s (textVals s F)) := own
          have HB2 : Hid (Below w.heap.size w wr) := hb
          have HRR : Hid (RowS wr a n t) := hrr
          have hsz := hb.size
          have t1 : True := trivial
          clear hN ha hn hcc ht hs hF e1 e1' e2 e3 own hb hrr
          go_wp2_with (at_builtin; have _t := t1; refine wpList_append_texts _ rfl _ _ rfl w.heap.size gn s cn F rfl OW.out a n c2 t rfl HRR.out (by omega) (by omega) ?_; intro g3 c3 w4 own4 grow4 lies4; (have OWN4 : Hid (w4.ownsRow w.heap.size 9 1 (.slice (some ⟨g3, 0, none⟩) (s + n) c3) (s + n) (textVals (s + n) (joinF s F t))) := own4); (have B4 : Hid (Below w.heap.size w w4) := below_joined HB2.out (by omega) OW.out grow4); clear own4 grow4 lies4 t1)
          go_roundg (k - (j + 1))
          case measure => omega
          case rel => exact ⟨j + 1, g3, c3, by omega, rfl, by rw [HSk.out], by go_num, by rw [HSk.out, HFk.out]; exact OWN4.out, B4.out⟩
        · have hjj : j = k := by omega
          subst hjj
          have OW : Hid (wr.ownsRow w.heap.size 9 1 (.slice (some ⟨gn, 0, none⟩) (S j) cn) (S j) (textVals (S j) (Rf.joinAll N T j))) := own
          have HB2 : Hid (Below w.heap.size w wr) := hb
          clear own hb
          go_wp2
          go_ret
          exact ⟨_, _, rfl, OW.out, HB2.out⟩
end Go.Proofs.Ytjephdeolifbpaa
