/- The walk of Pending: in whatever order the map is gone through, the sum is the same. -/
import Derived.Test.YtpflfdbkndomfaaDrvNew
namespace Go.Proofs.Ytpflfdbkndomfaa
open Go.RowKit Go.Maps

namespace Dr
def sumTo (n : Nat) (f : Nat → Nat) : Nat := ((List.range n).map f).sum
theorem sumTo_succ (n : Nat) (f : Nat → Nat) : sumTo (n + 1) f = sumTo n f + f n := by simp [sumTo, List.range_succ]
theorem sumTo_congr {f g : Nat → Nat} : ∀ {n : Nat}, (∀ i, i < n → f i = g i) → sumTo n f = sumTo n g
  | 0, _ => rfl
  | n + 1, h => by rw [sumTo_succ, sumTo_succ, sumTo_congr (fun i hi => h i (by omega)), h n (by omega)]
theorem sumTo_zero {f : Nat → Nat} : ∀ {n : Nat}, (∀ i, i < n → f i = 0) → sumTo n f = 0
  | 0, _ => rfl
  | n + 1, h => by rw [sumTo_succ, sumTo_zero (fun i hi => h i (by omega)), h n (by omega)]
theorem sumTo_le {f g : Nat → Nat} : ∀ {n : Nat}, (∀ i, i < n → f i ≤ g i) → sumTo n f ≤ sumTo n g
  | 0, _ => Nat.le_refl _
  | n + 1, h => by rw [sumTo_succ, sumTo_succ]; have := sumTo_le (n := n) (fun i hi => h i (by omega)); have := h n (by omega); omega
theorem sumTo_step {f g : Nat → Nat} {k a : Nat} (hk : g k = f k + a) (ho : ∀ i, i ≠ k → g i = f i) : ∀ {n : Nat}, k < n → sumTo n g = sumTo n f + a
  | 0, h => absurd h (Nat.not_lt_zero _)
  | n + 1, h => by
    rw [sumTo_succ, sumTo_succ]
    by_cases e : k = n
    · subst e
      rw [hk, sumTo_congr (fun i hi => ho i (by omega))]; omega
    · rw [ho n (fun x => e x.symm), sumTo_step hk ho (by omega : k < n)]; omega
/-- the writes of the sectors that L does not hold of any more -/
def doneSum (D : Dr) (L : Nat → Bool) : Nat := sumTo D.safe.length fun i => if L i then 0 else (D.writes i).length
theorem doneSum_start {D : Dr} {L : Nat → Bool} (h : ∀ i, i < D.safe.length → L i = !(D.writes i).isEmpty) : D.doneSum L = 0 := by
  refine sumTo_zero fun i hi => ?_
  rw [h i hi]
  cases e : D.writes i <;> simp
theorem doneSum_end {D : Dr} {L : Nat → Bool} (h : ∀ i, L i = false) : D.doneSum L = D.pending := sumTo_congr fun i _ => by rw [h i]; rfl
theorem doneSum_le (D : Dr) (L : Nat → Bool) : D.doneSum L ≤ D.pending := sumTo_le fun i _ => by split <;> omega
theorem doneSum_step {D : Dr} {L L' : Nat → Bool} {k : Nat} (hk : k < D.safe.length) (h1 : L k = true) (h2 : L' k = false) (h3 : ∀ i, i ≠ k → L' i = L i) : D.doneSum L' = D.doneSum L + (D.writes k).length :=
  sumTo_step (by rw [h1, h2]; simp) (fun i hi => by rw [h3 i hi]) hk
end Dr

theorem keyL_same (i j : Nat) : (keyL i).sameKey (keyL j) = decide (i = j) := by
  unfold keyL
  by_cases h : i = j
  · subst h; simp [Lit.sameKey]
  · simp [Lit.sameKey, h]; omega
theorem MapIn.key {w : World} {mb : Nat} {hd : Nat → Value} {D : Dr} {M : DataW Unit} (h : MapIn w mb hd D M) {x : Int} (hx : Maps.has M (.int .i64 x) = true) : ∃ k : Nat, k < D.safe.length ∧ x = (k : Int) := by
  obtain ⟨k, hk, e⟩ := h.keys _ hx
  refine ⟨k, hk, ?_⟩
  unfold keyL at e
  injection e
theorem DrvIn.head {w : World} {p sb pb mb : Nat} {hd : Nat → Value} {D : Dr} (h : DrvIn w p sb pb mb hd D) (i : Nat) : ∃ a cap, hd i = .slice a (D.writes i).length cap := by
  rcases (h.rows i).2 with ⟨e, h0⟩ | ⟨g, cap, cur, e, _⟩
  · exact ⟨none, 0, by rw [e, h0]⟩
  · exact ⟨_, _, e⟩

set_option maxHeartbeats 1000000 in
theorem pending_any {w : World} {p : Nat} {D : Dr} {F : Nat → Prop} (h : DriveAt w p D F) (hp : D.pending ≤ 4611686018427387904) :
    Calls Try.prog 17 #[.pointer (some ⟨p, 0, none⟩)] w fun e w' => e = .returned (.int .i64 (D.pending : Nat)) ∧ Below w.heap.size w w' := by
  obtain ⟨sb, pb, mb, hd, hin, _⟩ := h
  have c2 := hin.cells.c2
  obtain ⟨M, hM⟩ := hin.map
  have HI : Hid (DrvIn w p sb pb mb hd D) := hin
  have HM : Hid (MapIn w mb hd D M) := hM
  have HP : Hid (D.pending ≤ 4611686018427387904) := hp
  have hmb := hM.owns.lt
  clear hin hM hp
  go_enter Try.func17, Try.ntmps17
  go_wp2_with (at_range; refine wpList_range_own _ rfl _ _ rfl 3 53 (int_keyed Try.underlying3) Try.underlying54 hdrD mb (Maps.size M) M rfl HM.out.owns ?_; intro w0 hrg0 hg0 hs0)
  go_frame
  go_loopw [3] (fun c wr => ∃ left cnt, c = .int .i64 (D.doneSum (fun i => left (keyL i)) : Nat) ∧ wr.ranges Try.prog 3 hdrD mb w.heap.size (Maps.size M) M left cnt ∧ (∀ z, left z = true → Maps.has M z = true) ∧ Below w.heap.size w wr) (fun _ wr => wr.rangeLeft mb w.heap.size)
  case atStart =>
    refine ⟨Maps.has M, Maps.size M, ?_, hrg0, fun z hz => hz, ⟨hg0.os, hg0.tape, hg0.output, hg0.size, fun k hk => hg0.block k hk (by simp)⟩⟩
    rw [Dr.doneSum_start (fun i hi => HM.out.has i hi)]; rfl
  case round =>
    obtain ⟨left, cnt, rfl, hrg, hsub, hb⟩ := hrel
    have HB : Hid (Below w.heap.size w wr) := hb
    have HS : Hid (∀ z, left z = true → Maps.has M z = true) := hsub
    have hle : D.doneSum (fun i => left (keyL i)) ≤ 4611686018427387904 := Nat.le_trans (Dr.doneSum_le D _) HP.out
    obtain ⟨c0, hc0⟩ : ∃ c0, c0 = D.doneSum (fun i => left (keyL i)) := ⟨_, rfl⟩
    rw [← hc0] at hle ⊢
    have HC : Hid (c0 = D.doneSum (fun i => left (keyL i))) := hc0
    clear hb hsub hc0
    go_wp2_with (at_next; refine wpList_next_ranges _ rfl _ rfl 3 (int_keyed Try.underlying3) hdrD (Value.int .i64) id (fun key kl hk => by obtain ⟨x, rfl, _⟩ := Maps.keyOf_int_inv Try.underlying3 hk; exact ⟨x, rfl⟩) (fun v _ _ => ⟨v, rfl⟩) mb w.heap.size (Maps.size M) M left cnt rfl hrg ?_ ?_)
    · intro _ hl0
      have e : c0 = D.pending := by rw [HC.out]; exact Dr.doneSum_end (fun i => hl0 _)
      have E : Hid (c0 = D.pending) := e
      clear e
      go_wp2
      go_ret
      exact ⟨by rw [← E.out]; rfl, HB.out⟩
    · intro x c kl y1 y2 w1 cnt1 hkey hlk hR hat hrg1 hlt hg1 hs1 hen
      obtain ⟨x', ex, rfl, hwx⟩ := Maps.keyOf_int_inv Try.underlying3 hkey
      cases ex
      obtain ⟨k, hk, rfl⟩ := HM.out.key (HS.out _ hlk)
      obtain ⟨d, hd0⟩ := hdrD_owns (HI.out.rows k)
      have e1 : d = y1 := by rw [← HM.out.at_ k hk d hd0]; exact hat .nil
      have e2 : c = hd k := hdrD_inj (d := y1) (ps := y2) (by exact hR) (by rw [← e1]; exact hd0)
      obtain ⟨a, cap, e3⟩ := HI.out.head k
      rw [e3] at e2
      subst e2
      have hd2 := Dr.doneSum_step (L := fun i => left (keyL i)) (L' := fun i => left (keyL i) && !(keyL i).sameKey (keyL k)) hk hlk (by simp [keyL_same]) (fun i hi => by simp [keyL_same, hi])
      have hle2 : D.doneSum (fun i => left (keyL i) && !(keyL i).sameKey (keyL k)) ≤ 4611686018427387904 := Nat.le_trans (Dr.doneSum_le D _) HP.out
      obtain ⟨m, hm⟩ : ∃ m, m = (D.writes k).length := ⟨_, rfl⟩
      rw [← hm] at hd2 hen ⊢
      rw [hd2, ← HC.out] at hle2
      have HD : Hid (D.doneSum (fun i => left (keyL i) && !(keyL i).sameKey (keyL k)) = c0 + m) := by unfold Hid; rw [hd2, ← HC.out]
      have R1 : Hid (w1.ranges Try.prog 3 hdrD mb w.heap.size (Maps.size M) M (fun z => left z && !z.sameKey (keyL k)) cnt1) := hrg1
      have R0 : Hid (wr.ranges Try.prog 3 hdrD mb w.heap.size (Maps.size M) M left cnt) := hrg
      have G1 : Hid (wr.grownBy w1 (some w.heap.size)) := hg1
      have S1 : Hid (∀ z, (fun z => left z && !z.sameKey (keyL k)) z = true → Maps.has M z = true) := fun z hz => HS.out z (by simp at hz; exact hz.1)
      have LT : Hid (cnt1 < cnt) := hlt
      clear hd2 hm hd0 e1 e3 hR hat hrg1 hrg hg1 hs1 hlk hkey hwx hlt
      try simp only [id] at hen ⊢
      go_wp2
      go_roundw
      case rel =>
        refine ⟨_, cnt1, ?_, R1.out, S1.out, HB.out.grown G1.out (by have := HB.out.size; omega) (fun k hk => by cases hk; exact Nat.le_refl _)⟩
        rw [HD.out]; go_num
      case measure => rw [R1.out.left_eq, R0.out.left_eq]; exact LT.out
end Go.Proofs.Ytpflfdbkndomfaa
