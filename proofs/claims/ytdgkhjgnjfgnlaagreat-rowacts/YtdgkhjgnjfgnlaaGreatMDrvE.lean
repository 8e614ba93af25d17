/- Several texts in one. A drive that lives, nothing of which is spoilt, or unflushed: plain. Writes one behind the other, as long as none fails: plain. -/
import Derived.Test.YtdgkhjgnjfgnlaaGreatMDrvC
namespace Go.Proofs.YtdgkhjgnjfgnlaaGreat

namespace Dr
/-- a drive whose writes are all flushed, none of whose sectors is spoilt -/
structure Calm (D : Dr) (n : Nat) : Prop where
  live : D.Live n
  spoilt : ∀ i, D.spoilt.getD i false = false
  none : ∀ i, D.writes i = []
theorem Calm.fresh (n : Nat) : (Dr.fresh n).Calm n := ⟨Live.fresh n, fresh_spoilt n, fun _ => rfl⟩
theorem Calm.lens {D : Dr} {n : Nat} (h : D.Calm n) (i : Nat) : (D.writes i).length < 1000000 := by rw [h.none]; decide
theorem Calm.last {D : Dr} {n : Nat} (h : D.Calm n) (i : Nat) : D.last i = D.safe.getD i [] := by unfold Dr.last; rw [if_pos (h.none i)]
end Dr
end Go.Proofs.YtdgkhjgnjfgnlaaGreat

namespace Go.Proofs.YtdgkhjgnjfgnlaaGreat

namespace Dr
/-- one write more, where none has failed -/
def wr1 (x : Nat × Dr) (i : Nat) (s : List UInt8) : Nat × Dr := if x.1 = 0 then (if x.2.reachE i = 0 then (0, x.2.write i s) else (x.2.reachE i, x.2)) else x
/-- a flush, where nothing has failed -/
def fl1 (x : Nat × Dr) : Nat × Dr := if x.1 = 0 then (if x.2.runsE = 0 then (0, x.2.flush) else (x.2.runsE, x.2)) else x
/-- so many writes -/
def wrTo (x : Nat × Dr) (p : Nat → Nat) (s : Nat → List UInt8) : Nat → Nat × Dr
  | 0 => x
  | k + 1 => wr1 (wrTo x p s k) (p k) (s k)
def puts (D : Dr) (p : Nat → Nat) (s : Nat → List UInt8) : Nat → Dr
  | 0 => D
  | k + 1 => (puts D p s k).put (p k) (s k)
/-- all that is pending is safe -/
def calmed (D : Dr) : Dr := D.settle fun _ c => c
theorem wr1_bad {x : Nat × Dr} (h : x.1 ≠ 0) (i : Nat) (s : List UInt8) : wr1 x i s = x := if_neg h
theorem fl1_bad {x : Nat × Dr} (h : x.1 ≠ 0) : fl1 x = x := if_neg h
theorem wr1_yes {D : Dr} {i : Nat} (h : D.reachE i = 0) (s : List UInt8) : wr1 (0, D) i s = (0, D.write i s) := by unfold wr1; rw [if_pos rfl, if_pos h]
theorem wr1_no {D : Dr} {i : Nat} (h : D.reachE i ≠ 0) (s : List UInt8) : wr1 (0, D) i s = (D.reachE i, D) := by unfold wr1; rw [if_pos rfl, if_neg h]
theorem fl1_yes {D : Dr} (h : D.runsE = 0) : fl1 (0, D) = (0, D.flush) := by unfold fl1; rw [if_pos rfl, if_pos h]
theorem fl1_no {D : Dr} (h : D.runsE ≠ 0) : fl1 (0, D) = (D.runsE, D) := by unfold fl1; rw [if_pos rfl, if_neg h]
theorem wrTo_bad {x : Nat × Dr} (h : x.1 ≠ 0) (p : Nat → Nat) (s : Nat → List UInt8) : ∀ k, wrTo x p s k = x
  | 0 => rfl
  | k + 1 => by unfold wrTo; rw [wrTo_bad h p s k]; exact wr1_bad h _ _
/-- behind the first that fails nothing more is done -/
theorem wrTo_stuck {x : Nat × Dr} {p : Nat → Nat} {s : Nat → List UInt8} {k : Nat} (h : (wrTo x p s k).1 ≠ 0) : ∀ {m}, k ≤ m → wrTo x p s m = wrTo x p s k
  | 0, hm => by have : k = 0 := by omega
                rw [this]
  | m + 1, hm => by
    by_cases e : k = m + 1
    · rw [e]
    · have ih := wrTo_stuck h (m := m) (by omega)
      show wr1 (wrTo x p s m) (p m) (s m) = wrTo x p s k
      rw [ih]
      exact wr1_bad h _ _
section
variable {D : Dr} {n : Nat}
theorem wr1_live (hv : D.Live n) {i : Nat} (hi : i < n) (s : List UInt8) : wr1 (0, D) i s = (0, D.put i s) := by rw [wr1_yes (hv.reach hi), hv.write]
theorem fl1_live (hv : D.Live n) : fl1 (0, D) = (0, D.calmed) := by rw [fl1_yes hv.run, hv.flush]; rfl
theorem Live.puts (hv : D.Live n) (p : Nat → Nat) (s : Nat → List UInt8) : ∀ k, (D.puts p s k).Live n
  | 0 => hv
  | k + 1 => (Live.puts hv p s k).put _ _
theorem wrTo_live (hv : D.Live n) {p : Nat → Nat} (s : Nat → List UInt8) : ∀ {k}, (∀ j, j < k → p j < n) → wrTo (0, D) p s k = (0, D.puts p s k)
  | 0, _ => rfl
  | k + 1, h => by
    unfold wrTo
    rw [wrTo_live hv s (fun j hj => h j (by omega))]
    exact wr1_live (hv.puts p s k) (h k (by omega)) _
theorem puts_writes (D : Dr) {p : Nat → Nat} (s : Nat → List UInt8) {i : Nat} : ∀ {k}, (∀ j, j < k → p j ≠ i) → (D.puts p s k).writes i = D.writes i
  | 0, _ => rfl
  | k + 1, h => by
    unfold Dr.puts
    rw [put_other _ _ (Ne.symm (h k (by omega)))]
    exact puts_writes D s (fun j hj => h j (by omega))
theorem put_safe (D : Dr) (i : Nat) (s : List UInt8) : (D.put i s).safe = D.safe := rfl
theorem puts_safe (D : Dr) (p : Nat → Nat) (s : Nat → List UInt8) : ∀ k, (D.puts p s k).safe = D.safe
  | 0 => rfl
  | k + 1 => puts_safe D p s k
theorem last_congr {D E : Dr} {i : Nat} (h1 : D.writes i = E.writes i) (h2 : D.safe = E.safe) : D.last i = E.last i := by unfold last; rw [h1, h2]
theorem puts_other (D : Dr) {p : Nat → Nat} (s : Nat → List UInt8) {i k : Nat} (h : ∀ j, j < k → p j ≠ i) : (D.puts p s k).last i = D.last i := last_congr (puts_writes D s h) (puts_safe D p s k)
theorem put_else (D : Dr) (s : List UInt8) {i j : Nat} (h : j ≠ i) : (D.put i s).last j = D.last j := last_congr (put_other D s h) rfl
theorem puts_last (D : Dr) {p : Nat → Nat} (s : Nat → List UInt8) (hp : ∀ i j, p i = p j → i = j) {j : Nat} : ∀ {k}, j < k → (D.puts p s k).last (p j) = s j
  | 0, h => absurd h (Nat.not_lt_zero _)
  | k + 1, h => by
    unfold Dr.puts
    by_cases e : j = k
    · rw [e]; exact put_last _ _ _
    · rw [put_else _ _ (fun h2 => e (hp _ _ h2))]
      exact puts_last D s hp (by omega)
theorem puts_spoilt {D : Dr} (h : ∀ i, D.spoilt.getD i false = false) (p : Nat → Nat) (s : Nat → List UInt8) : ∀ k i, (D.puts p s k).spoilt.getD i false = false
  | 0 => h
  | k + 1 => fun i => put_spoilt _ _ _ (puts_spoilt h p s k i)
theorem Live.calmed (hv : D.Live n) (hs : ∀ i, D.spoilt.getD i false = false) : D.calmed.Calm n := ⟨hv.settle _, hs, fun _ => rfl⟩
theorem calmed_last (hv : D.Live n) (hs : ∀ i, D.spoilt.getD i false = false) {i : Nat} (hi : i < n) : D.calmed.last i = D.last i := by
  rw [(hv.calmed hs).last]
  exact flush_one hv hi
/-- a calm drive that crashes is as it was -/
theorem Calm.crash (h : D.Calm n) (keep : List Nat) : (D.crash keep).Calm n ∧ ∀ i, i < n → (D.crash keep).last i = D.last i := by
  have hc : (D.crash keep).Calm n := ⟨⟨h.live.dead, rfl, (safeAt_length D _ _).trans h.live.len⟩, h.spoilt, fun _ => rfl⟩
  refine ⟨hc, fun i hi => ?_⟩
  rw [hc.last, h.last]
  exact settle_idle _ (by rw [h.live.len]; exact hi) (h.none i)
theorem Calm.read (h : D.Calm n) {i : Nat} (hi : i < n) : D.readE i = 0 ∧ D.readS i = D.last i := h.live.read hi (h.spoilt i)
end
end Dr
end Go.Proofs.YtdgkhjgnjfgnlaaGreat
