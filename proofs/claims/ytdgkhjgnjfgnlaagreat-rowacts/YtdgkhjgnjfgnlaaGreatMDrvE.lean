import Derived.Test.YtdgkhjgnjfgnlaaGreatMDrvC
namespace Go.Proofs.YtdgkhjgnjfgnlaaGreat
namespace Dr
structure Calm (D : Dr) (n : Nat) : Prop where
 live : D.Live n
 spoilt : ∀ i, D.spoilt.getD i false = false
 none : ∀ i, D.writes i = []
theorem Calm.fresh (n : Nat) : (Dr.fresh n).Calm n := ⟨Live.fresh n, fresh_spoilt n, fun _ => rfl⟩
theorem Calm.last {D : Dr} {n : Nat} (h : D.Calm n) (i : Nat) : D.last i = D.safe.getD i [] := by unfold Dr.last; rw [if_pos (h.none i)]
end Dr
end Go.Proofs.YtdgkhjgnjfgnlaaGreat
namespace Go.Proofs.YtdgkhjgnjfgnlaaGreat
namespace Dr
def wr1 (x : Nat × Dr) (i : Nat) (s : List UInt8) : Nat × Dr := if x.1 = 0 then (if x.2.reachE i = 0 then (0, x.2.write i s) else (x.2.reachE i, x.2)) else x
def fl1 (x : Nat × Dr) : Nat × Dr := if x.1 = 0 then (if x.2.runsE = 0 then (0, x.2.flush) else (x.2.runsE, x.2)) else x
def wrTo (x : Nat × Dr) (p : Nat → Nat) (s : Nat → List UInt8) : Nat → Nat × Dr
 | 0 => x
 | k + 1 => wr1 (wrTo x p s k) (p k) (s k)
def puts (D : Dr) (p : Nat → Nat) (s : Nat → List UInt8) : Nat → Dr
 | 0 => D
 | k + 1 => (puts D p s k).put (p k) (s k)
def calmed (D : Dr) : Dr := D.settle fun _ c => c
section
variable {D : Dr} {n : Nat}
theorem Live.puts (hv : D.Live n) (p : Nat → Nat) (s : Nat → List UInt8) : ∀ k, (D.puts p s k).Live n
 | 0 => hv
 | k + 1 => (Live.puts hv p s k).put _ _
theorem last_congr {D E : Dr} {i : Nat} (h1 : D.writes i = E.writes i) (h2 : D.safe = E.safe) : D.last i = E.last i := by unfold last; rw [h1, h2]
theorem put_else (D : Dr) (s : List UInt8) {i j : Nat} (h : j ≠ i) : (D.put i s).last j = D.last j := last_congr (put_other D s h) rfl
theorem Live.calmed (hv : D.Live n) (hs : ∀ i, D.spoilt.getD i false = false) : D.calmed.Calm n := ⟨hv.settle _, hs, fun _ => rfl⟩
theorem calmed_last (hv : D.Live n) (hs : ∀ i, D.spoilt.getD i false = false) {i : Nat} (hi : i < n) : D.calmed.last i = D.last i := by
 rw [(hv.calmed hs).last]
 exact flush_one hv hi
theorem Calm.crash (h : D.Calm n) (keep : List Nat) : (D.crash keep).Calm n ∧ ∀ i, i < n → (D.crash keep).last i = D.last i := by
 have hc : (D.crash keep).Calm n := ⟨⟨h.live.dead, rfl, (safeAt_length D _ _).trans h.live.len⟩, h.spoilt, fun _ => rfl⟩
 refine ⟨hc, fun i hi => ?_⟩
 rw [hc.last, h.last]
 exact settle_idle _ (by rw [h.live.len]; exact hi) (h.none i)
theorem Calm.read (h : D.Calm n) {i : Nat} (hi : i < n) : D.readE i = 0 ∧ D.readS i = D.last i := h.live.read hi (h.spoilt i)
end
end Dr
end Go.Proofs.YtdgkhjgnjfgnlaaGreat
