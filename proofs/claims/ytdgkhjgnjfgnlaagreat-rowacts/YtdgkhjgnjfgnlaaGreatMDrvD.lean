import Derived.Test.YtdgkhjgnjfgnlaaGreatMDrvC
import Derived.Test.YtdgkhjgnjfgnlaaGreatKitStr
namespace Go.Proofs.YtdgkhjgnjfgnlaaGreat
open Go.RowKit Go.Maps
namespace Dr
structure Solo (D : Dr) (first : List UInt8) (ws : List (List UInt8)) : Prop where
 dead : D.dead = false
 len : D.safe.length = 1
 safe : D.safe.getD 0 [] = first
 spoilt : D.spoilt.getD 0 false = false
 writes : D.writes 0 = ws
 out : ∀ j, j ≠ 0 → D.writes j = []
theorem Solo.live {D : Dr} {f : List UInt8} {ws : List (List UInt8)} (h : D.Solo f ws) (hg : D.goes = false) : D.Live 1 := ⟨h.dead, hg, h.len⟩
theorem Solo.put {D : Dr} {f : List UInt8} {ws : List (List UInt8)} (h : D.Solo f ws) (s : List UInt8) : (D.put 0 s).Solo f (ws ++ [s]) :=
 ⟨h.dead, h.len, h.safe, put_spoilt _ _ _ h.spoilt, by rw [put_same, h.writes], fun j hj => by rw [put_other _ _ hj]; exact h.out j hj⟩
theorem Solo.spend {D : Dr} {f : List UInt8} {ws : List (List UInt8)} (h : D.Solo f ws) : D.spend.Solo f ws := ⟨h.dead, h.len, h.safe, h.spoilt, h.writes, h.out⟩
theorem Solo.off {D : Dr} {f : List UInt8} {ws : List (List UInt8)} (h : D.Solo f ws) (a : Int) : (D.off a).Solo f ws := ⟨h.dead, h.len, h.safe, h.spoilt, h.writes, h.out⟩
theorem Solo.pending {D : Dr} {f : List UInt8} {ws : List (List UInt8)} (h : D.Solo f ws) : D.pending = ws.length := by
 unfold Dr.pending; rw [h.len]; simp [List.range_succ, h.writes]
theorem Solo.settle {D : Dr} {f : List UInt8} {ws : List (List UInt8)} (h : D.Solo f ws) (K : Nat → Nat → Nat) : (D.settle K).Solo (if 0 < K 0 ws.length ∧ ws ≠ [] then ws.getD (K 0 ws.length - 1) [] else f) [] := by
 refine ⟨h.dead, (safeAt_length D K _).trans h.len, ?_, h.spoilt, rfl, fun _ _ => rfl⟩
 by_cases e : D.writes 0 = []
 ·rw [settle_idle K (by rw [h.len]; omega) e, h.safe, if_neg (fun hn => hn.2 (h.writes ▸ e))]
 ·obtain ⟨j, _, hj, hs⟩ := settle_busy K (by rw [h.len]; omega) e
  have hj0 : j = 0 := by have := busy_length_le D; rw [h.len] at this; omega
  subst hj0
  rw [hs, h.writes, h.safe]
  have e' : ws ≠ [] := fun hn => e (h.writes.trans hn)
  by_cases h0 : 0 < K 0 ws.length
  ·rw [if_pos h0, if_pos ⟨h0, e'⟩]
  ·rw [if_neg h0, if_neg (fun hn => h0 hn.1)]
theorem Solo.crash {D : Dr} {f : List UInt8} {ws : List (List UInt8)} (h : D.Solo f ws) (keep : List Nat) : (D.crash keep).Solo (if 0 < keeps keep 0 ws.length ∧ ws ≠ [] then ws.getD (keeps keep 0 ws.length - 1) [] else f) [] := by
 have hs := h.settle (keeps keep)
 exact ⟨hs.dead, hs.len, hs.safe, hs.spoilt, hs.writes, hs.out⟩
theorem Solo.first (s : List UInt8) : (((Dr.fresh 1).put 0 s).settle fun _ c => c).Solo s [] := by
 have h0 : (Dr.fresh 1).Solo (List.replicate 64 0) [] := ⟨rfl, by simp [Dr.fresh], fresh_safe (by omega), fresh_spoilt 1 0, rfl, fun _ _ => rfl⟩
 have h1 := (h0.put s).settle fun _ c => c
 simpa using h1
theorem Solo.last {D : Dr} {f : List UInt8} (h : D.Solo f []) : D.last 0 = f := by unfold Dr.last; rw [if_pos h.writes]; exact h.safe
end Dr
def fulls (l : List ByteArray) (k : Nat) : List (List UInt8) := (l.take k).map fun s => (fullB s).data.toList
end Go.Proofs.YtdgkhjgnjfgnlaaGreat
namespace Go.Proofs.YtdgkhjgnjfgnlaaGreat
open Go.RowKit Go.Maps
def firstB : ByteArray := fullB ⟨#[102, 105, 114, 115, 116]⟩
def Shorts (l : List ByteArray) (k : Nat) : Prop := ∀ j, j < k → (l.getD j ByteArray.empty).size ≤ 100
def St0 : Dr := ((Dr.fresh 1).put 0 firstB.data.toList).settle fun _ c => c
end Go.Proofs.YtdgkhjgnjfgnlaaGreat
