/- Several texts in one. A drive of one sector, by what is safe and what was written behind it. A drive of one sector that holds "first", flushed: how the statements on it begin. -/
import Derived.Test.YtdgkhjgnjfgnlaaGreatMDrvC
import Derived.Test.YtdgkhjgnjfgnlaaGreatKitStr
namespace Go.Proofs.YtdgkhjgnjfgnlaaGreat
open Go.RowKit Go.Maps

namespace Dr
structure Solo (D : Dr) (first : List UInt8) (ws : List (List UInt8)) : Prop where
  dead : D.dead = false
  len : D.safe.length = 1
  safe : D.safe.getD 0 [] = first
  spoilt : D.spoilt.getD 0 false = false
  writes : D.writes 0 = ws
  out : ∀ j, j ≠ 0 → D.writes j = []
theorem Solo.live {D : Dr} {f : List UInt8} {ws : List (List UInt8)} (h : D.Solo f ws) (hg : D.goes = false) : D.Live 1 := ⟨h.dead, hg, h.len⟩
theorem Solo.put {D : Dr} {f : List UInt8} {ws : List (List UInt8)} (h : D.Solo f ws) (s : List UInt8) : (D.put 0 s).Solo f (ws ++ [s]) :=
  ⟨h.dead, h.len, h.safe, put_spoilt _ _ _ h.spoilt, by rw [put_same, h.writes], fun j hj => by rw [put_other _ _ hj]; exact h.out j hj⟩
theorem Solo.spend {D : Dr} {f : List UInt8} {ws : List (List UInt8)} (h : D.Solo f ws) : D.spend.Solo f ws := ⟨h.dead, h.len, h.safe, h.spoilt, h.writes, h.out⟩
theorem Solo.off {D : Dr} {f : List UInt8} {ws : List (List UInt8)} (h : D.Solo f ws) (a : Int) : (D.off a).Solo f ws := ⟨h.dead, h.len, h.safe, h.spoilt, h.writes, h.out⟩
theorem Solo.lens {D : Dr} {f : List UInt8} {ws : List (List UInt8)} (h : D.Solo f ws) {m : Nat} (hm : ws.length ≤ m) (j : Nat) : (D.writes j).length ≤ m := by
  by_cases e : j = 0
  · subst e; rw [h.writes]; exact hm
  · rw [h.out j e]; exact Nat.zero_le _
theorem Solo.pending {D : Dr} {f : List UInt8} {ws : List (List UInt8)} (h : D.Solo f ws) : D.pending = ws.length := by
  unfold Dr.pending; rw [h.len]; simp [List.range_succ, h.writes]
theorem Solo.settle {D : Dr} {f : List UInt8} {ws : List (List UInt8)} (h : D.Solo f ws) (K : Nat → Nat → Nat) : (D.settle K).Solo (if 0 < K 0 ws.length ∧ ws ≠ [] then ws.getD (K 0 ws.length - 1) [] else f) [] := by
  refine ⟨h.dead, (safeAt_length D K _).trans h.len, ?_, h.spoilt, rfl, fun _ _ => rfl⟩
  by_cases e : D.writes 0 = []
  · rw [settle_idle K (by rw [h.len]; omega) e, h.safe, if_neg (fun hn => hn.2 (h.writes ▸ e))]
  · obtain ⟨j, _, hj, hs⟩ := settle_busy K (by rw [h.len]; omega) e
    have hj0 : j = 0 := by have := busy_length_le D; rw [h.len] at this; omega
    subst hj0
    rw [hs, h.writes, h.safe]
    have e' : ws ≠ [] := fun hn => e (h.writes.trans hn)
    by_cases h0 : 0 < K 0 ws.length
    · rw [if_pos h0, if_pos ⟨h0, e'⟩]
    · rw [if_neg h0, if_neg (fun hn => h0 hn.1)]
theorem Solo.crash {D : Dr} {f : List UInt8} {ws : List (List UInt8)} (h : D.Solo f ws) (keep : List Nat) : (D.crash keep).Solo (if 0 < keeps keep 0 ws.length ∧ ws ≠ [] then ws.getD (keeps keep 0 ws.length - 1) [] else f) [] := by
  have hs := h.settle (keeps keep)
  exact ⟨hs.dead, hs.len, hs.safe, hs.spoilt, hs.writes, hs.out⟩
theorem Solo.crash_none {D : Dr} {f : List UInt8} {ws : List (List UInt8)} (h : D.Solo f ws) : (D.crash []).Solo f [] := by
  have := h.crash []
  rwa [if_neg (fun hn => by have := hn.1; simp [keeps] at this)] at this
theorem Solo.crash_all {D : Dr} {f : List UInt8} {ws : List (List UInt8)} (h : D.Solo f ws) (h0 : ws ≠ []) : (D.crash [ws.length]).Solo (ws.getD (ws.length - 1) []) [] := by
  have e : keeps [ws.length] 0 ws.length = ws.length := by unfold keeps; simp
  have := h.crash [ws.length]
  rw [e, if_pos ⟨List.length_pos_iff.2 h0, h0⟩] at this
  exact this
theorem crash_live {D : Dr} {f : List UInt8} {ws : List (List UInt8)} {keep : List Nat} (h : (D.crash keep).Solo f ws) : (D.crash keep).Live 1 := h.live rfl
theorem Solo.first (s : List UInt8) : (((Dr.fresh 1).put 0 s).settle fun _ c => c).Solo s [] := by
  have h0 : (Dr.fresh 1).Solo (List.replicate 64 0) [] := ⟨rfl, by simp [Dr.fresh], fresh_safe (by omega), fresh_spoilt 1 0, rfl, fun _ _ => rfl⟩
  have h1 := (h0.put s).settle fun _ c => c
  simpa using h1
theorem Solo.last {D : Dr} {f : List UInt8} (h : D.Solo f []) : D.last 0 = f := by unfold Dr.last; rw [if_pos h.writes]; exact h.safe
end Dr
/-- the texts, filled up -/
def fulls (l : List ByteArray) (k : Nat) : List (List UInt8) := (l.take k).map fun s => (fullB s).data.toList
theorem fulls_succ (l : List ByteArray) {k : Nat} (h : k < l.length) : fulls l (k + 1) = fulls l k ++ [(fullB (l.getD k ByteArray.empty)).data.toList] := by
  unfold fulls
  rw [List.take_succ_eq_append_getElem h, List.map_append, List.getD_eq_getElem?_getD, List.getElem?_eq_getElem h]; rfl
theorem fulls_length (l : List ByteArray) {k : Nat} (h : k ≤ l.length) : (fulls l k).length = k := by unfold fulls; rw [List.length_map, List.length_take]; omega
theorem fulls_get (l : List ByteArray) {k j : Nat} (h : k ≤ l.length) (hj : j < k) : (fulls l k).getD j [] = (fullB (l.getD j ByteArray.empty)).data.toList := by
  unfold fulls
  simp only [List.getD_eq_getElem?_getD, List.getElem?_map, List.getElem?_take, if_pos hj, List.getElem?_eq_getElem (show j < l.length by omega)]
  rfl
end Go.Proofs.YtdgkhjgnjfgnlaaGreat

namespace Go.Proofs.YtdgkhjgnjfgnlaaGreat
open Go.RowKit Go.Maps

def firstB : ByteArray := fullB ⟨#[102, 105, 114, 115, 116]⟩
theorem first_size : firstB.size = 64 := fullB_size _
/-- the texts that came in, each short enough -/
def Shorts (l : List ByteArray) (k : Nat) : Prop := ∀ j, j < k → (l.getD j ByteArray.empty).size ≤ 100
/-- the drive that is there when 'first' was flushed -/
def St0 : Dr := ((Dr.fresh 1).put 0 firstB.data.toList).settle fun _ c => c
theorem st0_solo : St0.Solo firstB.data.toList [] := Dr.Solo.first _
theorem st0_live : St0.Live 1 := ((Dr.Live.fresh 1).put _ _).settle _
theorem one_lens (s : List UInt8) (j : Nat) : (((Dr.fresh 1).put 0 s).writes j).length ≤ 1000000 := by
  by_cases e : j = 0
  · subst e; rw [Dr.put_same]; simp [Dr.fresh]
  · rw [Dr.put_other _ _ e]; simp [Dr.fresh]
end Go.Proofs.YtdgkhjgnjfgnlaaGreat
