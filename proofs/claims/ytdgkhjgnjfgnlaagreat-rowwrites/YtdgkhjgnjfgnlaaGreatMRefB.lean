/- Several texts in one. The walks of the document's own Spoil and Write, whatever the drive holds. The walks of the document's own keep, Flush and Crash (by a list of one), whatever the drive holds. -/
import Derived.Test.YtdgkhjgnjfgnlaaGreatMRefA
import Derived.Deep.Cut
import Derived.Deep.Onto
import Derived.Deep.LoopGhost
namespace Go.Proofs.YtdgkhjgnjfgnlaaGreat
open Go.RowKit Go.Maps

section
variable {w w' : World} {rp : Nat} {vS vW vP : Value} {hd : Nat → Value} {R : Dr} {G : Nat → Prop}
theorem Dr.Ok.mark {R : Dr} (h : R.Ok) (i : Nat) (b : Bool) : Dr.Ok { R with spoilt := R.spoilt.set i b } :=
  ⟨h.pos, h.le, by show (R.spoilt.set i b).length = _; rw [List.length_set]; exact h.spoilt, h.sector, h.writes, h.out, h.left⟩
theorem RefSt.mark (h : RefSt w rp vS vW vP hd R) {gp : Nat} (hp : vP.ownBlock = some gp) (i : Nat) (b : Bool) : RefSt (w.setCell ⟨gp, i, none⟩ (.bool b)) rp vS vW vP hd { R with spoilt := R.spoilt.set i b } ∧ Only (One gp) w (w.setCell ⟨gp, i, none⟩ (.bool b)) := by
  obtain ⟨h1, h2⟩ := h.at_.putP hp i b
  refine ⟨⟨h1, h.ok.mark i b, fun j => ownsRow_only h2 (h.rows j) (fun k hk e => ?_), h.off, h.nil⟩, h2⟩
  obtain ⟨c1, g1⟩ := row_type (h.rows j) hk
  obtain ⟨c2, g2⟩ := row_type h.at_.spoilt hp
  rw [show k = gp from e, g2] at g1; simp at g1
/-- one more write of a sector: its row lies in a new block -/
theorem RefSt.wrote (h : RefSt w rp vS vW vP hd R) {i gw g cap : Nat} (hi : i < R.safe.length) (hw : vW.ownBlock = some gw) {x : List UInt8} (hx : x.length = 64) (hr : w.ownsRow 0 9 1 (.slice (some ⟨g, 0, none⟩) ((R.writes i).length + 1) cap) ((R.writes i).length + 1) (strs (R.writes i) ++ [.string (txt x)])) (hgS : vS.ownBlock ≠ some g) :
    RefSt (w.setCell ⟨gw, i, none⟩ (.slice (some ⟨g, 0, none⟩) ((R.writes i).length + 1) cap)) rp vS vW vP (fun j => if j = i then .slice (some ⟨g, 0, none⟩) ((R.writes i).length + 1) cap else hd j) { R with writes := fun j => if j = i then R.writes i ++ [x] else R.writes j } ∧
      Only (One gw) w (w.setCell ⟨gw, i, none⟩ (.slice (some ⟨g, 0, none⟩) ((R.writes i).length + 1) cap)) := by
  obtain ⟨h1, h2⟩ := h.at_.putW hw i (.slice (some ⟨g, 0, none⟩) ((R.writes i).length + 1) cap)
  have tw := row_type h.at_.writes hw
  have hne : ∀ {v : Value} {n : Nat} {xs : List Value}, w.ownsRow 0 9 1 v n xs → ∀ k, v.ownBlock = some k → ¬ One gw k := fun ho k hk e => by
    obtain ⟨c1, g1⟩ := row_type ho hk
    obtain ⟨c2, g2⟩ := tw
    rw [show k = gw from e, g2] at g1; simp at g1
  have hok := h.ok.put hi hx
  refine ⟨⟨?_, ⟨h.ok.pos, h.ok.le, h.ok.spoilt, h.ok.sector, hok.writes, hok.out, h.ok.left⟩, fun j => ?_, fun j k hk => ?_, fun j hj => ?_⟩, h2⟩
  · have e : ((List.range R.safe.length).map hd).set i (.slice (some ⟨g, 0, none⟩) ((R.writes i).length + 1) cap) = (List.range R.safe.length).map (fun j => if j = i then .slice (some ⟨g, 0, none⟩) ((R.writes i).length + 1) cap else hd j) := by
      refine List.ext_getElem (by simp) fun j a b => ?_
      simp only [List.getElem_set, List.getElem_map, List.getElem_range]
      by_cases e : i = j
      · rw [if_pos e, if_pos e.symm]
      · rw [if_neg e, if_neg (fun q => e q.symm)]
    rw [← e]; exact h1
  · show (w.setCell _ _).ownsRow 0 9 1 (if j = i then _ else hd j) (if j = i then R.writes i ++ [x] else R.writes j).length (strs (if j = i then R.writes i ++ [x] else R.writes j))
    by_cases e : j = i
    · simp only [if_pos e]
      have e2 : strs (R.writes i ++ [x]) = strs (R.writes i) ++ [.string (txt x)] := by simp [strs]
      rw [e2, List.length_append]
      exact ownsRow_only h2 hr (hne hr)
    · simp only [if_neg e]
      exact ownsRow_only h2 (h.rows j) (hne (h.rows j))
  · (try dsimp only at hk)
    split at hk
    · simp [Value.ownBlock] at hk; rw [← hk]; exact hgS
    · exact h.off j k hk
  · have hj2 : (if j = i then R.writes i ++ [x] else R.writes j) = [] := hj
    by_cases e : j = i
    · rw [if_pos e] at hj2; simp at hj2
    · rw [if_neg e] at hj2
      show (if j = i then _ else hd j) = nilS
      rw [if_neg e]; exact h.nil j hj2
end
end Go.Proofs.YtdgkhjgnjfgnlaaGreat

namespace Go.Proofs.YtdgkhjgnjfgnlaaGreat
open Go.RowKit Go.Maps

namespace Dr
/-- of the sector i the first c writes are kept, none is left -/
def kept (R : Dr) (i c : Nat) : Dr := { R with safe := if 0 < c then R.safe.set i ((R.writes i).getD (c - 1) []) else R.safe, writes := fun j => if j = i then [] else R.writes j }
/-- so of the first k sectors, of each as many as C says -/
def keptTo (R : Dr) (C : Nat → Nat) : Nat → Dr
  | 0 => R
  | k + 1 => (R.keptTo C k).kept k (C k)
theorem kept_len (R : Dr) (i c : Nat) : (R.kept i c).safe.length = R.safe.length := by
  show (if 0 < c then R.safe.set i _ else R.safe).length = _
  split
  · rw [List.length_set]
  · rfl
theorem Ok.kept {R : Dr} (h : R.Ok) (i c : Nat) (hc : c ≤ (R.writes i).length) : (R.kept i c).Ok := by
  refine ⟨by rw [kept_len]; exact h.pos, by rw [kept_len]; exact h.le, by rw [kept_len]; exact h.spoilt, fun s hs => ?_, fun j s hs => ?_, fun j hj => ?_, h.left⟩
  · have hs2 : s ∈ (if 0 < c then R.safe.set i ((R.writes i).getD (c - 1) []) else R.safe) := hs
    split at hs2
    · rcases List.mem_or_eq_of_mem_set hs2 with h1 | h1
      · exact h.sector s h1
      · rw [h1]; exact h.writes i _ (getD_mem (by omega))
    · exact h.sector s hs2
  · have hs2 : s ∈ (if j = i then [] else R.writes j) := hs
    split at hs2
    · exact absurd hs2 List.not_mem_nil
    · exact h.writes j s hs2
  · rw [kept_len] at hj
    show (if j = i then [] else R.writes j) = []
    split
    · rfl
    · exact h.out j hj
end Dr

section
variable {w w' : World} {rp : Nat} {vS vW vP : Value} {hd : Nat → Value} {R : Dr} {G : Nat → Prop}
/-- a sector's row is dropped -/
theorem RefSt.drop (h : RefSt w rp vS vW vP hd R) {i gw : Nat} (hw : vW.ownBlock = some gw) :
    RefSt (w.setCell ⟨gw, i, none⟩ nilS) rp vS vW vP (fun j => if j = i then nilS else hd j) (R.kept i 0) ∧ Only (One gw) w (w.setCell ⟨gw, i, none⟩ nilS) := by
  obtain ⟨h1, h2⟩ := h.at_.putW hw i nilS
  have tw := row_type h.at_.writes hw
  refine ⟨⟨?_, h.ok.kept i 0 (Nat.zero_le _), fun j => ?_, fun j k hk => ?_, fun j hj => ?_⟩, h2⟩
  · have e : ((List.range R.safe.length).map hd).set i nilS = (List.range R.safe.length).map (fun j => if j = i then nilS else hd j) := by
      refine List.ext_getElem (by simp) fun j a b => ?_
      simp only [List.getElem_set, List.getElem_map, List.getElem_range]
      by_cases e : i = j
      · rw [if_pos e, if_pos e.symm]
      · rw [if_neg e, if_neg (fun q => e q.symm)]
    have e2 : (R.kept i 0).safe = R.safe := by show (if (0 : Nat) < 0 then R.safe.set i ((R.writes i).getD (0 - 1) []) else R.safe) = R.safe; exact if_neg (Nat.lt_irrefl _)
    rw [e2, ← e]; exact h1
  · show (w.setCell _ _).ownsRow 0 9 1 (if j = i then nilS else hd j) (if j = i then [] else R.writes j).length (strs (if j = i then [] else R.writes j))
    by_cases e : j = i
    · simp only [if_pos e]; exact World.ownsRow_nil _ _ _ _
    · simp only [if_neg e]
      refine ownsRow_only h2 (h.rows j) (fun k hk e => ?_)
      obtain ⟨c1, g1⟩ := row_type (h.rows j) hk
      obtain ⟨c2, g2⟩ := tw
      rw [show k = gw from e, g2] at g1; simp at g1
  · (try dsimp only at hk)
    split at hk
    · simp [nilS, Value.ownBlock] at hk
    · exact h.off j k hk
  · have hj2 : (if j = i then [] else R.writes j) = [] := hj
    show (if j = i then nilS else hd j) = nilS
    by_cases e : j = i
    · rw [if_pos e]
    · rw [if_neg e] at hj2 ⊢; exact h.nil j hj2
/-- what a round asks of such a drive: the header of its writes, one sector's row -/
theorem RefAt.row (h : RefAt w rp R G) {i : Nat} (hi : i < R.safe.length) : ∃ (gw cw : Nat) (a : Option Addr) (cap : Nat), w.cell? ⟨rp, 1, none⟩ = some (.slice (some ⟨gw, 0, none⟩) R.safe.length cw) ∧ R.safe.length ≤ cw ∧ cw ≤ maxLen ∧ w.cell? ⟨gw, i, none⟩ = some (.slice a (R.writes i).length cap) := by
  obtain ⟨vS, vW, vP, hd, h, _⟩ := h
  obtain ⟨_, c1, _⟩ := h.at_.cell
  obtain ⟨gw, cw, ew, _, hgw, hcapw, hmaxw, hcw, hfw⟩ := ownsRow_at h.at_.writes (j := i) (by rw [List.length_map, List.length_range]; exact hi)
  rw [wl_at hi] at hcw
  rw [List.length_map, List.length_range] at ew hcapw
  rw [ew] at c1
  obtain ⟨a, cap, e, _, _⟩ := own_head (h.rows i)
  rw [e] at hcw
  exact ⟨gw, cw, a, cap, c1, hcapw, hmaxw, hcw⟩
namespace Dr
/-- of each sector as many as x keeps of them -/
def keepC (R : Dr) (x : Nat) (i : Nat) : Nat := if R.writes i = [] then 0 else x % ((R.writes i).length + 1)
end Dr
theorem RefAt.gone (h : RefAt w rp R G) : RefAt (w.setCell ⟨rp, 3, none⟩ (.bool true)) rp R.die G ∧ Only G w (w.setCell ⟨rp, 3, none⟩ (.bool true)) := by
  obtain ⟨vS, vW, vP, hd, h, hf⟩ := h
  obtain ⟨g1, g2⟩ := turn1 (j := 3) (v := .bool true) h.at_.self
  have hr := h.at_.turn (gone' := true) (cut' := R.goes) (left' := (R.left : Int)) g1 (by rw [g2]; rfl)
  refine ⟨⟨vS, vW, vP, hd, ⟨hr, ⟨h.ok.pos, h.ok.le, h.ok.spoilt, h.ok.sector, h.ok.writes, h.ok.out, h.ok.left⟩, fun i => ownsRow_only g1 (h.rows i) (fun k hk e => ?_), h.off, h.nil⟩, hf⟩, g1.mono fun k hk => by rw [show k = rp from hk]; exact hf rp (.inl (.inl rfl))⟩
  obtain ⟨c1, q1⟩ := row_type (h.rows i) hk
  have q2 := h.at_.self
  rw [show k = rp from e] at q1
  rw [q2] at q1; simp at q1

end
end Go.Proofs.YtdgkhjgnjfgnlaaGreat
