/- A row among many things grows; what stands in it. -/
import Derived.Test.YtlcoibfpebggoaaGreatDoorMKitB
namespace Go.Proofs.YtlcoibfpebggoaaGreatDoor
open Go.RowKit

/-- a row among many grows -/
theorem many_growL {w w1 w' : World} {B m : Nat} {T : Nat → Thing} (h : Many w B m T) {i : Nat} (hi : i < m) {t : TypeId} {v : Value} {l l' : List Value} {g cap n : Nat} (e : T i = rowT t v l) (hn : n = l'.length) (hb : Below w.heap.size w w1)
    (ho : w'.ownsRow 0 t 1 (.slice (some ⟨g, 0, none⟩) n cap) n l') (hg : w1.grownBy w' v.ownBlock) (hl : v.ownBlock = some g ∨ g = w1.heap.size) :
    Many w' B m (swap1 T i (rowT t (.slice (some ⟨g, 0, none⟩) n cap) l')) ∧ Below B w w' := by
  subst hn
  have hB := h.size
  obtain ⟨F, h1, h2, h3, h4⟩ := h
  have hF := h1 i hi
  rw [e] at hF
  have a : (rowT t (.slice (some ⟨g, 0, none⟩) l'.length cap) l').is w' (Plus (F i) w.heap.size) := ⟨ho, fun k hk => by
    cases hk
    rcases hl with hl | hl
    · exact .inl (hF.2 g hl)
    · exact .inr (by rw [hl]; exact hb.size)⟩
  have o : Only (F i) w w' := (Only.of_below hb (F i)).then (Only.of_grown hg (F i) (fun k hk => hF.2 k hk))
  obtain ⟨hm, hO⟩ := Many.turned hi h1 h2 h3 h4 a o
  exact ⟨hm, hO.below (fun _ hk => hk.1) hB⟩
theorem many_own {w : World} {B m : Nat} {T : Nat → Thing} (h : Many w B m T) {i : Nat} (hi : i < m) {t : TypeId} {v : Value} {l : List Value} {n : Nat} (e : T i = rowT t v l) (hn : n = l.length) : w.ownsRow 0 t 1 v n l := by
  obtain ⟨F, hF, _⟩ := h.look hi
  rw [e] at hF
  rw [hn]
  exact hF.1
theorem head_of {w : World} {B m : Nat} {T : Nat → Thing} (h : Many w B m T) {i : Nat} (hi : i < m) {t : TypeId} {v : Value} {l : List Value} {n : Nat} (e : T i = rowT t v l) (hn : l.length = n) : ∃ a cap, v = .slice a n cap := by
  obtain ⟨F, hF, _⟩ := h.look hi
  rw [e] at hF
  obtain ⟨a, cap, h⟩ := rowT_head hF
  exact ⟨a, cap, by rw [h, hn]⟩
theorem many_at {w : World} {B m : Nat} {T : Nat → Thing} (h : Many w B m T) {i : Nat} (hi : i < m) {t : TypeId} {a : Option Addr} {n cap j : Nat} {l : List Value} {u : Value} (e : T i = rowT t (.slice a n cap) l) (hj : l[j]? = some u) : ∃ g, a = some ⟨g, 0, none⟩ ∧ w.cell? ⟨g, j, none⟩ = some u := by
  obtain ⟨F, hF, _⟩ := h.look hi
  rw [e] at hF
  obtain ⟨g, cap', h1, h2⟩ := rowT_at hF hj
  cases h1
  exact ⟨g, rfl, h2⟩
end Go.Proofs.YtlcoibfpebggoaaGreatDoor
