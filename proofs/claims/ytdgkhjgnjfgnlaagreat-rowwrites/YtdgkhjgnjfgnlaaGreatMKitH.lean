/- Several texts in one. A row among many things grows; what stands in it. A list of acts on sets that came in: each a struct of a kind, three numbers, a column and a text; the walk of heavy over it. -/
import Derived.Test.YtdgkhjgnjfgnlaaGreatMKitB
import Derived.Test.YtdgkhjgnjfgnlaaGreatMKitA
import Derived.SliceStrings
import Derived.ProofKit
import Derived.OpenShut
import Derived.ShutString
import Derived.Deep.LoopGhost
namespace Go.Proofs.YtdgkhjgnjfgnlaaGreat
open Go.RowKit

/-- a row among many grows -/
theorem many_growL {w w1 w' : World} {B m : Nat} {T : Nat → Thing} (h : Many w B m T) {i : Nat} (hi : i < m) {t : TypeId} {v : Value} {l l' : List Value} {g cap n : Nat} (e : T i = rowT t v l) (hn : n = l'.length) (hb : Below w.heap.size w w1)
    (ho : w'.ownsRow 0 t 1 (.slice (some ⟨g, 0, none⟩) n cap) n l') (hg : w1.grownBy w' v.ownBlock) (hl : v.ownBlock = some g ∨ g = w1.heap.size) :
    Many w' B m (swap1 T i (rowT t (.slice (some ⟨g, 0, none⟩) n cap) l')) ∧ Below B w w' := by
  subst hn
  have hB := h.size
  obtain ⟨F, h1, h2, h3, h4⟩ := h
  have hF := h1 i hi
  rw [e] at hF
  have a : (rowT t (.slice (some ⟨g, 0, none⟩) l'.length cap) l').is w' (Plus (F i) w.heap.size) := ⟨ho, fun k hk => by
    cases hk
    rcases hl with hl | hl
    · exact .inl (hF.2 g hl)
    · exact .inr (by rw [hl]; exact hb.size)⟩
  have o : Only (F i) w w' := (Only.of_below hb (F i)).then (Only.of_grown hg (F i) (fun k hk => hF.2 k hk))
  obtain ⟨hm, hO⟩ := Many.turned hi h1 h2 h3 h4 a o
  exact ⟨hm, hO.below (fun _ hk => hk.1) hB⟩
theorem many_own {w : World} {B m : Nat} {T : Nat → Thing} (h : Many w B m T) {i : Nat} (hi : i < m) {t : TypeId} {v : Value} {l : List Value} {n : Nat} (e : T i = rowT t v l) (hn : n = l.length) : w.ownsRow 0 t 1 v n l := by
  obtain ⟨F, hF, _⟩ := h.look hi
  rw [e] at hF
  rw [hn]
  exact hF.1
theorem head_of {w : World} {B m : Nat} {T : Nat → Thing} (h : Many w B m T) {i : Nat} (hi : i < m) {t : TypeId} {v : Value} {l : List Value} {n : Nat} (e : T i = rowT t v l) (hn : l.length = n) : ∃ a cap, v = .slice a n cap := by
  obtain ⟨F, hF, _⟩ := h.look hi
  rw [e] at hF
  obtain ⟨a, cap, h⟩ := rowT_head hF
  exact ⟨a, cap, by rw [h, hn]⟩
end Go.Proofs.YtdgkhjgnjfgnlaaGreat

namespace Go.Proofs.YtdgkhjgnjfgnlaaGreat
open Go.RowKit Go.ChangeShapes Go.WideShapes

/-- one act, as it came in -/
structure Act16 where
  kind : Int
  row : Int
  off : Int
  role : Int
  col : Nat
  s : ByteArray
def Act16.zero : Act16 := ⟨0, 0, 0, 0, 0, ByteArray.empty⟩
/-- where it lies -/
structure ActAt16 (w : World) (b o : Nat) (x : Act16) : Prop where
  c0 : w.cell? ⟨b, o, none⟩ = some (.int .i64 x.kind)
  c1 : w.cell? ⟨b, o + 1, none⟩ = some (.int .i64 x.row)
  c2 : w.cell? ⟨b, o + 2, none⟩ = some (.int .i64 x.off)
  c3 : w.cell? ⟨b, o + 3, none⟩ = some (.int .i64 x.role)
  c4 : w.cell? ⟨b, o + 4, none⟩ = some (.int .u8 (x.col : Int))
  c5 : w.cell? ⟨b, o + 5, none⟩ = some (.string x.s)
  kind : (Lit.int .i64 x.kind).wf = true
  row : (Lit.int .i64 x.row).wf = true
  off : (Lit.int .i64 x.off).wf = true
  role : (Lit.int .i64 x.role).wf = true
  col : x.col < 256
  s : x.s.size ≤ maxLen
section
variable {H : Type} {enc : TypeId × Value → H} {w : World} {base : Nat} {spare : Nat → Bool} {held : Bool}
end
def Light16 (n : Nat) (f : Nat → Act16) : Prop := n ≤ 80 ∧ ∀ j, j < n → (f j).s.size ≤ 100
end Go.Proofs.YtdgkhjgnjfgnlaaGreat
