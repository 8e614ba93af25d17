/- What calls one behind the other leave of the program's drive. -/
import Derived.Test.YtjmeiifogblmoaaGreatDoorDrvStep
namespace Go.Proofs.YtjmeiifogblmoaaGreatDoor
open Go.RowKit

section
variable {w w1 w2 : World} {p : Nat} {D D1 D2 : Dr} {F : Nat → Prop}
/-- what a call leaves of the program's drive -/
def PEnd (w w' : World) (p : Nat) (D' : Dr) (F : Nat → Prop) : Prop := DriveAt w' p D' (Plus F w.heap.size) ∧ Only F w w'
theorem PEnd.refl (h : DriveAt w p D F) : PEnd w w p D F := ⟨h.mono fun _ hk => .inl hk, Only.refl _ _⟩
theorem PEnd.below (h : PEnd w w1 p D1 F) (hb : Below w1.heap.size w1 w2) : PEnd w w2 p D1 F := ⟨h.1.below hb, h.2.trans (Only.of_below hb _)⟩
theorem PEnd.step (h : PEnd w w1 p D1 F) (hd : DriveAt w2 p D2 (Plus (Plus F w.heap.size) w1.heap.size)) (ho : Only (Plus F w.heap.size) w1 w2) : PEnd w w2 p D2 F :=
  ⟨hd.mono fun _ hk => hk.elim id fun h1 => .inr (Nat.le_trans h.2.size h1), h.2.trans ho⟩
theorem PEnd.same (h : PEnd w w1 p D1 F) (hd : DriveAt w2 p D2 (Plus F w.heap.size)) (ho : Only (Plus F w.heap.size) w1 w2) : PEnd w w2 p D2 F := ⟨hd, h.2.trans ho⟩
theorem PEnd.trans (h : PEnd w w1 p D1 F) (h2 : PEnd w1 w2 p D2 (Plus F w.heap.size)) : PEnd w w2 p D2 F := h.step h2.1 h2.2
end
end Go.Proofs.YtjmeiifogblmoaaGreatDoor
