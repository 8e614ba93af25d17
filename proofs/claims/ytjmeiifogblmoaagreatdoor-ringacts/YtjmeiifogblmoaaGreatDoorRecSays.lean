/- What is asked of the program's own package record. -/
import Derived.Test.YtjmeiifogblmoaaGreatDoorMRefG
import Derived.Test.YtjmeiifogblmoaaGreatDoorMRecC
namespace Go.Proofs.YtjmeiifogblmoaaGreatDoor
open Go.RowKit

/-- within what the statements ask -/
def RecLight (n : Nat) (f : Nat → Prt) : Prop := n ≤ 60 ∧ ∀ j, j < n → (f j).data.size ≤ 100
/-- what the program's Encode answers: the load is a row of the call's own -/
def EncOwn (w : World) (seq : Nat) (row : Int) (n : Nat) (f : Nat → Prt) (e : Ending) (w' : World) : Prop :=
  ∃ v, e = .returned (.tuple #[.string (Rc.encT seq row n f), v, .int .i64 (Rc.encE row n f : Nat)]) ∧ w'.ownsRow w.heap.size 9 1 v (Rc.encN row n f) (textVals (Rc.encN row n f) fun j => (f j).data) ∧ Below w.heap.size w w'
structure RecSays : Prop where
  may : ∀ (seq : Nat) (row : Int) (a : Option Addr) (n cap : Nat) (f : Nat → Prt) (w : World), seq < 18446744073709551616 → RecIn row n f → RecLight n f → PartsR w a n f →
    Calls Tryz.prog 69 #[.agg #[.int .u64 (seq : Int), .int .i64 row, .slice a n cap]] w fun e w' => e = .returned (.bool (Rc.mayB row n f)) ∧ Below w.heap.size w w'
  enc : ∀ (seq : Nat) (row : Int) (a : Option Addr) (n cap : Nat) (f : Nat → Prt) (w : World), seq < 18446744073709551616 → RecIn row n f → RecLight n f → PartsR w a n f →
    Calls Tryz.prog 38 #[.agg #[.int .u64 (seq : Int), .int .i64 row, .slice a n cap]] w (EncOwn w seq row n f)
  head : ∀ (b : ByteArray) (w : World), b.size ≤ 100 → Calls Tryz.prog 92 #[.string b] w (HeadAns w b)
  dec : ∀ (b : ByteArray) (aL : Option Addr) (m capL : Nat) (g : Nat → ByteArray) (w : World), b.size ≤ 100 → m ≤ 60 → (∀ j, j < m → (g j).size ≤ 100) → m ≤ capL → RowS w aL m g →
    Calls Tryz.prog 94 #[.string b, .slice aL m capL] w (DecAns12 w b m g)
end Go.Proofs.YtjmeiifogblmoaaGreatDoor
