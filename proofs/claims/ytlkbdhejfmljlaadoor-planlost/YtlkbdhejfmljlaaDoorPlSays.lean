/- Plans: what is asked of the program's Choose, Cost and Read; the document's own keep it. -/
import Derived.Test.YtlkbdhejfmljlaaDoorRef15Ch
namespace Go.Proofs.YtlkbdhejfmljlaaDoor
open Go.RowKit
attribute [local go_sem] Oper.semAt_some

/-- a row of numbers, as a reader has it -/
def Rd15 (w : World) (l : List Int) (v : Value) : Prop := ∃ a cap, v = .slice a l.length cap ∧ RowI .i64 w a l.length (fun j => l.getD j 0)
theorem Rd15.of_owns {w : World} {base t : Nat} {v : Value} {l : List Int} (h : w.ownsRow base t 1 v l.length (iV15 l)) : Rd15 w l v := by
  obtain ⟨a, cap, e, hR, _⟩ := RowI.of_owns (k := .i64) h
  exact ⟨a, cap, e, hR⟩
theorem Rd15.below {w w' : World} {l : List Int} {v : Value} (h : Rd15 w l v) (hb : Below w.heap.size w w') : Rd15 w' l v := by
  obtain ⟨a, cap, e, hR⟩ := h
  exact ⟨a, cap, e, hR.below hb⟩
/-- what Choose answers, and Read -/
def ChooseSays (w : World) (n : Int) (m : Nat) (B : Nat → Bool) (L : List Int) (r : Ending) (w' : World) : Prop :=
  (∃ vr vw, r = .returned (.tuple #[.agg #[.int .i64 (Pl.chooseW n m B L), vr, vw], .int .i64 (Pl.chooseE n m L : Nat)]) ∧ Rd15 w' (Pl.chooseR n m B L) vr ∧ Rd15 w' (Pl.chooseP n m B L) vw) ∧ Below w.heap.size w w'
def ReadSays (w : World) (n role : Int) (L : List Int) (r : Ending) (w' : World) : Prop :=
  (∃ v, r = .returned (.tuple #[v, .int .i64 (Pl.readE n role L : Nat)]) ∧ Rd15 w' (Pl.readL n role L) v) ∧ Below w.heap.size w w'
/-- what an int holds -/
def I64 (n : Int) : Prop := -9223372036854775808 ≤ n ∧ n ≤ 9223372036854775807
/-- what is asked of the program, from a world on -/
structure PlanSays (w0 : World) : Prop where
  choose : ∀ (w : World), Below w0.heap.size w0 w → ∀ (n : Int) (a0 : Option Addr) (m0 k0 : Nat) (B : Nat → Bool), I64 n → m0 ≤ 30 → m0 ≤ k0 → RowB w a0 m0 B → ∀ (a : Option Addr) (cap : Nat) (L : List Int), L.length ≤ cap → L.length ≤ 30 → RowI .i64 w a L.length (fun j => L.getD j 0) →
    Calls Tryd.prog 9 #[.int .i64 n, .slice a0 m0 k0, .slice a L.length cap] w (ChooseSays w n m0 B L)
  cost : ∀ (w : World), Below w0.heap.size w0 w → ∀ (n : Int) (a0 : Option Addr) (m0 k0 : Nat) (B : Nat → Bool), I64 n → m0 ≤ 30 → m0 ≤ k0 → RowB w a0 m0 B → ∀ (a : Option Addr) (cap : Nat) (L : List Int), L.length ≤ cap → L.length ≤ 30 → RowI .i64 w a L.length (fun j => L.getD j 0) → ∀ way : Int, I64 way →
    Calls Tryd.prog 11 #[.int .i64 n, .slice a0 m0 k0, .slice a L.length cap, .int .i64 way] w (Same15 w (.tuple #[.int .i64 (Pl.costN n m0 B L way : Nat), .bool (Pl.costB n m0 B L way)]))
  read : ∀ (w : World), Below w0.heap.size w0 w → ∀ (n role : Int) (a : Option Addr) (cap : Nat) (L : List Int), I64 n → I64 role → L.length ≤ cap → L.length ≤ 30 → RowI .i64 w a L.length (fun j => L.getD j 0) →
    Calls Tryd.prog 13 #[.int .i64 n, .int .i64 role, .slice a L.length cap] w (ReadSays w n role L)

theorem rChoose15_any (w : World) (n : Int) (a0 : Option Addr) (m0 k0 : Nat) (B : Nat → Bool) (hB : RowB w a0 m0 B) (a : Option Addr) (cap : Nat) (L : List Int) (hcap : L.length ≤ cap) (hL : L.length ≤ 30) (hR : RowI .i64 w a L.length (fun j => L.getD j 0)) :
    Calls Tryd.prog 10 #[.int .i64 n, .slice a0 m0 k0, .slice a L.length cap] w (ChooseSays w n m0 B L) := by
  have h : Calls Tryd.prog 10 #[.int .i64 n, .slice a0 m0 k0, .slice a L.length cap] w (ChooseAns w n m0 B L) := by
    cases hc : Pl.costOk n m0 L with
    | false => exact rChoose15_no w n a0 m0 k0 B a cap L hcap (by omega) hR hc
    | true =>
      have e : (m0 : Int) = n := by
        have h := hc
        unfold Pl.costOk Pl.argsOk at h
        simp only [Bool.and_eq_true, decide_eq_true_eq] at h
        exact h.1.2
      subst e
      exact rChoose15_yes w m0 a0 k0 B hB a cap L hcap (by omega) hR hc
  refine h.mono ?_
  rintro e w' ⟨vr, vw, rfl, h1, h2⟩
  exact ⟨⟨vr, vw, rfl, Rd15.of_owns h1.1, Rd15.of_owns h2.1⟩, h1.2⟩
theorem rRead15_says (w : World) (n role : Int) (a : Option Addr) (cap : Nat) (L : List Int) (hcap : L.length ≤ cap) (hL : L.length ≤ 30) (hR : RowI .i64 w a L.length (fun j => L.getD j 0)) :
    Calls Tryd.prog 14 #[.int .i64 n, .int .i64 role, .slice a L.length cap] w (ReadSays w n role L) := by
  refine (rRead15_any w n role a cap L hcap (by omega) hR).mono ?_
  rintro e w' ⟨v, rfl, h⟩
  exact ⟨⟨v, rfl, Rd15.of_owns h.1⟩, h.2⟩
end Go.Proofs.YtlkbdhejfmljlaaDoor
