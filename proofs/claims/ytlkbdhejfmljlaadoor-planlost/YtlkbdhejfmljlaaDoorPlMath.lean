/- Plans, plainly: which roles are lost, what each way reads, whether it can be gone, which way is gone. -/
import Derived.Test.YtlkbdhejfmljlaaDoorKit
namespace Go.Proofs.YtlkbdhejfmljlaaDoor
namespace Pl

/-- whether x is one of those -/
def hasB (L : List Int) (x : Int) : Bool := L.any fun y => y == x
/-- those may be: so many data columns, roles, none twice -/
def oneOk (n : Int) (L : List Int) (i : Nat) : Bool := decide (0 ≤ L.getD i 0) && (decide (L.getD i 0 ≤ n + 1) && !hasB (L.take i) (L.getD i 0))
def rolesB (n : Int) (L : List Int) : Bool := decide (2 ≤ n) && (decide (n ≤ 8) && (List.range L.length).all (oneOk n L))
section
variable (N : Nat) (B : Nat → Bool) (L : List Int)
def gone (i : Nat) : Bool := hasB L (i : Int)
def both : Bool := gone L N && gone L (N + 1)
/-- whether the way reads the role i -/
def inR (way : Int) (i : Nat) : Bool :=
  if way = 2 then !both N L && (!gone L i && (decide (N ≤ i) || B i)) else if way = 3 then decide (i < N) && !B i else if way = 4 then !gone L i else false
/-- whether the way can be gone, as far as the role i says -/
def stR (way : Int) (i : Nat) : Bool :=
  if way = 1 then decide (N ≤ i) || B i else if way = 2 then !(decide (i < N) && (B i && (gone L i && !both N L))) else if way = 3 then !(decide (i < N) && (!B i && gone L i)) else true
/-- what is read of the roles ahead of t -/
def readsT (way : Int) (t : Nat) : List Int := ((List.range t).filter (inR N B L way)).map fun i => ((i : Nat) : Int)
def isT (way : Int) (t : Nat) : Bool := (List.range t).all (stR N B L way)
def canB (way : Int) : Bool := decide (1 ≤ way) && (decide (way ≤ 4) && isT N B L way (N + 2))
def ansL (way : Int) : List Int := if canB N B L way then readsT N B L way (N + 2) else []
/-- what is left of the roles ahead of t -/
def leftT (t : Nat) : List Int := ((List.range t).filter fun i => !gone L i).map fun i => ((i : Nat) : Int)
/-- what is written of the roles ahead of t -/
def inW (i : Nat) : Bool := !gone L i && (decide (N ≤ i) || B i)
def writesT (t : Nat) : List Int := ((List.range t).filter (inW N B L)).map fun i => ((i : Nat) : Int)
/-- whether a column ahead of t is written -/
def anyT (t : Nat) : Bool := (List.range t).any fun i => decide (i < N) && B i
end
theorem filter_snoc {p : Nat → Bool} (t : Nat) : ((List.range (t + 1)).filter p).map (fun i => ((i : Nat) : Int)) = ((List.range t).filter p).map (fun i => ((i : Nat) : Int)) ++ (if p t then [(t : Int)] else []) := by
  rw [List.range_succ, List.filter_append, List.map_append]
  cases h : p t <;> simp [h]
theorem filter_len {p : Nat → Bool} (t : Nat) : (((List.range t).filter p).map (fun i => ((i : Nat) : Int))).length ≤ t := by
  rw [List.length_map]
  have := List.length_filter_le p (List.range t)
  rwa [List.length_range] at this
variable {N : Nat} {B : Nat → Bool} {L : List Int}
theorem inR_1 (t : Nat) : inR N B L 1 t = false := rfl
theorem inR_2 {t : Nat} {x y z : Bool} (hb : both N L = x) (hg : gone L t = y) (hz : (decide (N ≤ t) || B t) = z) : inR N B L 2 t = (!x && (!y && z)) := by unfold inR; rw [if_pos rfl, hb, hg, hz]
theorem inR_3 {t : Nat} {z : Bool} (hz : (decide (t < N) && !B t) = z) : inR N B L 3 t = z := by unfold inR; rw [if_neg (by decide), if_pos rfl, hz]
theorem inR_4 {t : Nat} {y : Bool} (hg : gone L t = y) : inR N B L 4 t = !y := by unfold inR; rw [if_neg (by decide), if_neg (by decide), if_pos rfl, hg]
theorem inR_o {way : Int} (h : way ≠ 1 ∧ way ≠ 2 ∧ way ≠ 3 ∧ way ≠ 4) (t : Nat) : inR N B L way t = false := by unfold inR; rw [if_neg h.2.1, if_neg h.2.2.1, if_neg h.2.2.2]
theorem stR_1 {t : Nat} {z : Bool} (hz : (decide (N ≤ t) || B t) = z) : stR N B L 1 t = z := by unfold stR; rw [if_pos rfl, hz]
theorem stR_2 {t : Nat} {d x y z : Bool} (hd : decide (t < N) = d) (hB : B t = z) (hg : gone L t = y) (hb : both N L = x) : stR N B L 2 t = !(d && (z && (y && !x))) := by unfold stR; rw [if_neg (by decide), if_pos rfl, hd, hB, hg, hb]
theorem stR_3 {t : Nat} {d y z : Bool} (hd : decide (t < N) = d) (hB : B t = z) (hg : gone L t = y) : stR N B L 3 t = !(d && (!z && y)) := by unfold stR; rw [if_neg (by decide), if_neg (by decide), if_pos rfl, hd, hB, hg]
theorem stR_4 (t : Nat) : stR N B L 4 t = true := rfl
theorem stR_o {way : Int} (h : way ≠ 1 ∧ way ≠ 2 ∧ way ≠ 3 ∧ way ≠ 4) (t : Nat) : stR N B L way t = true := by unfold stR; rw [if_neg h.1, if_neg h.2.1, if_neg h.2.2.1]
theorem readsT_yes {way : Int} {t : Nat} (h : inR N B L way t = true) : readsT N B L way (t + 1) = readsT N B L way t ++ [(t : Int)] := by unfold readsT; rw [filter_snoc, if_pos h]
theorem readsT_no {way : Int} {t : Nat} (h : inR N B L way t = false) : readsT N B L way (t + 1) = readsT N B L way t := by unfold readsT; rw [filter_snoc, h]; simp
theorem readsT_len (way : Int) (t : Nat) : (readsT N B L way t).length ≤ t := filter_len t
theorem isT_succ (way : Int) (t : Nat) : isT N B L way (t + 1) = (isT N B L way t && stR N B L way t) := by unfold isT; rw [List.range_succ, List.all_append]; simp
theorem leftT_yes {t : Nat} (h : gone L t = false) : leftT L (t + 1) = leftT L t ++ [(t : Int)] := by unfold leftT; rw [filter_snoc, if_pos (by rw [h]; rfl)]
theorem leftT_no {t : Nat} (h : gone L t = true) : leftT L (t + 1) = leftT L t := by unfold leftT; rw [filter_snoc, h]; simp
theorem leftT_len (t : Nat) : (leftT L t).length ≤ t := filter_len t
theorem writesT_yes {t : Nat} (h : inW N B L t = true) : writesT N B L (t + 1) = writesT N B L t ++ [(t : Int)] := by unfold writesT; rw [filter_snoc, if_pos h]
theorem writesT_no {t : Nat} (h : inW N B L t = false) : writesT N B L (t + 1) = writesT N B L t := by unfold writesT; rw [filter_snoc, h]; simp
theorem writesT_len (t : Nat) : (writesT N B L t).length ≤ t := filter_len t
theorem anyT_succ (t : Nat) : anyT N B (t + 1) = (anyT N B t || (decide (t < N) && B t)) := by unfold anyT; rw [List.range_succ, List.any_append]; simp
theorem hasB_take {x : Int} {t : Nat} (h : t < L.length) : hasB (L.take (t + 1)) x = (hasB (L.take t) x || (L.getD t 0 == x)) := by
  unfold hasB
  rw [List.take_succ_eq_append_getElem h, List.any_append, List.getD_eq_getElem?_getD, List.getElem?_eq_getElem h]
  simp
/-! ### what the calls answer -/
def argsOk (n : Int) (m : Nat) (L : List Int) : Bool := rolesB n L && decide ((m : Int) = n)
def costOk (n : Int) (m : Nat) (L : List Int) : Bool := argsOk n m L && decide (L.length ≤ 2)
def costN (n : Int) (m : Nat) (B : Nat → Bool) (L : List Int) (way : Int) : Nat := if costOk n m L then (ansL n.toNat B L way).length else 0
def costB (n : Int) (m : Nat) (B : Nat → Bool) (L : List Int) (way : Int) : Bool := costOk n m L && canB n.toNat B L way
def readE (n role : Int) (L : List Int) : Nat := if rolesB n L && (decide (0 ≤ role) && decide (role ≤ n + 1)) then (if hasB L role then (if L.length ≤ 2 then 0 else 60) else 0) else 1
def readL (n role : Int) (L : List Int) : List Int := if rolesB n L && (decide (0 ≤ role) && decide (role ≤ n + 1)) then (if hasB L role then (if L.length ≤ 2 then leftT L (n.toNat + 2) else []) else [role]) else []
/-- the way that is gone of those up to t, and what it reads -/
def bestT (N : Nat) (B : Nat → Bool) (L : List Int) : Nat → Int × List Int
  | 0 => (0, [])
  | t + 1 => if canB N B L ((t : Int) + 1) && (decide ((bestT N B L t).1 = 0) || decide ((ansL N B L ((t : Int) + 1)).length < (bestT N B L t).2.length)) then ((t : Int) + 1, ansL N B L ((t : Int) + 1)) else bestT N B L t
def chooseE (n : Int) (m : Nat) (L : List Int) : Nat := if argsOk n m L then (if L.length ≤ 2 then 0 else 60) else 1
/-- whether anything is done -/
def goes (n : Int) (m : Nat) (B : Nat → Bool) (L : List Int) : Bool := costOk n m L && anyT n.toNat B (n.toNat + 2)
def chooseW (n : Int) (m : Nat) (B : Nat → Bool) (L : List Int) : Int := if goes n m B L then (bestT n.toNat B L 4).1 else 0
def chooseR (n : Int) (m : Nat) (B : Nat → Bool) (L : List Int) : List Int := if goes n m B L then (bestT n.toNat B L 4).2 else []
def chooseP (n : Int) (m : Nat) (B : Nat → Bool) (L : List Int) : List Int := if goes n m B L then writesT n.toNat B L (n.toNat + 2) else []
theorem rolesB_n {n : Int} {L : List Int} (h : rolesB n L = true) : 2 ≤ n ∧ n ≤ 8 := by
  unfold rolesB at h
  simp only [Bool.and_eq_true, decide_eq_true_eq] at h
  exact ⟨h.1, h.2.1⟩
end Pl
end Go.Proofs.YtlkbdhejfmljlaaDoor
