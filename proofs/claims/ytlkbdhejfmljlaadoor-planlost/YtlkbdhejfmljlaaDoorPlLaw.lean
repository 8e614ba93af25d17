/- Plans: the calls' contracts in letters, for the laws. -/
import Derived.Test.YtlkbdhejfmljlaaDoorPlShown
import Derived.Test.YtlkbdhejfmljlaaDoorKitBools
namespace Go.Proofs.YtlkbdhejfmljlaaDoor
open Go.RowKit

/-- Choose's answer in letters -/
def ChooseQ (cw : Int) (cr cp : List Int) (lr lw ce : Nat) (w : World) (r : Ending) (w' : World) : Prop :=
  (∃ ar kr aw kw, r = .returned (.tuple #[.agg #[.int .i64 cw, .slice ar lr kr, .slice aw lw kw], .int .i64 (ce : Nat)]) ∧ RowI .i64 w' ar lr (fun j => cr.getD j 0) ∧ RowI .i64 w' aw lw (fun j => cp.getD j 0)) ∧ Below w.heap.size w w'
theorem ChooseSays.q {w w' : World} {n : Int} {m : Nat} {B : Nat → Bool} {L : List Int} {r : Ending} (h : ChooseSays w n m B L r w') {cw : Int} {cr cp : List Int} {lr lw ce : Nat} (e1 : Pl.chooseW n m B L = cw) (e2 : Pl.chooseR n m B L = cr) (e3 : Pl.chooseP n m B L = cp) (e4 : cr.length = lr) (e5 : cp.length = lw) (e6 : Pl.chooseE n m L = ce) : ChooseQ cw cr cp lr lw ce w r w' := by
  obtain ⟨⟨vr, vw, rfl, hr, hw⟩, hb⟩ := h
  subst e1 e2 e3 e4 e5 e6
  obtain ⟨ar, kr, rfl, hR⟩ := hr
  obtain ⟨aw, kw, rfl, hW⟩ := hw
  exact ⟨⟨ar, kr, aw, kw, rfl, hR, hW⟩, hb⟩
/-- Read's -/
def ReadQ (rl : List Int) (ln re : Nat) (w : World) (r : Ending) (w' : World) : Prop :=
  (∃ a k, r = .returned (.tuple #[.slice a ln k, .int .i64 (re : Nat)]) ∧ RowI .i64 w' a ln (fun j => rl.getD j 0)) ∧ Below w.heap.size w w'
theorem ReadSays.q {w w' : World} {n role : Int} {L : List Int} {r : Ending} (h : ReadSays w n role L r w') {rl : List Int} {ln re : Nat} (e1 : Pl.readL n role L = rl) (e2 : rl.length = ln) (e3 : Pl.readE n role L = re) : ReadQ rl ln re w r w' := by
  obtain ⟨⟨v, rfl, hr⟩, hb⟩ := h
  subst e1 e2 e3
  obtain ⟨a, k, rfl, hR⟩ := hr
  exact ⟨⟨a, k, rfl, hR⟩, hb⟩
theorem IsBools.rowB {w : World} {a : Option Addr} {len cap : Nat} {B : Nat → Bool} (h : IsBools w a len cap B) : RowB w a len B := fun j hj => by
  obtain ⟨_, hr⟩ := h.row
  obtain ⟨b, off, e, hc⟩ := hr (by omega)
  exact ⟨b, off, e, hc j hj⟩
theorem IsBools.le {w : World} {a : Option Addr} {len cap : Nat} {B : Nat → Bool} (h : IsBools w a len cap B) : len ≤ cap := by
  rcases h with ⟨_, rfl, rfl⟩ | ⟨_, _, hl, _⟩
  · exact Nat.le_refl _
  · exact hl
theorem IsRow.le {k : IntKind} {w : World} {a : Option Addr} {len cap : Nat} {zs : List Int} (h : IsRow k w a len cap zs) : len ≤ cap := by
  rcases h with ⟨_, rfl, rfl, _⟩ | ⟨_, _, hl, _⟩
  · exact Nat.le_refl _
  · exact hl
namespace Pl
/-- what is read, and written, is short -/
theorem ansL_len {N : Nat} {B : Nat → Bool} {L : List Int} (way : Int) : (ansL N B L way).length ≤ N + 2 := by
  unfold ansL
  cases canB N B L way with
  | true => exact readsT_len way (N + 2)
  | false => exact Nat.zero_le _
theorem bestT_len {N : Nat} {B : Nat → Bool} {L : List Int} : ∀ t, (bestT N B L t).2.length ≤ N + 2
  | 0 => Nat.zero_le _
  | t + 1 => by
    show (if _ then _ else _ : Int × List Int).2.length ≤ _
    split
    · exact ansL_len _
    · exact bestT_len t
theorem goes_n {n : Int} {m : Nat} {B : Nat → Bool} {L : List Int} (h : goes n m B L = true) : n.toNat ≤ 8 := by
  unfold goes costOk argsOk at h
  simp only [Bool.and_eq_true] at h
  have := rolesB_n h.1.1.1
  omega
theorem short {n : Int} {m : Nat} {B : Nat → Bool} {L : List Int} : (chooseR n m B L).length ≤ 10 ∧ (chooseP n m B L).length ≤ 10 := by
  unfold chooseR chooseP
  cases h : goes n m B L with
  | false => exact ⟨Nat.zero_le _, Nat.zero_le _⟩
  | true =>
    have h8 := goes_n h
    have h1 := bestT_len (N := n.toNat) (B := B) (L := L) 4
    have h2 := writesT_len (N := n.toNat) (B := B) (L := L) (n.toNat + 2)
    simp only [if_true]
    omega
theorem short_read {n role : Int} {L : List Int} : (readL n role L).length ≤ 10 := by
  unfold readL
  cases h : rolesB n L with
  | false => exact Nat.zero_le _
  | true =>
    have h8 := rolesB_n h
    have h1 := leftT_len (L := L) (n.toNat + 2)
    split
    · split
      · split
        · omega
        · exact Nat.zero_le _
      · simp
    · exact Nat.zero_le _
end Pl
end Go.Proofs.YtlkbdhejfmljlaaDoor
