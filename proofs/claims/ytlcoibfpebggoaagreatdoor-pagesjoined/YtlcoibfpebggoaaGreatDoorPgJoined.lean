/- What is joined out of many drives holds each page that counts; of fewer of them it is no more. Plain. -/
import Derived.Test.YtlcoibfpebggoaaGreatDoorMPgC
namespace Go.Proofs.YtlcoibfpebggoaaGreatDoor
open Go.RowKit
namespace Pg
/-- every bit of a is one of b -/
def Sub8 (a b : UInt8) : Prop := a ||| b = b
theorem Sub8.refl (a : UInt8) : Sub8 a a := UInt8.or_self
theorem Sub8.zero (a : UInt8) : Sub8 0 a := UInt8.zero_or
theorem Sub8.trans {a b c : UInt8} (h : Sub8 a b) (k : Sub8 b c) : Sub8 a c := by
  unfold Sub8 at *
  rw [← k, ← UInt8.or_assoc, h]
theorem Sub8.left (a b : UInt8) : Sub8 a (a ||| b) := by
  unfold Sub8
  rw [← UInt8.or_assoc, UInt8.or_self]
theorem Sub8.right (a b : UInt8) : Sub8 b (a ||| b) := by
  rw [UInt8.or_comm]; exact Sub8.left b a
theorem Sub8.or {a b c d : UInt8} (h : Sub8 a b) (k : Sub8 c d) : Sub8 (a ||| c) (b ||| d) := by
  unfold Sub8 at *
  rw [show a ||| c ||| (b ||| d) = (a ||| b) ||| (c ||| d) by ac_rfl, h, k]
/-- which drive stands where: each in its place -/
def whoN : Who := fun j => some j
theorem orL_at {a b : List UInt8} (ha : a.length = 8) (hb : b.length = 8) {k : Nat} (hk : k < 8) : (orL a b).getD k 0 = a.getD k 0 ||| b.getD k 0 := by
  unfold orL
  rw [List.getD_eq_getElem?_getD, List.getD_eq_getElem?_getD, List.getD_eq_getElem?_getD, List.getElem?_zipWith, List.getElem?_eq_getElem (by omega), List.getElem?_eq_getElem (by omega)]
  rfl
variable {R R' : Nat → Dr} {v : Nat}
/-- the bytes of a page that counts -/
theorem bits_length {D : Dr} (h : counts D v = true) : D.pgS.bits.data.toList.length = 8 := by
  have h0 : D.pgE = 0 := by unfold counts at h; simp at h; exact h.1
  have := Dr.pgS_size h0
  rw [← this]; rfl
theorem join_has : ∀ (n i : Nat), i < n → counts (R i) v = true → ∀ k, k < 8 → Sub8 ((R i).pgS.bits.data.toList.getD k 0) ((joinL whoN R v n).getD k 0)
  | 0, i, h, _, _, _ => absurd h (Nat.not_lt_zero _)
  | n + 1, i, h, hc, k, hk => by
    cases hn : counts (R n) v with
    | true =>
      rw [(join_yes (q := whoN) (i := n) rfl hn).1, orL_at (joinL_length _ _ _ _) (bits_length hn) hk]
      by_cases e : i = n
      · subst e; exact Sub8.right _ _
      · exact (join_has n i (by omega) hc k hk).trans (Sub8.left _ _)
    | false =>
      rw [(join_no (q := whoN) (i := n) rfl hn).1]
      have : i ≠ n := fun e => by subst e; rw [hc] at hn; cases hn
      exact join_has n i (by omega) hc k hk
theorem join_less (h : ∀ i, R' i = R i ∨ counts (R' i) v = false) : ∀ (n : Nat) (k : Nat), k < 8 → Sub8 ((joinL whoN R' v n).getD k 0) ((joinL whoN R v n).getD k 0)
  | 0, _, _ => Sub8.refl _
  | n + 1, k, hk => by
    have ih := join_less h n k hk
    cases hn' : counts (R' n) v with
    | true =>
      have e : R' n = R n := (h n).resolve_right (by rw [hn']; decide)
      have hn : counts (R n) v = true := e ▸ hn'
      rw [(join_yes (q := whoN) (i := n) rfl hn').1, (join_yes (q := whoN) (i := n) rfl hn).1, orL_at (joinL_length _ _ _ _) (bits_length hn') hk, orL_at (joinL_length _ _ _ _) (bits_length hn) hk, e]
      exact ih.or (Sub8.refl _)
    | false =>
      rw [(join_no (q := whoN) (i := n) rfl hn').1]
      cases hn : counts (R n) v with
      | true =>
        rw [(join_yes (q := whoN) (i := n) rfl hn).1, orL_at (joinL_length _ _ _ _) (bits_length hn) hk]
        exact ih.trans (Sub8.left _ _)
      | false => rw [(join_no (q := whoN) (i := n) rfl hn).1]; exact ih
end Pg
end Go.Proofs.YtlcoibfpebggoaaGreatDoor
