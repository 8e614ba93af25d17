/- PagesJoined's drives: a page saved on each of some, then one of them dies. Plain, and the table of things. -/
import Derived.Test.YtlcoibfpebggoaaGreatDoorMPgC
import Derived.Test.YtlcoibfpebggoaaGreatDoorPgBits
import Derived.Test.YtlcoibfpebggoaaGreatDoorPgJoined
import Derived.Test.YtlcoibfpebggoaaGreatDoorPgOr
namespace Go.Proofs.YtlcoibfpebggoaaGreatDoor
open Go.RowKit

namespace Pg
theorem toBit (x : UInt8) : BitVec.ofInt 8 (x.toNat : Int) = x.toBitVec := by
  apply BitVec.eq_of_toNat_eq
  rw [ofInt_u8]; rfl
/-- what is left of x without y is nought, where every bit of x is one of y -/
theorem u8_andNot {x y : UInt8} (h : Sub8 x y) : Go.bits .andNot .u8 (x.toNat : Int) (y.toNat : Int) = 0 := by
  have h2 : x.toBitVec ||| y.toBitVec = y.toBitVec := congrArg UInt8.toBitVec h
  have h3 : x.toBitVec &&& ~~~y.toBitVec = 0#8 := by
    rw [← h2]
    apply BitVec.eq_of_getLsbD_eq
    intro i hi
    simp only [BitVec.getLsbD_and, BitVec.getLsbD_not, BitVec.getLsbD_or, BitVec.getLsbD_zero, hi, decide_true, Bool.true_and]
    cases x.toBitVec.getLsbD i <;> cases y.toBitVec.getLsbD i <;> rfl
  show IntKind.u8.wrap ((BitVec.ofInt 8 (x.toNat : Int) &&& ~~~BitVec.ofInt 8 (y.toNat : Int)).toNat : Int) = 0
  rw [toBit, toBit, h3]
  rfl
end Pg
/-- the drive i behind its page -/
def drJ (E : Nat → Nat) (S : Nat → ByteArray) (i : Nat) : Dr := (Dr.fresh 3).pgSaveD ⟨E i, bits8 (S i)⟩
section
variable {E : Nat → Nat} {S : Nat → ByteArray} (hE : ∀ i, E i < 18446744073709551616)
include hE
theorem drJ_saved (i : Nat) : (Dr.fresh 3).pgSaveE ⟨E i, bits8 (S i)⟩ = 0 ∧ (drJ E S i).pgE = 0 ∧ (drJ E S i).pgS = ⟨E i, bits8 (S i)⟩ := by
  obtain ⟨h1, _, h3, h4⟩ := (Dr.Still.fresh 3).saved (by decide) (p := ⟨E i, bits8 (S i)⟩) (hE i) (bits8_size _)
  exact ⟨h1, h3, h4⟩
theorem drJ_counts (i v : Nat) (h : v ≤ E i) : Pg.counts (drJ E S i) v = true := by
  unfold Pg.counts
  rw [(drJ_saved hE i).2.1, (drJ_saved hE i).2.2]
  simpa using h
omit hE
theorem fresh3_fit : (Dr.fresh 3).Fit11 := ⟨rfl, by show 2 < 3; decide, fun _ => by show (0 : Nat) < 1000000; decide⟩
theorem drJ_goes (i : Nat) : (drJ E S i).goes = false := by unfold drJ; exact (fresh3_fit.save _).goes
theorem die_goes (D : Dr) : D.die.goes = D.goes := rfl
/-- what is left where the drive t has died -/
def drK (E : Nat → Nat) (S : Nat → ByteArray) (t : Nat) : Nat → Dr := swap1 (drJ E S) t (drJ E S t).die
theorem drK_goes (t i : Nat) : (drK E S t i).goes = false := by
  unfold drK
  by_cases e : i = t
  · subst e; rw [swap1_same, die_goes]; exact drJ_goes i
  · rw [swap1_other _ _ e]; exact drJ_goes i
theorem drK_other {t i : Nat} (h : i ≠ t) : drK E S t i = drJ E S i := swap1_other _ _ h
theorem drK_dead (t v : Nat) : Pg.counts (drK E S t t) v = false := by
  unfold drK
  rw [swap1_same]
  have h : (drJ E S t).die.pgE = 40 := (Dr.Still.die (D := (drJ E S t).die) rfl (p := ⟨0, bits8 ByteArray.empty⟩) (bits8_size _)).2.2.1
  unfold Pg.counts
  rw [h]; rfl
theorem drK_less (t v i : Nat) : drK E S t i = drJ E S i ∨ Pg.counts (drK E S t i) v = false := by
  by_cases e : i = t
  · subst e; exact .inr (drK_dead i v)
  · exact .inl (drK_other e)
include hE
/-- each page that counts is in what is joined -/
theorem all_has {n i v k : Nat} (hi : i < n) (hv : v ≤ E i) (hk : k < 8) : Pg.Sub8 ((bits8 (S i)).data.toList.getD k 0) ((Pg.joinL Pg.whoN (drJ E S) v n).getD k 0) := by
  have := Pg.join_has (R := drJ E S) (v := v) n i hi (drJ_counts hE i v hv) k hk
  rw [(drJ_saved hE i).2.2] at this
  exact this
theorem some_has {n i t v k : Nat} (hi : i < n) (hne : i ≠ t) (hv : v ≤ E i) (hk : k < 8) : Pg.Sub8 ((bits8 (S i)).data.toList.getD k 0) ((Pg.joinL Pg.whoN (drK E S t) v n).getD k 0) := by
  have := Pg.join_has (R := drK E S t) (v := v) n i hi (by rw [drK_other hne]; exact drJ_counts hE i v hv) k hk
  rw [drK_other hne, (drJ_saved hE i).2.2] at this
  exact this
omit hE
theorem some_less (n t v : Nat) {k : Nat} (hk : k < 8) : Pg.Sub8 ((Pg.joinL Pg.whoN (drK E S t) v n).getD k 0) ((Pg.joinL Pg.whoN (drJ E S) v n).getD k 0) :=
  Pg.join_less (R := drJ E S) (R' := drK E S t) (v := v) (fun i => drK_less t v i) n k hk
end
theorem listedN (n : Nat) (f : Nat → Nat) : Listed (lst n f) Pg.whoN n f := fun j hj => by
  rw [lst_length] at hj
  exact .inr ⟨j, hj, rfl, lst_at f hj⟩
/-- the row, and k drives -/
def tbJ (v : Value) (pp : Nat → Nat) (R : Nat → Dr) (k : Nat) : Nat → Thing := fun x => if x = 0 then rowT 39 v (lst k pp) else drvT (pp (x - 1)) (R (x - 1))
theorem tbJ_grow {v v' : Value} {pp : Nat → Nat} {R : Nat → Dr} {k p : Nat} {D : Dr} (hD : D = R k) (x : Nat) (hx : x < k + 2) :
    swap1 (swap1 (tbJ v pp R k) (k + 1) (drvT p D)) 0 (rowT 39 v' (lst k pp ++ [.pointer (some ⟨p, 0, none⟩)])) x = tbJ v' (swap1 pp k p) R (k + 1) x := by
  subst hD
  by_cases h0 : x = 0
  · subst h0; rw [swap1_same, ← lst_grow]; rfl
  rw [swap1_other _ _ h0]
  by_cases hk : x = k + 1
  · subst hk
    rw [swap1_same]
    unfold tbJ
    rw [if_neg h0, Nat.add_sub_cancel, swap1_same]
  · rw [swap1_other _ _ hk]
    unfold tbJ
    rw [if_neg h0, if_neg h0, swap1_other _ _ (by omega)]
theorem tbJ_drv {v : Value} {pp : Nat → Nat} {R : Nat → Dr} {k i : Nat} : tbJ v pp R k (1 + i) = drvT (pp i) (R i) := by
  unfold tbJ
  rw [if_neg (by omega), Nat.add_sub_cancel_left]
theorem tbJ_turn {v : Value} {pp : Nat → Nat} {R : Nat → Dr} {k t : Nat} (D : Dr) (x : Nat) : swap1 (tbJ v pp R k) (1 + t) (drvT (pp t) D) x = tbJ v pp (swap1 R t D) k x := by
  by_cases e : x = 1 + t
  · subst e; rw [swap1_same, tbJ_drv, swap1_same]
  · rw [swap1_other _ _ e]
    unfold tbJ
    by_cases h0 : x = 0
    · rw [if_pos h0, if_pos h0]
    · rw [if_neg h0, if_neg h0, swap1_other _ _ (by omega)]
/-- a text of eight bytes out of a list -/
theorem byte_of (l : List UInt8) {k : Nat} (h : k < (⟨l.toArray⟩ : ByteArray).size) : (⟨l.toArray⟩ : ByteArray)[k]'h = l.getD k 0 := by
  rw [Pg.byt11_at _ k h]
  unfold Pg.byt11
  simp
end Go.Proofs.YtlcoibfpebggoaaGreatDoor
