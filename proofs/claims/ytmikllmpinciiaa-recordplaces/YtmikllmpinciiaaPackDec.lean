/- Unpacking: the walk of pack.Decode. -/
import Derived.Test.YtmikllmpinciiaaPackIter
import Derived.Test.YtmikllmpinciiaaKitRound
import Derived.Lib.JoinLaws
namespace Go.Proofs.Ytmikllmpinciiaa
open Go.RowKit Go.Shelf
attribute [local go_sem] Oper.semAt_some

/-- what pack.Decode answers -/
def DecAns (s : List UInt8) (ws : List Int) (w : World) (e : Ending) (w' : World) : Prop :=
  ∃ a cap, e = .returned (.tuple #[.slice a (Pk.dec s ws).length cap, .int .i64 (Pk.decE s ws)]) ∧ RowI .u64 w' a (Pk.dec s ws).length (fun j => ((Pk.dec s ws).getD j 0 : Nat)) ∧ Below w.heap.size w w'

namespace Pk
/-- one byte more of number i -/
def accStep (s : List UInt8) (i : Nat) (st : Nat × Nat) (x : Nat × Nat) : Nat × Nat := (st.1 + 1, if x.1 = i then st.2 ||| (s.getD st.1 0).toNat <<< (8 * x.2) else st.2)
/-- number i behind the places pre -/
def acc (s : List UInt8) (pre : List (Nat × Nat)) (i : Nat) : Nat := (pre.foldl (accStep s i) (0, 0)).2
theorem acc_fst (s : List UInt8) (i : Nat) (pre : List (Nat × Nat)) (st : Nat × Nat) : (pre.foldl (accStep s i) st).1 = st.1 + pre.length := by
  induction pre generalizing st with
  | nil => rfl
  | cons x pre ih => rw [List.foldl_cons, ih]; simp [accStep]; omega
theorem acc_snoc (s : List UInt8) (pre : List (Nat × Nat)) (x : Nat × Nat) (i : Nat) : acc s (pre ++ [x]) i = if x.1 = i then acc s pre i ||| (s.getD pre.length 0).toNat <<< (8 * x.2) else acc s pre i := by
  unfold acc
  rw [List.foldl_append]
  show (if x.1 = i then (pre.foldl (accStep s i) (0, 0)).2 ||| (s.getD (pre.foldl (accStep s i) (0, 0)).1 0).toNat <<< (8 * x.2) else (pre.foldl (accStep s i) (0, 0)).2) = _
  rw [acc_fst, Nat.zero_add]
theorem byte_shl_lt (c : UInt8) {k : Nat} (hk : k < 8) : c.toNat <<< (8 * k) < 18446744073709551616 := by
  rw [Nat.shiftLeft_eq]
  have h1 := c.toNat_lt
  have h2 : 2 ^ (8 * k) ≤ 2 ^ 56 := Nat.pow_le_pow_right (by decide) (by omega)
  exact Nat.lt_of_le_of_lt (Nat.mul_le_mul (show c.toNat ≤ 255 by omega) h2) (by decide)
theorem acc_lt (s : List UInt8) (i : Nat) (pre : List (Nat × Nat)) (h : ∀ x ∈ pre, x.2 < 8) : acc s pre i < 18446744073709551616 := by
  have key : ∀ (pre : List (Nat × Nat)) (st : Nat × Nat), (∀ x ∈ pre, x.2 < 8) → st.2 < 2 ^ 64 → (pre.foldl (accStep s i) st).2 < 2 ^ 64 := by
    intro pre
    induction pre with
    | nil => exact fun _ _ h => h
    | cons x pre ih =>
      intro st hx hst
      refine ih _ (fun y hy => hx y (List.mem_cons_of_mem _ hy)) ?_
      unfold accStep
      dsimp only
      split
      · exact Nat.or_lt_two_pow hst (byte_shl_lt _ (hx x (List.mem_cons_self ..)))
      · exact hst
  exact key pre (0, 0) h (by decide)
theorem acc_all (s : List UInt8) (ws : List Int) (j : Nat) (i k : Nat) : acc s (plP ws i k) j = if j < i then num s (offs ws j) (wd ws j) else if j = i then num s (offs ws i) k else 0 := by
  induction i generalizing k with
  | zero =>
    induction k with
    | zero => simp [plP, acc, num]
    | succ k ih =>
      rw [plP_succ, acc_snoc, ih, plP_length]
      by_cases e : j = 0
      · subst e; simp only [if_pos, Nat.lt_irrefl, if_false]; exact num_or s _ k
      · rw [if_neg (fun h => e h.symm)]; simp [e]
  | succ i ihi =>
    induction k with
    | zero =>
      rw [← plP_next, ihi]
      by_cases e1 : j < i
      · rw [if_pos e1, if_pos (by omega)]
      · by_cases e2 : j = i
        · subst e2; simp
        · rw [if_neg e1, if_neg e2, if_neg (by omega)]
          split
          · rfl
          · rfl
    | succ k ih =>
      rw [plP_succ, acc_snoc, ih, plP_length]
      by_cases e : j = i + 1
      · subst e; simp only [if_pos, Nat.lt_irrefl, if_false]; exact num_or s _ k
      · rw [if_neg (fun h => e h.symm)]; simp [e]
theorem or_byte (A : Nat) (c : UInt8) (k : Nat) (hA : A < 18446744073709551616) (hk : k < 8) : bits BinOp.or IntKind.u64 (A : Int) (IntKind.u64.wrap (IntKind.u64.wrap (c.toNat : Int) * 2 ^ (8 * k))) = ((A ||| c.toNat <<< (8 * k) : Nat) : Int) := by
  have hc := c.toNat_lt
  have h := byte_shl_lt c hk
  have e : IntKind.u64.wrap (IntKind.u64.wrap (c.toNat : Int) * 2 ^ (8 * k)) = ((c.toNat <<< (8 * k) : Nat) : Int) := by
    have e1 : IntKind.u64.wrap (c.toNat : Int) = (c.toNat : Int) := by rw [IntKind.wrap_u64]; omega
    have e2 : (c.toNat : Int) * 2 ^ (8 * k) = ((c.toNat <<< (8 * k) : Nat) : Int) := by rw [Nat.shiftLeft_eq, Int.natCast_mul, Int.natCast_pow]; rfl
    rw [e1, e2, IntKind.wrap_u64]
    obtain ⟨y, hy⟩ : ∃ y, c.toNat <<< (8 * k) = y := ⟨_, rfl⟩
    rw [hy] at h ⊢; omega
  rw [e]
  exact u64_or_nat A _ hA h
end Pk

end Go.Proofs.Ytmikllmpinciiaa
